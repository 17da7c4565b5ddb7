/-
  PROVED HERE: what Take and New of the document's answer for layer 11, and the statements' own example, return when they are called (contracts over this translation). Frames are fewer than 2^38 where they are changed.
-/
import Derived.Test.YtjdjiooblfgmlaaFrm11
namespace Go.Proofs.Ytjdjiooblfgmlaa
open Go.RowKit Go.Shelf
set_option linter.unusedVariables false
attribute [local go_sem] Oper.semAt_some

set_option maxRecDepth 100000 in
set_option maxHeartbeats 2000000 in
theorem rtake_any {w : World} {ao : Option Addr} {n cap : Nat} {L : List Frm.Fr} (hL : Lab w.heap.size w ao n cap L) (hn : n < 274877906944) (o p : Int) :
    Calls Try.prog 14 #[.slice ao n cap, .int .u64 o, .int .i64 p] w fun e w' => ∃ ao1 cap1, e = .returned (.tuple #[.slice ao1 n cap1, .int .i64 (Frm.tkN L o p), .int .i64 (Frm.tkE L o p)]) ∧ Lab w'.heap.size w' ao1 n cap1 (Frm.tkL L o p) ∧ Below w.heap.size w w' := by
  have hln : Hid (L.length = n) := hL.1
  have hcm := hL.2.2.1.1
  have hnc := hL.2.1
  have hcp := rcopied_any hL hn
  have hfd := rfind_any hL o p
  have hbad : Hid (Frm.badB o p = (decide (o = 0) || !(decide (0 ≤ p) && decide (p ≤ 1048576)))) := rfl
  have h4 : Hid (Frm.badB o p = true → Frm.tkE L o p = 4 ∧ Frm.tkL L o p = L ∧ Frm.tkN L o p = 0) := fun h => by
    have hE : Frm.tkE L o p = 4 := by unfold Frm.tkE; rw [h]; rfl
    exact ⟨hE, by unfold Frm.tkL; rw [hE, if_neg (by omega)], by unfold Frm.tkN; rw [hE, if_neg (by omega)]⟩
  have h12 : Hid (Frm.badB o p = false → Frm.fF (Frm.poB o p) L = true → Frm.tkE L o p = 12 ∧ Frm.tkL L o p = L ∧ Frm.tkN L o p = 0) := fun h k => by
    have hE : Frm.tkE L o p = 12 := by unfold Frm.tkE; rw [h, k]; rfl
    exact ⟨hE, by unfold Frm.tkL; rw [hE, if_neg (by omega)], by unfold Frm.tkN; rw [hE, if_neg (by omega)]⟩
  have h6 : Hid (Frm.badB o p = false → Frm.fF (Frm.poB o p) L = false → Frm.fst Frm.isF L = none → Frm.tkE L o p = 6 ∧ Frm.tkL L o p = L ∧ Frm.tkN L o p = 0) := fun h k f => by
    have hE : Frm.tkE L o p = 6 := by unfold Frm.tkE; rw [h, k]; unfold Frm.fF; rw [f]; rfl
    exact ⟨hE, by unfold Frm.tkL; rw [hE, if_neg (by omega)], by unfold Frm.tkN; rw [hE, if_neg (by omega)]⟩
  have hk0 : Hid (∀ i, Frm.badB o p = false → Frm.fF (Frm.poB o p) L = false → Frm.fst Frm.isF L = some i → Frm.tkE L o p = 0 ∧ Frm.tkL L o p = L.set i (o, p) ∧ Frm.tkN L o p = (i : Nat)) := fun i h k f => by
    have hE : Frm.tkE L o p = 0 := by unfold Frm.tkE; rw [h, k]; unfold Frm.fF; rw [f]; rfl
    exact ⟨hE, by unfold Frm.tkL Frm.fI; rw [hE, if_pos rfl, f]; rfl, by unfold Frm.tkN Frm.fN; rw [hE, if_pos rfl, f]; rfl⟩
  by_cases h0 : o = 0
  · obtain ⟨hE, hR, hN⟩ := h4.out (by rw [hbad.out]; simp [h0])
    rw [hE, hR, hN]
    subst h0
    clear hE hR hN
    go_enter Try.func14, Try.ntmps14
    go_wp2_with (go_at_call 20; refine hfd.mono ?_; rintro e w1 ⟨rfl, rfl⟩)
    go_ret3
    exact ⟨_, _, rfl, hL, Below.refl _ _⟩
  · have h0' : (o == 0) = false := by simpa using h0
    by_cases hp0 : p < 0
    · obtain ⟨hE, hR, hN⟩ := h4.out (by rw [hbad.out]; simp; omega)
      rw [hE, hR, hN]
      clear hE hR hN
      go_enter Try.func14, Try.ntmps14
      go_wp2_with (go_at_call 20; refine hfd.mono ?_; rintro e w1 ⟨rfl, rfl⟩)
      go_ret3
      exact ⟨_, _, rfl, hL, Below.refl _ _⟩
    · by_cases hp1 : 1048576 < p
      · obtain ⟨hE, hR, hN⟩ := h4.out (by rw [hbad.out]; simp; omega)
        rw [hE, hR, hN]
        clear hE hR hN
        go_enter Try.func14, Try.ntmps14
        go_wp2_with (go_at_call 20; refine hfd.mono ?_; rintro e w1 ⟨rfl, rfl⟩)
        go_ret3
        exact ⟨_, _, rfl, hL, Below.refl _ _⟩
      · have hb0 : Hid (Frm.badB o p = false) := by
          show _ = _
          have e1 : (0 : Int) ≤ p := by omega
          have e2 : p ≤ 1048576 := by omega
          rw [hbad.out]; simp [h0, e1, e2]
        cases hf : Frm.fF (Frm.poB o p) L with
        | true =>
          obtain ⟨hE, hR, hN⟩ := h12.out hb0.out hf
          rw [hE, hR, hN]
          rw [hf] at hfd
          clear hE hR hN
          go_enter Try.func14, Try.ntmps14
          go_wp2_with (go_at_call 20; refine hfd.mono ?_; rintro e w1 ⟨rfl, rfl⟩)
          go_ret3
          exact ⟨_, _, rfl, hL, Below.refl _ _⟩
        | false =>
          rw [hf] at hfd
          have hF : Hid (Frm.fF (Frm.poB o p) L = false) := hf
          clear hf
          go_enter Try.func14, Try.ntmps14
          go_wp2_with (go_at_call 20; refine hfd.mono ?_; rintro e w1 ⟨rfl, rfl⟩)
          go_loopw [11] (fun i wr => ∃ k : Nat, k ≤ n ∧ i = .int .i64 k ∧ Hid (∀ j, j < k → Frm.isF (Frm.fat L j) = false) ∧ wr = w1) (fun i _ => n - (intOf i).toNat)
          case atStart => exact ⟨0, Nat.zero_le _, rfl, fun j hj => absurd hj (by omega), rfl⟩
          case round =>
            obtain ⟨k, hk, rfl, hal, rfl⟩ := hrel
            by_cases hkn : k < n
            · have hkn' : (k : Int) < n := by omega
              have hn0 : 0 < n := by omega
              obtain ⟨b, off, x, y, rfl, hB, q0, q1, hxy⟩ := LabD.at hL hkn
              have hxf : Hid (Frm.fat L k = (x, y)) := hxy.out
              by_cases hx : x = 0
              · subst hx
                have hAll : Hid (Frm.tkE L o p = 0 ∧ Frm.tkL L o p = L.set k (o, p) ∧ Frm.tkN L o p = (k : Nat)) := hk0.out k hb0.out hF.out (Frm.fst_some.2 ⟨by rw [hln.out]; exact hkn, by rw [hxf.out]; rfl, hal.out⟩)
                go_wp2_with (go_at_call 33; refine hcp.mono ?_; rintro e w2 ⟨ao1, cap1, rfl, hown, hb1⟩; obtain ⟨g, rfl, hg0, hg1, hg2, hg3⟩ := hown.form hn0; have fz := fun j => hown.2.frozenAt j; obtain ⟨r0, r1⟩ := hown.cells hkn)
                go_ret3
                rw [hAll.out.1, hAll.out.2.1, hAll.out.2.2]
                exact ⟨_, _, rfl, (hown.set k o p).lab, (hb1.setCell (p := ⟨g, k * 2, none⟩) (by show wr.heap.size ≤ g; omega) _).setCell (p := ⟨g, k * 2 + 1, none⟩) (by show wr.heap.size ≤ g; omega) _⟩
              · have hx' : (x == 0) = false := by simpa using hx
                have hal2 : Hid (∀ j, j < k + 1 → Frm.isF (Frm.fat L j) = false) := Frm.all_lt hal.out (by rw [hxf.out]; simp [Frm.isF, hx])
                go_wp2
                go_roundw
                case rel => exact ⟨k + 1, by omega, by go_num, hal2, trivial⟩
                case measure => simp [intOf]; omega
            · obtain rfl : k = n := by omega
              have hAll : Hid (Frm.tkE L o p = 6 ∧ Frm.tkL L o p = L ∧ Frm.tkN L o p = 0) := h6.out hb0.out hF.out (Frm.fst_none.2 fun i hi => hal.out i (by rw [hln.out] at hi; exact hi))
              go_wp2
              go_ret3
              rw [hAll.out.1, hAll.out.2.1, hAll.out.2.2]
              exact ⟨_, _, rfl, hL, Below.refl _ _⟩
theorem lab_made (w : World) (n : Nat) (hn : n ≤ 4096) : Lab (w.alloc (.cells (madeCells #[.int .u64 0, .int .i64 0] (n * 2)) 51)).heap.size (w.alloc (.cells (madeCells #[.int .u64 0, .int .i64 0] (n * 2)) 51)) (some ⟨w.heap.size, 0, none⟩) n n (Frm.newL n) := by
  refine ⟨by simp [Frm.newL], Nat.le_refl _, ⟨by omega, fun h => by cases h⟩, fun h0 => ⟨w.heap.size, 0, rfl, by simp, fun i hi => ?_⟩⟩
  have hg : (Frm.newL n).getD i (0, 0) = (0, 0) := by unfold Frm.newL; rw [List.getD_eq_getElem?_getD, List.getElem?_replicate]; simp [hi]
  have key : ∀ j, j < n * 2 → (w.alloc (.cells (madeCells #[.int .u64 0, .int .i64 0] (n * 2)) 51)).cell? ⟨w.heap.size, j, none⟩ = some ((#[Value.int .u64 0, Value.int .i64 0])[j % 2]!) := fun j hj => by
    have h2 := World.alloc_heap_new w (.cells (madeCells #[.int .u64 0, .int .i64 0] (n * 2)) 51)
    unfold World.cell?
    rw [h2]
    simp [madeCells, hj]
  rw [hg]
  refine ⟨?_, ?_⟩
  · rw [Nat.zero_add, key _ (by omega), show i * 2 % 2 = 0 by omega]; rfl
  · rw [Nat.zero_add, key _ (by omega), show (i * 2 + 1) % 2 = 1 by omega]; rfl
theorem rnew_any (n : Nat) (hn : n ≤ 4096) (w : World) :
    Calls Try.prog 8 #[.int .i64 (n : Int)] w fun e w' => ∃ ao1 cap1, e = .returned (.tuple #[.slice ao1 n cap1, .int .i64 0]) ∧ Lab w'.heap.size w' ao1 n cap1 (Frm.newL n) ∧ Below w.heap.size w w' := by
  obtain ⟨i0, hi, hz0, hz1, hz2⟩ := info_parts infoFrame
  have hmk : ∀ W, (Instr.makeSlice 22 (.int .i64 (n : Int)) (.int .i64 (n : Int))).run Try.prog W = .ok (.slice (some ⟨W.heap.size, 0, none⟩) n n) (W.alloc (.cells (madeCells #[.int .u64 0, .int .i64 0] (n * 2)) 51)) := fun W => by
    have := run_make (P := Try.prog) W 22 51 i0 (.agg #[.int .u64 0, .int .i64 0]) Try.underlying22 hi hz0 .i64 .i64 n n (by omega) (Int.le_refl _) (by rw [hz2]; omega) (by omega)
    rw [hz1] at this
    simpa [Value.cells] using this
  have hlm := lab_made w n hn
  go_enter Try.func8, Try.ntmps8
  go_wp2
  go_ret2
  exact ⟨_, _, rfl, hlm, (Below.refl _ w).alloc (Nat.le_refl _) _⟩
theorem rnewBad_any (n : Int) (hn : Frm.nmB n = false) (w : World) :
    Calls Try.prog 8 #[.int .i64 n] w fun e w' => e = .returned (.tuple #[.slice none 0 0, .int .i64 4]) ∧ Below w.heap.size w w' := by
  by_cases h0 : n < 0
  · go_enter Try.func8, Try.ntmps8
    go_wp2
    go_ret2
    exact ⟨rfl, Below.refl _ _⟩
  · have h1 : 4096 < n := by simp [Frm.nmB] at hn; omega
    clear hn
    go_enter Try.func8, Try.ntmps8
    go_wp2
    go_ret2
    exact ⟨rfl, Below.refl _ _⟩
theorem awake11 (w : World) : Calls Try.prog 6 #[] w fun e w' => e = .returned (.bool true) ∧ Below w.heap.size w w' := by
  have hn := new_any 2 (by omega) w
  have hE : Frm.tkE (Frm.newL 2) 7 0 = 0 := by decide
  have hN : Frm.tkN (Frm.newL 2) 7 0 = 0 := by decide
  have hR : Frm.tkL (Frm.newL 2) 7 0 = [(7, 0), (0, 0)] := by decide
  have hG : Frm.gvE (Frm.newL 2) 7 0 = 1 := by decide
  go_enter Try.func6, Try.ntmps6
  go_wp2_with (first
    | (go_at_call 7; refine hn.mono ?_; clear hn; rintro e w1 ⟨ao1, cap1, rfl, hl1, hb1⟩)
    | (go_at_call 13; refine (take_any hl1 (by omega) 7 0).mono ?_; rintro e w2 ⟨ao2, cap2, rfl, hl2, hb2⟩; rw [hE, hN]; rw [hR] at hl2)
    | (go_at_call 15; refine (give_any (hl1.next hb2) (by omega) 7 0).mono ?_; rintro e w3 ⟨ao3, cap3, rfl, hl3, hb3⟩; rw [hG]; have hl2' := hl2.next hb3)
    | (go_at_call 7; refine (newBad_any (-1) (by decide) _).mono ?_; rintro e w4 ⟨rfl, hb4⟩; obtain ⟨b, off, rfl, hB, q0, q1, _⟩ := (hl2'.next hb4).head; have hcap := (hl2'.next hb4).2.1; have hcap2 := (hl2'.next hb4).2.2.1.1))
  go_ret
  exact ⟨rfl, ((hb1.trans (hb2.mono hb1.size)).trans (hb3.mono (Nat.le_trans hb1.size hb2.size))).trans (hb4.mono (Nat.le_trans hb1.size (Nat.le_trans hb2.size hb3.size)))⟩
end Go.Proofs.Ytjdjiooblfgmlaa
