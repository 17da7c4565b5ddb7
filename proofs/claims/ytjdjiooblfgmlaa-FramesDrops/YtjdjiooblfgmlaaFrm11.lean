/-
  PROVED HERE: what the document's answer for layer 11 returns when it is called, the second part (contracts over this translation). Frames are fewer than 2^38 where they are changed.
-/
import Derived.Test.YtjdjiooblfgmlaaFrm10
namespace Go.Proofs.Ytjdjiooblfgmlaa
open Go.RowKit Go.Shelf
set_option linter.unusedVariables false
attribute [local go_sem] Oper.semAt_some

set_option maxRecDepth 100000 in
set_option maxHeartbeats 2000000 in
theorem rfit_any {w : World} {ao : Option Addr} {n cap : Nat} {L : List Frm.Fr} (hL : Lab w.heap.size w ao n cap L) :
    Calls Try.prog 10 #[.slice ao n cap] w fun e w' => e = .returned (.bool (Frm.fitB L)) ∧ Below w.heap.size w w' := by
  have hln : Hid (L.length = n) := hL.1
  have hcm := hL.2.2.1.1
  have hnc := hL.2.1
  by_cases h0 : n ≤ 4096
  · have hno : Hid (∀ k, k < n → Frm.okAt L k = false → Frm.fitB L = false) := fun k hk h => by
      unfold Frm.fitB
      have : ((List.range L.length).all (Frm.okAt L)) = false := by rw [List.all_eq_false]; exact ⟨k, List.mem_range.2 (by rw [hln.out]; exact hk), by simp [h]⟩
      rw [this]; simp
    have hyes : Hid ((∀ k, k < n → Frm.okAt L k = true) → Frm.fitB L = true) := fun h => by
      unfold Frm.fitB
      have : ((List.range L.length).all (Frm.okAt L)) = true := by rw [List.all_eq_true]; exact fun k hk => h k (by rw [List.mem_range, hln.out] at hk; exact hk)
      rw [this, hln.out]; simp [h0]
    go_enter Try.func10, Try.ntmps10
    go_wp2
    go_loopw [3] (fun i wr => ∃ k : Nat, k ≤ n ∧ i = .int .i64 k ∧ Hid (∀ j, j < k → Frm.okAt L j = true) ∧ Below w.heap.size w wr) (fun i _ => n - (intOf i).toNat)
    case atStart => exact ⟨0, Nat.zero_le _, rfl, fun j hj => absurd hj (by omega), Below.refl _ _⟩
    case round =>
      obtain ⟨k, hk, rfl, hal, hb⟩ := hrel
      by_cases hkn : k < n
      · have hkn' : (k : Int) < n := by omega
        have hLr := hL.next hb
        obtain ⟨b, off, x, y, rfl, hB, q0, q1, hxy⟩ := LabD.at hLr hkn
        have hxf : Hid (Frm.fat L k = (x, y)) := hxy.out
        have hB1 : Below w.heap.size w (wr.alloc (.cells #[.int .u64 x, .int .i64 y] 51)) := hb.alloc hb.size _
        have hcl := rfind_any (hLr.next ((Below.refl _ wr).alloc (Nat.le_refl _) (.cells #[.int .u64 x, .int .i64 y] 51))) x y
        have hT := Two.new wr 51 (.int .u64 x) (.int .i64 y)
        have t0 := hT.cell0
        have t1 := hT.cell1
        have hok : Hid (Frm.okAt L k = (!(!(decide (0 ≤ y) && decide (y ≤ 1048576)) || (decide (x = 0) && !decide (y = 0))) && ((Frm.fst (Frm.poB x y) L).getD k == k))) := by show _ = _; unfold Frm.okAt Frm.wrB Frm.pgB Frm.isF; rw [hxf.out]
        by_cases hy0 : y < 0
        · have hf : Hid (Frm.fitB L = false) := hno.out k hkn (by rw [hok.out]; have : ¬ 0 ≤ y := by omega
                                                                  simp [this])
          go_wp2
          go_ret
          exact ⟨by rw [hf.out]; rfl, hB1⟩
        · by_cases hy1 : 1048576 < y
          · have hf : Hid (Frm.fitB L = false) := hno.out k hkn (by rw [hok.out]; have : ¬ y ≤ 1048576 := by omega
                                                                    simp [this])
            go_wp2
            go_ret
            exact ⟨by rw [hf.out]; rfl, hB1⟩
          · have hpg : Hid ((decide (0 ≤ y) && decide (y ≤ 1048576)) = true) := by show _ = _; simp; omega
            by_cases hx0 : x = 0
            · subst hx0
              by_cases hy2 : y = 0
              · subst hy2
                have hff : Frm.fF (Frm.poB 0 0) L = false := by unfold Frm.fF; rw [Frm.fst0]; rfl
                have hal2 : Hid (∀ j, j < k + 1 → Frm.okAt L j = true) := Frm.all_lt hal.out (by rw [hok.out, Frm.fst0]; simp)
                rw [hff] at hcl
                go_wp2_with (go_at_call 20; refine hcl.mono ?_; rintro e w1 ⟨rfl, rfl⟩)
                go_roundw
                case rel => exact ⟨k + 1, by omega, by go_num, hal2, hB1⟩
                case measure => simp [intOf]; omega
              · have hy' : (y == 0) = false := by simpa using hy2
                have hf : Hid (Frm.fitB L = false) := hno.out k hkn (by rw [hok.out]; simp [hy2])
                go_wp2
                go_ret
                exact ⟨by rw [hf.out]; rfl, hB1⟩
            · have hx' : (x == 0) = false := by simpa using hx0
              have hok2 : Hid (Frm.okAt L k = ((Frm.fst (Frm.poB x y) L).getD k == k)) := by show _ = _; rw [hok.out, hpg.out]; simp [hx0]
              cases hfs : Frm.fst (Frm.poB x y) L with
              | none =>
                have hff : Frm.fF (Frm.poB x y) L = false := by unfold Frm.fF; rw [hfs]; rfl
                have hal2 : Hid (∀ j, j < k + 1 → Frm.okAt L j = true) := Frm.all_lt hal.out (by rw [hok2.out, hfs]; simp)
                rw [hff] at hcl
                clear hfs
                go_wp2_with (go_at_call 20; refine hcl.mono ?_; rintro e w1 ⟨rfl, rfl⟩)
                go_roundw
                case rel => exact ⟨k + 1, by omega, by go_num, hal2, hB1⟩
                case measure => simp [intOf]; omega
              | some m =>
                have hff : Frm.fF (Frm.poB x y) L = true := by unfold Frm.fF; rw [hfs]; rfl
                have hfn : Frm.fN (Frm.poB x y) L = (m : Nat) := by unfold Frm.fN; rw [hfs]; rfl
                rw [hff, hfn] at hcl
                by_cases hmk : m = k
                · have hal2 : Hid (∀ j, j < k + 1 → Frm.okAt L j = true) := Frm.all_lt hal.out (by rw [hok2.out, hfs]; simp [hmk])
                  subst hmk
                  clear hfs hff hfn
                  go_wp2_with (go_at_call 20; refine hcl.mono ?_; rintro e w1 ⟨rfl, rfl⟩)
                  go_roundw
                  case rel => exact ⟨m + 1, by omega, by go_num, hal2, hB1⟩
                  case measure => simp [intOf]; omega
                · have hf : Hid (Frm.fitB L = false) := hno.out k hkn (by rw [hok2.out, hfs]; simp [hmk])
                  have hmk' : ((m : Int) == (k : Int)) = false := by rw [beq_eq_false_iff_ne]; omega
                  clear hfs hff hfn
                  go_wp2_with (go_at_call 20; refine hcl.mono ?_; rintro e w1 ⟨rfl, rfl⟩)
                  go_ret
                  exact ⟨by rw [hf.out]; rfl, hB1⟩
      · obtain rfl : k = n := by omega
        have hf : Hid (Frm.fitB L = true) := hyes.out hal.out
        go_wp2
        go_ret
        exact ⟨by rw [hf.out]; rfl, hb⟩
  · have hf : Hid (Frm.fitB L = false) := by show _ = _; unfold Frm.fitB; rw [hln.out]; simp [h0]
    go_enter Try.func10, Try.ntmps10
    go_wp2
    go_ret
    exact ⟨by rw [hf.out]; rfl, Below.refl _ _⟩
set_option maxHeartbeats 1000000 in
theorem rgive_any {w : World} {ao : Option Addr} {n cap : Nat} {L : List Frm.Fr} (hL : Lab w.heap.size w ao n cap L) (hn : n < 274877906944) (o p : Int) :
    Calls Try.prog 16 #[.slice ao n cap, .int .u64 o, .int .i64 p] w fun e w' => ∃ ao1 cap1, e = .returned (.tuple #[.slice ao1 n cap1, .int .i64 (Frm.gvE L o p)]) ∧ Lab w'.heap.size w' ao1 n cap1 (Frm.gvL L o p) ∧ Below w.heap.size w w' := by
  have hln : Hid (L.length = n) := hL.1
  have hfd := rfind_any hL o p
  cases hf : Frm.fF (Frm.poB o p) L with
  | false =>
    have hE : Hid (Frm.gvE L o p = 1) := by show _ = _; unfold Frm.gvE; rw [hf]; rfl
    have hR : Hid (Frm.gvL L o p = L) := by show _ = _; unfold Frm.gvL; rw [hf]; rfl
    rw [hE.out, hR.out]
    rw [hf] at hfd
    go_enter Try.func16, Try.ntmps16
    go_wp2_with (go_at_call 20; refine hfd.mono ?_; rintro e w2 ⟨rfl, rfl⟩)
    go_ret2
    exact ⟨_, _, rfl, hL, Below.refl _ _⟩
  | true =>
    have hE : Hid (Frm.gvE L o p = 0) := by show _ = _; unfold Frm.gvE; rw [hf]; rfl
    have hR : Hid (Frm.gvL L o p = L.set (Frm.fI (Frm.poB o p) L) (0, 0)) := by show _ = _; unfold Frm.gvL; rw [hf]; rfl
    have hlt : Frm.fI (Frm.poB o p) L < n := by rw [← hln.out]; exact Frm.fI_lt hf
    have hfN : Frm.fN (Frm.poB o p) L = (Frm.fI (Frm.poB o p) L : Nat) := rfl
    rw [hE.out, hR.out]
    rw [hf, hfN] at hfd
    obtain ⟨k, hk⟩ : ∃ k, Frm.fI (Frm.poB o p) L = k := ⟨_, rfl⟩
    rw [hk] at hlt hfd ⊢
    clear hk hR hfN
    have hkn : (k : Int) < n := by omega
    have hn0 : 0 < n := by omega
    have hcp := rcopied_any hL hn
    go_enter Try.func16, Try.ntmps16
    go_wp2_with (first | (go_at_call 20; refine hfd.mono ?_; rintro e w2 ⟨rfl, rfl⟩) | (go_at_call 33; refine hcp.mono ?_; rintro e w1 ⟨ao1, cap1, rfl, hown, hb1⟩; obtain ⟨g, rfl, hg0, hg1, hg2, hg3⟩ := hown.form hn0; have fz := fun j => hown.2.frozenAt j; obtain ⟨q0, q1⟩ := hown.cells hlt))
    go_ret2
    exact ⟨_, _, rfl, (hown.set k 0 0).lab, (hb1.setCell (p := ⟨g, k * 2, none⟩) (by show w2.heap.size ≤ g; omega) _).setCell (p := ⟨g, k * 2 + 1, none⟩) (by show w2.heap.size ≤ g; omega) _⟩
set_option maxRecDepth 100000 in
set_option maxHeartbeats 1000000 in
theorem rdrop_any {w : World} {ao : Option Addr} {n cap : Nat} {L : List Frm.Fr} (hL : Lab w.heap.size w ao n cap L) (hn : n < 274877906944) (o : Int) :
    Calls Try.prog 18 #[.slice ao n cap, .int .u64 o] w fun e w' => ∃ ao1 cap1, e = .returned (.tuple #[.slice ao1 n cap1, .int .i64 (Frm.cnt (Frm.hdB o) L : Nat)]) ∧ Lab w'.heap.size w' ao1 n cap1 (Frm.dropL o L) ∧ Below w.heap.size w w' := by
  have hln : Hid (L.length = n) := hL.1
  have hcm := hL.2.2.1.1
  have hnc := hL.2.1
  have hcp := rcopied_any hL hn
  go_enter Try.func18, Try.ntmps18
  go_wp2_with (go_at_call 33; refine hcp.mono ?_; rintro e w1 ⟨ao1, cap1, rfl, hown, hb1⟩)
  have hL1 := hL.next hb1
  go_loopw [7, 8] (fun v i wr => ∃ k c : Nat, k ≤ n ∧ c ≤ k ∧ i = .int .i64 k ∧ v = .int .i64 c ∧ Hid ((Frm.hitK (Frm.hdB o) L k).length = c) ∧ OwnL w.heap.size wr ao1 n cap1 (Frm.frK L (Frm.hitK (Frm.hdB o) L k)) ∧ Below w.heap.size w wr) (fun _ i _ => n - (intOf i).toNat)
  case atStart => exact ⟨0, 0, Nat.zero_le _, Nat.le_refl _, rfl, rfl, rfl, hown, hb1⟩
  case round =>
    obtain ⟨k, c, hk, hck, rfl, rfl, hal, hW, hbw⟩ := hrel
    by_cases hkn : k < n
    · have hkn' : (k : Int) < n := by omega
      by_cases h0 : o = 0
      · subst h0
        have hk0 : Frm.hitK (Frm.hdB 0) L k = [] := by unfold Frm.hitK; rw [List.filter_eq_nil_iff]; intro i _; rw [Frm.hd0]; simp
        have hc0 : c = 0 := by have := hal.out; rw [hk0] at this; exact this.symm
        subst hc0
        have hW' : Hid (OwnL w.heap.size wr ao1 n cap1 L) := by have h1 := hW; rw [hk0] at h1; exact h1
        have hR : Hid (Frm.dropL 0 L = L) := Frm.drop0 L
        have hC : Hid (Frm.cnt (Frm.hdB 0) L = 0) := Frm.cnt0 L
        clear hk0 hW
        go_wp2
        go_ret2
        exact ⟨_, _, by rw [hC.out]; rfl, by rw [hR.out]; exact hW'.out.lab, hbw⟩
      · have h0' : (o == 0) = false := by simpa using h0
        have hn0 : 0 < n := by omega
        obtain ⟨b, off, x, y, rfl, hB, q0, q1, hxy⟩ := LabD.at (hL.later hbw) hkn
        have hxf : Hid (Frm.fat L k = (x, y)) := hxy.out
        obtain ⟨g, rfl, hg0, hg1, hg2, hg3⟩ := hW.form hn0
        have fz := fun j => hW.2.frozenAt j
        obtain ⟨r0, r1⟩ := hW.cells hkn
        by_cases hx : x = o
        · subst hx
          have hhit := Frm.hitK_hit (P := Frm.hdB x) (L := L) (k := k) (by rw [hxf.out]; simp [Frm.hdB, Frm.isF, h0])
          have hal2 : Hid ((Frm.hitK (Frm.hdB x) L (k + 1)).length = c + 1) := by show _ = _; rw [hhit, List.length_append, hal.out]; rfl
          have hS : Hid (Frm.frK L (Frm.hitK (Frm.hdB x) L (k + 1)) = (Frm.frK L (Frm.hitK (Frm.hdB x) L k)).set k (0, 0)) := by show _ = _; rw [hhit, Frm.frK_snoc]
          clear hhit
          go_wp2
          go_roundw
          case rel => exact ⟨k + 1, c + 1, by omega, by omega, by go_num, by go_num, hal2, by rw [hS.out]; exact hW.set k 0 0, (hbw.setCell (p := ⟨g, k * 2, none⟩) (by show w.heap.size ≤ g; omega) _).setCell (p := ⟨g, k * 2 + 1, none⟩) (by show w.heap.size ≤ g; omega) _⟩
          case measure => simp [intOf]; omega
        · have hx' : (x == o) = false := by simpa using hx
          have hmiss := Frm.hitK_miss (P := Frm.hdB o) (L := L) (k := k) (by rw [hxf.out]; simp [Frm.hdB, hx])
          have hal2 : Hid ((Frm.hitK (Frm.hdB o) L (k + 1)).length = c) := by show _ = _; rw [hmiss, hal.out]
          have hS : Hid (Frm.frK L (Frm.hitK (Frm.hdB o) L (k + 1)) = Frm.frK L (Frm.hitK (Frm.hdB o) L k)) := by show _ = _; rw [hmiss]
          clear hmiss
          go_wp2
          go_roundw
          case rel => exact ⟨k + 1, c, by omega, by omega, by go_num, rfl, hal2, by rw [hS.out]; exact hW, hbw⟩
          case measure => simp [intOf]; omega
    · obtain rfl : k = n := by omega
      have hr : Hid (Frm.cnt (Frm.hdB o) L = c) := by show _ = _; rw [← Frm.hits_len]; unfold Frm.hits; rw [hln.out]; exact hal.out
      have hS : Hid (Frm.frK L (Frm.hitK (Frm.hdB o) L k) = Frm.dropL o L) := by show _ = _; rw [← Frm.frK_hits]; unfold Frm.hits; rw [hln.out]
      rw [hS.out] at hW
      go_wp2
      go_ret2
      exact ⟨_, _, by rw [hr.out]; rfl, hW.lab, hbw⟩
theorem rheld_any {w : World} {ao : Option Addr} {n cap : Nat} {L : List Frm.Fr} (hL : Lab w.heap.size w ao n cap L) (hn : n < 274877906944) (o : Int) :
    Calls Try.prog 24 #[.slice ao n cap, .int .u64 o] w fun e w' => e = .returned (.int .i64 (Frm.cnt (Frm.hdB o) L : Nat)) ∧ Below w.heap.size w w' := by
  have hc := rdrop_any hL hn o
  go_enter Try.func24, Try.ntmps24
  go_wp2_with (go_at_call 18; refine hc.mono ?_; rintro e w1 ⟨ao1, cap1, rfl, hl1, hb1⟩)
  go_ret
  exact ⟨rfl, hb1⟩
end Go.Proofs.Ytjdjiooblfgmlaa
