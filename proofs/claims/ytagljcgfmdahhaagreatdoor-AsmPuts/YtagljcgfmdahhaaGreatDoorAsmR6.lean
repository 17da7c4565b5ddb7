/-
  PROVED HERE: what Put of package curtilageref10 returns when it is called: a program's words (a contract over this translation). At most 4000 lines.
-/
import Derived.Test.YtagljcgfmdahhaaGreatDoorAsmR1
import Derived.Test.YtagljcgfmdahhaaGreatDoorAsmApp
namespace Go.Proofs.YtagljcgfmdahhaaGreatDoor
open Go.RowKit Go.Shelf
set_option linter.unusedVariables false
open Asm

theorem put_one {l : List Ln} (h : (scan bad1 [] l).2 ≠ 0) : putW l = [] ∧ putK l = (scan bad1 [] l).1 ∧ putE l = (scan bad1 [] l).2 := by
  unfold putW putK putE put
  rw [if_pos h]
  exact ⟨rfl, rfl, rfl⟩
theorem put_stop {l : List Ln} {k er : Nat} (h : (scan bad1 [] l).2 = 0) (h2 : scan (bad2 l) [] l = (k, er)) (h3 : er ≠ 0) : putW l = [] ∧ putK l = k ∧ putE l = er := by
  unfold putW putK putE put
  rw [if_neg (by simpa using h), if_pos (by rw [h2]; exact h3), h2]
  exact ⟨rfl, rfl, rfl⟩
theorem put_done {l : List Ln} (h : (scan bad1 [] l).2 = 0) (h2 : scan (bad2 l) [] l = (0, 0)) : putW l = wds l l 0 ∧ putK l = 0 ∧ putE l = 0 := by
  unfold putW putK putE put
  rw [if_neg (by simpa using h), if_neg (by rw [h2]; simp)]
  exact ⟨rfl, rfl, rfl⟩
theorem wds_hit {l : List Ln} {k : Nat} (hk : k < l.length) (e : emB (l.getD k default).mark = true) : wds l (l.take (k + 1)) 0 = wds l (l.take k) 0 ++ [wrd l (cnt (l.take k)) (l.getD k default)] := by
  rw [take_snoc hk, wds_app]
  revert e
  generalize l.getD k default = x
  intro e
  simp [wds, e]
theorem wds_miss {l : List Ln} {k : Nat} (hk : k < l.length) (e : emB (l.getD k default).mark = false) : wds l (l.take (k + 1)) 0 = wds l (l.take k) 0 := by
  rw [take_snoc hk, wds_app]
  revert e
  generalize l.getD k default = x
  intro e
  simp [wds, e]
theorem scan1_le (l : List Ln) : (scan bad1 [] l).2 ≤ 13 := by
  by_cases h : (scan bad1 [] l).2 = 0
  · omega
  · rw [← (put_one h).2.2]; exact putE_le l
set_option maxRecDepth 100000 in
set_option maxHeartbeats 4000000 in
theorem rput_any (ao : Option Addr) (n cap : Nat) (l : List Ln) (w : World) (hn : n ≤ 4000) (h : Lns w.heap.size w ao n cap l) (hok : Okl l) :
    Calls Tryz.prog 11 #[.slice ao n cap] w fun e w' => Below w.heap.size w w' ∧ ∃ v, e = .returned (.tuple #[v, .int .i64 ((putK l : Nat) : Int), .int .i64 ((putE l : Nat) : Int)]) ∧ w'.ownsRow w.heap.size 50 1 v (putW l).length (wV (putW l)) := by
  have hlen : Hid (l.length = n) := h.1
  have hOk : Hid (Okl l) := hok
  have hfi := rfirst_any ao n cap l w hn h hok
  clear hok
  have hs13 := scan1_le l
  obtain ⟨i0, hi, hz0, hz1, hz2⟩ := info_parts infoU64
  go_enter Tryz.func11, Tryz.ntmps11
  by_cases hs1 : (scan bad1 [] l).2 = 0
  · have hzer : Hid ((scan bad1 [] l).2 = 0) := hs1
    simp only [hs1] at hfi
    clear hs13 hs1
    go_wp2_with (go_at_call 28; refine hfi.mono ?_; rintro e w1 ⟨rfl, hb1⟩)
    go_loopw [7, 8] (fun vo vi wr => ∃ (k : Nat) (ws : List Int), k ≤ n ∧ vi = .int .i64 k ∧ wr.ownsRow w.heap.size 50 1 vo ws.length (wV ws) ∧ Hid (ws = wds l (l.take k) 0) ∧ ws.length ≤ k ∧ Hid (Zer (bad2 l) l k) ∧ Below w.heap.size w wr) (fun _ vi _ => n - (intOf vi).toNat)
    case atStart => exact ⟨0, [], Nat.zero_le _, rfl, ⟨rfl, .inl ⟨rfl, rfl⟩⟩, rfl, Nat.le_refl _, Zer.zero, hb1⟩
    case round =>
      obtain ⟨k, ws, hk, rfl, hrow, hws, hwl, hZ, hB⟩ := hrel
      obtain ⟨ar, cr, rfl⟩ := row_slice hrow
      by_cases hks : k < n
      · obtain ⟨b, off, m', op, a, b', c, i', tt, rfl, hb, hx, c0, c1, c2, c3, c4, c5, c6⟩ := LnsD.at (h.next hB) hks
        have hNx := h.next hB
        have hkl : Hid (k < l.length) := by show k < l.length; rw [hlen.out]; exact hks
        obtain ⟨⟨ho0, ha0, hb0, hc0, hi0, hi1⟩, hsm, hst⟩ := hOk.out.at hkl.out hx.out
        have hi0 : -2147483648 ≤ i' := hi0
        have hi1 : i' < 2147483648 := hi1
        have he := em_list m'
        have ht := em_list tt
        have hBa : Below wr.heap.size wr (wr.alloc (.cells #[.int .i64 op, .int .i64 a, .int .i64 b', .int .i64 c, .int .i32 i'] 45)) := (Below.refl _ wr).alloc (Nat.le_refl _) _
        have hIb := Ib.new wr op a b' c i'
        have hNa := hNx.next hBa
        obtain ⟨_, _, _, _, _, _, _, _, _, he0, _, hy, g0, g1, g2, g3, g4, g5, g6⟩ := LnsD.at hNa hks
        cases he0
        have hy := hx.out.symm.trans hy.out
        simp only [Ln.mk.injEq] at hy
        obtain ⟨rfl, rfl, rfl, rfl, rfl, rfl, rfl⟩ := hy
        cases hem : emB m' with
        | false =>
          rw [hem] at he
          have hw2 : Hid (ws = wds l (l.take (k + 1)) 0) := by show _ = _; rw [wds_miss hkl.out (by rw [hx.out]; exact hem), hws.out]
          have hZ2 : Hid (Zer (bad2 l) l (k + 1)) := hZ.out.step hkl.out (by rw [hx.out]; unfold bad2; rw [show emB (Ln.mk m' op a b' c i' tt).mark = false from hem]; rfl)
          clear hem
          go_wp2
          go_roundw
          case rel => exact ⟨k + 1, ws, by omega, by simp, row_next hrow hBa, hw2, by omega, hZ2, hB.trans (hBa.mono hB.size)⟩
          case measure => simp [intOf]; omega
        | true =>
          rw [hem] at he
          have hcn : Hid (cnt (l.take k) = ws.length) := by show _ = _; rw [hws.out, wds_length]
          have hb2 : Hid (bad2 l (l.take k) (l.getD k default) = err2 l ws.length ⟨m', op, a, b', c, i', tt⟩) := by show _ = _; rw [hx.out, ← hcn.out]; unfold bad2; rw [show emB (Ln.mk m' op a b' c i' tt).mark = true from hem]; rfl
          have hwn : Hid (ws ++ [wrd l ws.length ⟨m', op, a, b', c, i', tt⟩] = wds l (l.take (k + 1)) 0) := by show _ = _; rw [wds_hit hkl.out (by rw [hx.out]; exact hem), ← hws.out, hx.out, hcn.out]
          have hstep : Hid (err2 l ws.length ⟨m', op, a, b', c, i', tt⟩ = 0 → Zer (bad2 l) l (k + 1)) := fun e => hZ.out.step hkl.out (by rw [hb2.out]; exact e)
          have hstop : Hid (∀ er, err2 l ws.length ⟨m', op, a, b', c, i', tt⟩ = er → er ≠ 0 → putW l = [] ∧ putK l = k ∧ putE l = er) := fun er e hne => put_stop hzer.out (by rw [hZ.out.stop hkl.out (by rw [hb2.out, e]; exact hne), hb2.out, e]) hne
          clear hem
          cases hto : emB tt with
          | true =>
            rw [hto] at ht
            have hae := aim_em (l := l) (p := ws.length) (x := ⟨m', op, a, b', c, i', tt⟩) hto
            have hZ2 : Hid (Zer (bad2 l) l (k + 1)) := hstep.out hae.2
            have hwd : Hid (wrd l ws.length ⟨m', op, a, b', c, i', tt⟩ = Ins.wordI op a b' c i') := by show _ = _; unfold wrd; rw [hae.1]
            rw [hwd.out] at hwn
            have hen := fun W => rencode_any op a b' c i' hi0 hi1 W
            obtain ⟨wd, hwde⟩ : ∃ wd, Ins.wordI op a b' c i' = wd := ⟨_, rfl⟩
            simp only [hwde] at hen hwn
            clear hae hstep hstop hb2 hwd hwde hto
            go_wp2_with (first | (go_at_call 29; refine (hen _).mono ?_; rintro e w5 ⟨rfl, hb5⟩; have hB5 : Below wr.heap.size wr w5 := hBa.trans (hb5.mono hBa.size); have hrow5 := row_next hrow hB5; have hBw5 : Below w.heap.size w w5 := hB.trans (hB5.mono hB.size)) | (at_builtin; refine wpList_append_own _ rfl _ _ 23 rfl w.heap.size 50 i0 (.int .u64 0) 1 8 Tryz.underlying23 hi hz0 hz1 hz2 rfl (by decide) _ _ _ rfl (hrow5.alloc _) ⟨w5.heap.size, 0, none⟩ 1 1 [.int .u64 wd] rfl rfl (cell_one_new _ _ _) (by simp [Value.oneCell']) (by unfold maxLen; omega) (by omega) (Nat.le_trans hBw5.size (by simp)) ?_; intro v6 w6 hown6 hg6 _))
            have hB6 : Below w.heap.size w w6 := (hBw5.alloc hBw5.size _).grown hg6 (Nat.le_trans hBw5.size (by simp)) (fun k hk => (hrow5.lt k hk).1)
            go_roundw
            case rel => exact ⟨k + 1, ws ++ [wd], by omega, by simp, by rw [List.length_append, wV_snoc]; exact hown6, hwn, by rw [List.length_append]; show ws.length + 1 ≤ _; omega, hZ2, hB6⟩
            case measure => simp [intOf]; omega
          | false =>
            rw [hto] at ht
            have hfa := rfind_any _ n cap l tt _ (by omega) hNa
            cases hfd : fnd tt l 0 with
            | none =>
              have hr : Hid (putW l = [] ∧ putK l = k ∧ putE l = 1) := hstop.out 1 (err_none (x := ⟨m', op, a, b', c, i', tt⟩) hto hfd) (by omega)
              simp only [hfd] at hfa
              clear hstep hstop hb2
              go_wp2_with (go_at_call 13; refine hfa.mono ?_; rintro e w3 ⟨rfl, hb3⟩; have hB3 : Below wr.heap.size wr w3 := hBa.trans (hb3.mono hBa.size); have hI3 := hIb.next hb3; obtain ⟨k0, k1, k2, k3, k4⟩ := hI3.cells; have kf := hI3.frozen)
              go_ret3
              exact ⟨hB.trans (hB3.mono hB.size), .slice none 0 0, by rw [hr.out.2.1, hr.out.2.2]; rfl, by rw [hr.out.1]; exact ⟨rfl, .inl ⟨rfl, rfl⟩⟩⟩
            | some mk =>
              have hmk : mk ≤ 4000 := by have h1 := fnd_bounds hfd; have h2 := cnt_le l; have h3 := hlen.out; omega
              obtain ⟨ea, ee⟩ := aim_to (l := l) (p := ws.length) (x := ⟨m', op, a, b', c, i', tt⟩) hto hfd
              simp only [hfd] at hfa
              dsimp only at ea ee
              clear hfd
              by_cases h1 : op = 1
              · subst h1
                have eI : aimI 1 i' ws.length mk = (mk : Int) + i' := rfl
                rw [eI] at ea ee
                by_cases hR : inR ((mk : Int) + i') = true
                · have hRb : -2147483648 ≤ (mk : Int) + i' ∧ (mk : Int) + i' ≤ 2147483647 := by unfold inR at hR; simpa using hR
                  obtain ⟨hR0, hR1⟩ := hRb
                  have hZ2 : Hid (Zer (bad2 l) l (k + 1)) := hstep.out (by rw [ee, if_pos hR])
                  have hwd : Hid (wrd l ws.length ⟨m', 1, a, b', c, i', tt⟩ = Ins.wordI 1 a b' c ((mk : Int) + i')) := by show _ = _; unfold wrd; rw [ea]
                  rw [hwd.out] at hwn
                  have hen := fun W => rencode_any 1 a b' c ((mk : Int) + i') (by omega) (by omega) W
                  obtain ⟨wd, hwde⟩ : ∃ wd, Ins.wordI 1 a b' c ((mk : Int) + i') = wd := ⟨_, rfl⟩
                  simp only [hwde] at hen hwn
                  have hI4 := fun W (hI : Ib W wr.heap.size 1 a b' c i') => (hI.set4 ((mk : Int) + i')).cells
                  clear hstep hstop hb2 hwd hwde hto ea ee hR
                  go_wp2_with (first | (go_at_call 13; refine hfa.mono ?_; rintro e w3 ⟨rfl, hb3⟩; have hB3 : Below wr.heap.size wr w3 := hBa.trans (hb3.mono hBa.size); have hI3 := hIb.next hb3; obtain ⟨k0, k1, k2, k3, k4⟩ := hI3.cells; have kf := hI3.frozen; obtain ⟨p0, p1, p2, p3, p4⟩ := hI4 _ hI3) | (go_at_call 29; refine (hen _).mono ?_; rintro e w5 ⟨rfl, hb5⟩; have hB4 : Below wr.heap.size wr (w3.setCell ⟨wr.heap.size, 4, none⟩ (.int .i32 ((mk : Int) + i'))) := hB3.setCell (p := ⟨wr.heap.size, 4, none⟩) (Nat.le_refl _) _; have hB5 : Below wr.heap.size wr w5 := hB4.trans (hb5.mono hB4.size); have hrow5 := row_next hrow hB5; have hBw5 : Below w.heap.size w w5 := hB.trans (hB5.mono hB.size)) | (at_builtin; refine wpList_append_own _ rfl _ _ 23 rfl w.heap.size 50 i0 (.int .u64 0) 1 8 Tryz.underlying23 hi hz0 hz1 hz2 rfl (by decide) _ _ _ rfl (hrow5.alloc _) ⟨w5.heap.size, 0, none⟩ 1 1 [.int .u64 wd] rfl rfl (cell_one_new _ _ _) (by simp [Value.oneCell']) (by unfold maxLen; omega) (by omega) (Nat.le_trans hBw5.size (by simp)) ?_; intro v6 w6 hown6 hg6 _))
                  have hB6 : Below w.heap.size w w6 := (hBw5.alloc hBw5.size _).grown hg6 (Nat.le_trans hBw5.size (by simp)) (fun k hk => (hrow5.lt k hk).1)
                  go_roundw
                  case rel => exact ⟨k + 1, ws ++ [wd], by omega, by simp, by rw [List.length_append, wV_snoc]; exact hown6, hwn, by rw [List.length_append]; show ws.length + 1 ≤ _; omega, hZ2, hB6⟩
                  case measure => simp [intOf]; omega
                · have hr : Hid (putW l = [] ∧ putK l = k ∧ putE l = 13) := hstop.out 13 (by rw [ee, if_neg hR]) (by omega)
                  have hRb : ¬ (-2147483648 ≤ (mk : Int) + i' ∧ (mk : Int) + i' ≤ 2147483647) := by unfold inR at hR; simpa using hR
                  have hR1 : 2147483647 < (mk : Int) + i' := by omega
                  have hR0 : ¬ (mk : Int) + i' < -2147483648 := by omega
                  clear hstep hstop hb2 ea ee hR hRb
                  go_wp2_with (go_at_call 13; refine hfa.mono ?_; rintro e w3 ⟨rfl, hb3⟩; have hB3 : Below wr.heap.size wr w3 := hBa.trans (hb3.mono hBa.size); have hI3 := hIb.next hb3; obtain ⟨k0, k1, k2, k3, k4⟩ := hI3.cells; have kf := hI3.frozen)
                  go_ret3
                  exact ⟨hB.trans (hB3.mono hB.size), .slice none 0 0, by rw [hr.out.2.1, hr.out.2.2]; rfl, by rw [hr.out.1]; exact ⟨rfl, .inl ⟨rfl, rfl⟩⟩⟩
              · have eI : aimI op i' ws.length mk = (mk : Int) - (ws.length : Int) - 1 := by unfold aimI; rw [if_neg h1]
                rw [eI] at ea ee
                have hR0 : -2147483648 ≤ (mk : Int) - (ws.length : Int) - 1 := by omega
                have hR1 : (mk : Int) - (ws.length : Int) - 1 ≤ 2147483647 := by omega
                have hR : inR ((mk : Int) - (ws.length : Int) - 1) = true := by unfold inR; simp [hR0, hR1]
                have hZ2 : Hid (Zer (bad2 l) l (k + 1)) := hstep.out (by rw [ee, if_pos hR])
                have hwd : Hid (wrd l ws.length ⟨m', op, a, b', c, i', tt⟩ = Ins.wordI op a b' c ((mk : Int) - (ws.length : Int) - 1)) := by show _ = _; unfold wrd; rw [ea]
                rw [hwd.out] at hwn
                have hen := fun W => rencode_any op a b' c ((mk : Int) - (ws.length : Int) - 1) (by omega) (by omega) W
                obtain ⟨wd, hwde⟩ : ∃ wd, Ins.wordI op a b' c ((mk : Int) - (ws.length : Int) - 1) = wd := ⟨_, rfl⟩
                simp only [hwde] at hen hwn
                have hI4 := fun W (hI : Ib W wr.heap.size op a b' c i') => (hI.set4 ((mk : Int) - (ws.length : Int) - 1)).cells
                clear hstep hstop hb2 hwd hwde hto ea ee hR
                go_wp2_with (first | (go_at_call 13; refine hfa.mono ?_; rintro e w3 ⟨rfl, hb3⟩; have hB3 : Below wr.heap.size wr w3 := hBa.trans (hb3.mono hBa.size); have hI3 := hIb.next hb3; obtain ⟨k0, k1, k2, k3, k4⟩ := hI3.cells; have kf := hI3.frozen; obtain ⟨p0, p1, p2, p3, p4⟩ := hI4 _ hI3) | (go_at_call 29; refine (hen _).mono ?_; rintro e w5 ⟨rfl, hb5⟩; have hB4 : Below wr.heap.size wr (w3.setCell ⟨wr.heap.size, 4, none⟩ (.int .i32 ((mk : Int) - (ws.length : Int) - 1))) := hB3.setCell (p := ⟨wr.heap.size, 4, none⟩) (Nat.le_refl _) _; have hB5 : Below wr.heap.size wr w5 := hB4.trans (hb5.mono hB4.size); have hrow5 := row_next hrow hB5; have hBw5 : Below w.heap.size w w5 := hB.trans (hB5.mono hB.size)) | (at_builtin; refine wpList_append_own _ rfl _ _ 23 rfl w.heap.size 50 i0 (.int .u64 0) 1 8 Tryz.underlying23 hi hz0 hz1 hz2 rfl (by decide) _ _ _ rfl (hrow5.alloc _) ⟨w5.heap.size, 0, none⟩ 1 1 [.int .u64 wd] rfl rfl (cell_one_new _ _ _) (by simp [Value.oneCell']) (by unfold maxLen; omega) (by omega) (Nat.le_trans hBw5.size (by simp)) ?_; intro v6 w6 hown6 hg6 _))
                have hB6 : Below w.heap.size w w6 := (hBw5.alloc hBw5.size _).grown hg6 (Nat.le_trans hBw5.size (by simp)) (fun k hk => (hrow5.lt k hk).1)
                go_roundw
                case rel => exact ⟨k + 1, ws ++ [wd], by omega, by simp, by rw [List.length_append, wV_snoc]; exact hown6, hwn, by rw [List.length_append]; show ws.length + 1 ≤ _; omega, hZ2, hB6⟩
                case measure => simp [intOf]; omega
      · obtain rfl : k = n := by omega
        have hr : Hid (putW l = ws ∧ putK l = 0 ∧ putE l = 0) := by
          have h3 := hZ.out
          have h4 := hws.out
          rw [← hlen.out] at h3 h4
          rw [List.take_length] at h4
          rw [h4]
          exact put_done hzer.out h3.all
        go_wp2
        go_ret3
        exact ⟨hB, _, by rw [hr.out.2.1, hr.out.2.2]; rfl, by rw [hr.out.1]; exact hrow⟩
  · have hr := put_one hs1
    have hr : Hid _ := hr
    obtain ⟨q1, hq1⟩ : ∃ q, (scan bad1 [] l).1 = q := ⟨_, rfl⟩
    obtain ⟨q2, hq2⟩ : ∃ q, (scan bad1 [] l).2 = q := ⟨_, rfl⟩
    rw [hq1, hq2] at hfi hr
    rw [hq2] at hs1 hs13
    clear hq1 hq2
    go_wp2_with (go_at_call 28; refine hfi.mono ?_; rintro e w1 ⟨rfl, hb1⟩)
    go_ret3
    exact ⟨hb1, .slice none 0 0, by rw [hr.out.2.1, hr.out.2.2]; rfl, by rw [hr.out.1]; exact ⟨rfl, .inl ⟨rfl, rfl⟩⟩⟩
end Go.Proofs.YtagljcgfmdahhaaGreatDoor
