/-
  PROVED HERE: what line and Text of package curtilageref10 return when they are called (contracts over this translation). Lines that are such; at most 65536 lines.
-/
import Derived.Test.YtagljcgfmdahhaaGreatDoorAsmQ4
namespace Go.Proofs.YtagljcgfmdahhaaGreatDoor
open Go.RowKit Go.Shelf
set_option linter.unusedVariables false
open Asm

theorem tx_stem {op a b c i : Int} (hf : Ins.fitB op a b c i = true) (hg : goB op i = true) : txS op a b c i = stemS op a b c ++ itS i := by
  refine ba_ext ?_
  rw [app_list]
  have h1 : (txS op a b c i).data.toList = bl (nmS op) ++ partsL a b c i (Ins.shp op) := txS_list hf
  have h2 : (itS i).data.toList = Lib.itoa i := rfl
  have t97 : (tldS 97 a).data.toList = 114 :: Lib.itoa a := by rw [tld_list]; rfl
  have t105 : (tldS 105 0).data.toList = [48] := by rw [tld_list, if_pos rfl, itoa0]
  have t5i : (tldS 105 i).data.toList = Lib.itoa i := by rw [tld_list, if_pos rfl]
  rcases go_shape hg with hs | hs
  · have e := stem_list hf hg (y := 32 :: (114 :: Lib.itoa a) ++ [32]) (by
      rw [hs]
      simp only [partsL, n97, n105]
      show 32 :: ((tldS 97 a).data.toList ++ 32 :: ((tldS 105 0).data.toList ++ [])) = _
      rw [t97, t105]
      simp)
    have e' : (stemS op a b c).data.toList = _ := e
    rw [h1, e', h2, hs]
    simp only [partsL, n97, n105]
    show _ ++ 32 :: ((tldS 97 a).data.toList ++ 32 :: ((tldS 105 i).data.toList ++ [])) = _
    rw [t97, t5i]
    simp
  · have e := stem_list hf hg (y := [32]) (by
      rw [hs]
      simp only [partsL, n105]
      show 32 :: ((tldS 105 0).data.toList ++ []) = _
      rw [t105]
      rfl)
    have e' : (stemS op a b c).data.toList = _ := e
    rw [h1, e', h2, hs]
    simp only [partsL, n105]
    show _ ++ 32 :: ((tldS 105 i).data.toList ++ []) = _
    rw [t5i]
    simp
theorem ext_app (s t : ByteArray) : (s ++ t).extract 0 s.size = s := by
  refine ba_ext ?_
  rw [Lib.extract_from_zero, app_list, ← size_list, List.take_left]
theorem ba_nil (s : ByteArray) : s ++ ⟨#[]⟩ = s := ba_ext (by rw [app_list]; simp)
set_option maxRecDepth 100000 in
set_option maxHeartbeats 2000000 in
theorem rline_any (x : Ln) (hi0 : -2147483648 ≤ x.i) (hi1 : x.i < 2147483648) (hg : goodB x = true) (w : World) :
    Calls Tryz.prog 34 #[.agg (lnV x)] w fun e w' => e = .returned (.string (lineT x)) ∧ Below w.heap.size w w' := by
  obtain ⟨m, op, a, b, c, i, tt⟩ := x
  have hi0 : -2147483648 ≤ i := hi0
  have hi1 : i < 2147483648 := hi1
  unfold lnV
  dsimp only
  have hB : Below w.heap.size w (w.alloc (.cells #[.string m, .int .i64 op, .int .i64 a, .int .i64 b, .int .i64 c, .int .i32 i, .string tt] 47)) := (Below.refl _ w).alloc (Nat.le_refl _) _
  have hL := Lb.new w m op a b c i tt
  have he := em_list tt
  have hm := em_list m
  go_enter Tryz.func34, Tryz.ntmps34
  cases hz : emB m with
  | false =>
    rw [hz] at hm
    have hmk : markB ⟨m, op, a, b, c, i, tt⟩ = true := by rw [good_mark (x := ⟨m, op, a, b, c, i, tt⟩) hz] at hg; exact hg
    have hsz := (nameB_size (mark_line hmk).2.2).1
    have hsz : m.size ≤ 16 := hsz
    have hr : Hid (lineT ⟨m, op, a, b, c, i, tt⟩ = m ++ ⟨#[58]⟩) := by show _ = _; unfold lineT; rw [hmk]; rfl
    have hz1 : (9223372036854775807 < m.size + 1) = False := by simp; omega
    clear hmk hg
    go_wp2
    go_ret
    exact ⟨by rw [hr.out]; rfl, hB⟩
  | true =>
    rw [hz] at hm
    have hmk := em_nomark (x := ⟨m, op, a, b, c, i, tt⟩) hz
    have hin : insB ⟨m, op, a, b, c, i, tt⟩ = true := by unfold goodB at hg; rw [hmk] at hg; simpa using hg
    obtain ⟨_, hfit, h3⟩ := ins_parts hin
    have hfit : Ins.fitB op a b c i = true := hfit
    obtain ⟨ha, hb', hc⟩ := fit_64 hfit
    have hts : (txS op a b c i).size ≤ 74 := txS_size ha hb' hc ⟨by omega, by omega⟩
    have hta := fun W => rtext_any op a b c i hi0 hi1 W
    cases hy : emB tt with
    | true =>
      rw [hy] at he
      have hr : Hid (lineT ⟨m, op, a, b, c, i, tt⟩ = txS op a b c i) := by show _ = _; unfold lineT; rw [hmk, hin]; show (if emB tt then _ else _) = _; rw [hy]; rfl
      clear hmk hin h3 hg
      go_wp2_with (go_at_call 37; refine (hta _).mono ?_; rintro e w' ⟨rfl, hb⟩; obtain ⟨c0, c1, c2, c3, c4, c5, c6⟩ := (hL.next hb).cells)
      go_ret
      exact ⟨by rw [hr.out]; rfl, hB.trans (hb.mono hB.size)⟩
    | false =>
      rw [hy] at he
      have h4 : nameB tt = true ∧ goB op i = true := h3.resolve_left (by show ¬ emB tt = true; rw [hy]; simp)
      have hst : tt.size ≤ 16 := (nameB_size h4.1).1
      have hr : Hid (lineT ⟨m, op, a, b, c, i, tt⟩ = stemS op a b c ++ ⟨#[64]⟩ ++ tt ++ addS i) := by show _ = _; unfold lineT; rw [hmk, hin]; show (if emB tt then _ else _) = _; rw [hy]; rfl
      have htx := tx_stem hfit h4.2
      have hstm := stemS_size (op := op) ha hb' hc
      have his := itS_size (v := i) (by omega) (by omega)
      have hdg := fun W => rdigits_any i (by omega) (by omega) W
      have hgo := h4.2
      clear hmk hin h3 hg h4 hts
      obtain ⟨st, hste⟩ : ∃ st, stemS op a b c = st := ⟨_, rfl⟩
      rw [hste] at hr htx hstm
      have hta2 := hta
      simp only [htx] at hta
      clear hta2
      obtain ⟨it, hite⟩ : ∃ it, itS i = it := ⟨_, rfl⟩
      simp only [hite] at hta hdg his
      obtain ⟨tx, htxe⟩ : ∃ tx, st ++ it = tx := ⟨_, rfl⟩
      have htz : tx.size = st.size + it.size := by rw [← htxe, ByteArray.size_append]
      have hex : tx.extract 0 st.size = st := by rw [← htxe]; exact ext_app st it
      simp only [htxe] at hta
      have had : Hid (addS i = if i = 0 then ⟨#[]⟩ else ⟨#[43]⟩ ++ it) := by show _ = _; rw [← hite]; rfl
      clear htxe hste hite htx
      by_cases hi : i = 0
      · subst hi
        have hr2 : Hid (lineT ⟨m, op, a, b, c, 0, tt⟩ = st ++ ⟨#[64]⟩ ++ tt) := by show _ = _; rw [hr.out, had.out, if_pos rfl]; exact ba_nil _
        clear hr had
        by_cases h1 : op = 1
        · subst h1
          go_wp2_with (first | (go_at_call 37; refine (hta _).mono ?_; rintro e w' ⟨rfl, hb⟩; obtain ⟨c0, c1, c2, c3, c4, c5, c6⟩ := (hL.next hb).cells) | (go_at_call 56; refine (hdg _).mono ?_; rintro e w2 ⟨rfl, hb2⟩; obtain ⟨e0, e1, e2, e3, e4, e5, e6⟩ := ((hL.next hb).next hb2).cells; have hBz : Below w.heap.size w w2 := (hB.trans (hb.mono hB.size)).trans (hb2.mono (Nat.le_trans hB.size hb.size))))
          go_quiet (fail)
          go_wp2
          go_ret
          exact ⟨by rw [hr2.out]; rfl, hBz.trans ((below_drewN w2 _).mono hBz.size)⟩
        · go_wp2_with (first | (go_at_call 37; refine (hta _).mono ?_; rintro e w' ⟨rfl, hb⟩; obtain ⟨c0, c1, c2, c3, c4, c5, c6⟩ := (hL.next hb).cells) | (go_at_call 56; refine (hdg _).mono ?_; rintro e w2 ⟨rfl, hb2⟩; obtain ⟨e0, e1, e2, e3, e4, e5, e6⟩ := ((hL.next hb).next hb2).cells; have hBz : Below w.heap.size w w2 := (hB.trans (hb.mono hB.size)).trans (hb2.mono (Nat.le_trans hB.size hb.size))))
          go_quiet (fail)
          go_wp2
          go_ret
          exact ⟨by rw [hr2.out]; rfl, hBz.trans ((below_drewN w2 _).mono hBz.size)⟩
      · obtain rfl : op = 1 := by
          unfold goB at hgo
          simp only [Bool.or_eq_true, Bool.and_eq_true, beq_iff_eq] at hgo
          rcases hgo with h | h
          · exact absurd h.2 hi
          · exact h
        have hr2 : Hid (lineT ⟨m, 1, a, b, c, i, tt⟩ = st ++ ⟨#[64]⟩ ++ tt ++ ⟨#[43]⟩ ++ it) := by show _ = _; rw [hr.out, had.out, if_neg hi]; exact (ByteArray.append_assoc).symm
        clear hr had
        go_wp2_with (first | (go_at_call 37; refine (hta _).mono ?_; rintro e w' ⟨rfl, hb⟩; obtain ⟨c0, c1, c2, c3, c4, c5, c6⟩ := (hL.next hb).cells) | (go_at_call 56; refine (hdg _).mono ?_; rintro e w2 ⟨rfl, hb2⟩; obtain ⟨e0, e1, e2, e3, e4, e5, e6⟩ := ((hL.next hb).next hb2).cells; have hBz : Below w.heap.size w w2 := (hB.trans (hb.mono hB.size)).trans (hb2.mono (Nat.le_trans hB.size hb.size))))
        go_quiet (fail)
        go_wp2_with (go_at_call 56; refine (hdg _).mono ?_; rintro e w4 ⟨rfl, hb4⟩)
        go_ret
        exact ⟨by rw [hr2.out]; rfl, (hBz.trans ((below_drewN w2 _).mono hBz.size)).trans (hb4.mono hBz.size)⟩

theorem sb_app (x : List UInt8) (t : ByteArray) : sb (x ++ (bl t ++ [10])) = sb x ++ t ++ ⟨#[10]⟩ := by
  refine ba_ext ?_
  show x ++ (bl t ++ [10]) = _
  rw [app_list, app_list, List.append_assoc]
  rfl
set_option maxRecDepth 100000 in
set_option maxHeartbeats 2000000 in
theorem rprg_any (ao : Option Addr) (n cap : Nat) (l : List Ln) (w : World) (hn : n ≤ 65536) (h : Lns w.heap.size w ao n cap l) (hok : Okl l) :
    Calls Tryz.prog 16 #[.slice ao n cap] w fun e w' => e = .returned (.string (prg l)) ∧ Below w.heap.size w w' := by
  have hlen : Hid (l.length = n) := h.1
  go_enter Tryz.func16, Tryz.ntmps16
  go_wp2
  go_loopw [3, 4] (fun vs vi wr => ∃ (k : Nat) (S : ByteArray), k ≤ n ∧ vi = .int .i64 k ∧ vs = .string S ∧ Hid (S = sb (txL (l.take k))) ∧ S.size ≤ 131 * k ∧ Hid (∀ x ∈ l.take k, goodB x = true) ∧ Below w.heap.size w wr) (fun _ vi _ => n - (intOf vi).toNat)
  case atStart => exact ⟨0, ⟨#[]⟩, Nat.zero_le _, rfl, rfl, rfl, Nat.le_refl _, fun x hx => by simp at hx, Below.refl _ _⟩
  case round =>
    obtain ⟨k, S, hk, rfl, rfl, hS, hsz, hgd, hB⟩ := hrel
    by_cases hks : k < n
    · obtain ⟨b, off, m', op, a, b', c, i', tt, rfl, hb, hx, c0, c1, c2, c3, c4, c5, c6⟩ := LnsD.at (h.next hB) hks
      have hNx := h.next hB
      have hkl : Hid (k < l.length) := by show k < l.length; rw [hlen.out]; exact hks
      obtain ⟨⟨_, _, _, _, hi0, hi1⟩, hsm, hst⟩ := hok.at hkl.out hx.out
      have hto := fun W => rgood_any ⟨m', op, a, b', c, i', tt⟩ hsm hst W
      have hlt := fun hg W => rline_any ⟨m', op, a, b', c, i', tt⟩ hi0 hi1 hg W
      have hls : (lineT ⟨m', op, a, b', c, i', tt⟩).size ≤ 130 := line_size hi0 hi1
      have hstp : Hid (sb (txL (l.take (k + 1))) = S ++ lineT ⟨m', op, a, b', c, i', tt⟩ ++ ⟨#[10]⟩) := by show _ = _; rw [txL_take hkl.out, hx.out, hS.out]; exact sb_app _ _
      have hgn : Hid (goodB ⟨m', op, a, b', c, i', tt⟩ = false → prg l = ⟨#[]⟩) := fun hf => prg_no hkl.out (by rw [hx.out]; exact hf)
      have hgy : Hid (goodB ⟨m', op, a, b', c, i', tt⟩ = true → ∀ x ∈ l.take (k + 1), goodB x = true) := fun hf x hx' => by
        rw [take_snoc hkl.out] at hx'
        rcases List.mem_append.1 hx' with h1 | h1
        · exact hgd.out x h1
        · rw [List.mem_singleton.1 h1, hx.out]; exact hf
      unfold lnV at hto hlt
      dsimp only at hto hlt
      cases hg : goodB ⟨m', op, a, b', c, i', tt⟩ with
      | false =>
        have hp : Hid (prg l = ⟨#[]⟩) := hgn.out hg
        simp only [hg] at hto
        clear hgn hgy hlt hstp
        go_wp2_with (go_at_call 33; refine (hto _).mono ?_; rintro e w3 ⟨rfl, hb3⟩)
        go_ret
        exact ⟨by rw [hp.out]; rfl, hB.trans (hb3.mono hB.size)⟩
      | true =>
        have hq : Hid (∀ x ∈ l.take (k + 1), goodB x = true) := hgy.out hg
        have hlt2 := fun W => hlt hg W
        simp only [hg] at hto
        clear hgn hgy hlt
        obtain ⟨tx, ht⟩ : ∃ tx, lineT ⟨m', op, a, b', c, i', tt⟩ = tx := ⟨_, rfl⟩
        simp only [ht] at hlt2
        rw [ht] at hls hstp
        clear ht
        have hz1 : (9223372036854775807 < S.size + tx.size) = False := by simp; omega
        have hz2 : (9223372036854775807 < S.size + tx.size + 1) = False := by simp; omega
        go_wp2_with (first | (go_at_call 33; refine (hto _).mono ?_; rintro e w3 ⟨rfl, hb3⟩; obtain ⟨_, _, _, _, _, _, _, _, _, he0, _, hy, g0, g1, g2, g3, g4, g5, g6⟩ := LnsD.at (hNx.next hb3) hks; cases he0; have hy := hx.out.symm.trans hy.out; simp only [Ln.mk.injEq] at hy; obtain ⟨rfl, rfl, rfl, rfl, rfl, rfl, rfl⟩ := hy) | (go_at_call 34; refine (hlt2 _).mono ?_; rintro e w4 ⟨rfl, hb4⟩))
        go_roundw
        case rel => exact ⟨k + 1, S ++ tx ++ ⟨#[10]⟩, by omega, by simp, rfl, (by show _ = _; exact hstp.out.symm), by rw [ByteArray.size_append, ByteArray.size_append]; show S.size + tx.size + 1 ≤ _; omega, hq, hB.trans ((hb3.trans (hb4.mono hb3.size)).mono hB.size)⟩
        case measure => simp [intOf]; omega
    · obtain rfl : k = n := by omega
      have hr : Hid (prg l = S) := by
        show _ = _
        have h3 := hgd.out
        have h4 := hS.out
        rw [← hlen.out, List.take_length] at h3 h4
        rw [prg_yes h3, h4]
      go_wp2
      go_ret
      exact ⟨by rw [hr.out]; rfl, hB⟩
end Go.Proofs.YtagljcgfmdahhaaGreatDoor
