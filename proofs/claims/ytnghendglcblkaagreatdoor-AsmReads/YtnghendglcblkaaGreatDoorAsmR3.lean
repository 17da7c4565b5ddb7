/-
  PROVED HERE: what line and Text of package curtilageref10 return when they are called (contracts over this translation). Lines that are such; at most 65536 lines.
-/
import Derived.Test.YtnghendglcblkaaGreatDoorAsmQ4
namespace Go.Proofs.YtnghendglcblkaaGreatDoor
open Go.RowKit Go.Shelf
set_option linter.unusedVariables false
open Asm

theorem tx_stem {op a b c i : Int} (hf : Ins.fitB op a b c i = true) (hg : goB op i = true) : txS op a b c i = stemS op a b c ++ itS i := by
  refine ba_ext ?_
  rw [app_list]
  have h1 : (txS op a b c i).data.toList = bl (nmS op) ++ partsL a b c i (Ins.shp op) := txS_list hf
  have h2 : (itS i).data.toList = Lib.itoa i := rfl
  have t97 : (tldS 97 a).data.toList = 114 :: Lib.itoa a := by rw [tld_list]; rfl
  have t105 : (tldS 105 0).data.toList = [48] := by rw [tld_list, if_pos rfl, itoa0]
  have t5i : (tldS 105 i).data.toList = Lib.itoa i := by rw [tld_list, if_pos rfl]
  rcases go_shape hg with hs | hs
  · have e := stem_list hf hg (y := 32 :: (114 :: Lib.itoa a) ++ [32]) (by
      rw [hs]
      simp only [partsL, n97, n105]
      show 32 :: ((tldS 97 a).data.toList ++ 32 :: ((tldS 105 0).data.toList ++ [])) = _
      rw [t97, t105]
      simp)
    have e' : (stemS op a b c).data.toList = _ := e
    rw [h1, e', h2, hs]
    simp only [partsL, n97, n105]
    show _ ++ 32 :: ((tldS 97 a).data.toList ++ 32 :: ((tldS 105 i).data.toList ++ [])) = _
    rw [t97, t5i]
    simp
  · have e := stem_list hf hg (y := [32]) (by
      rw [hs]
      simp only [partsL, n105]
      show 32 :: ((tldS 105 0).data.toList ++ []) = _
      rw [t105]
      rfl)
    have e' : (stemS op a b c).data.toList = _ := e
    rw [h1, e', h2, hs]
    simp only [partsL, n105]
    show _ ++ 32 :: ((tldS 105 i).data.toList ++ []) = _
    rw [t5i]
    simp
theorem ext_app (s t : ByteArray) : (s ++ t).extract 0 s.size = s := by
  refine ba_ext ?_
  rw [Lib.extract_from_zero, app_list, ← size_list, List.take_left]
theorem ba_nil (s : ByteArray) : s ++ ⟨#[]⟩ = s := ba_ext (by rw [app_list]; simp)
set_option maxRecDepth 100000 in
set_option maxHeartbeats 2000000 in
theorem rline_any (x : Ln) (hi0 : -2147483648 ≤ x.i) (hi1 : x.i < 2147483648) (hg : goodB x = true) (w : World) :
    Calls Tryz.prog 40 #[.agg (lnV x)] w fun e w' => e = .returned (.string (lineT x)) ∧ Below w.heap.size w w' := by
  obtain ⟨m, op, a, b, c, i, tt⟩ := x
  have hi0 : -2147483648 ≤ i := hi0
  have hi1 : i < 2147483648 := hi1
  unfold lnV
  dsimp only
  have hB : Below w.heap.size w (w.alloc (.cells #[.string m, .int .i64 op, .int .i64 a, .int .i64 b, .int .i64 c, .int .i32 i, .string tt] 37)) := (Below.refl _ w).alloc (Nat.le_refl _) _
  have hL := Lb.new w m op a b c i tt
  have he := em_list tt
  have hm := em_list m
  go_enter Tryz.func40, Tryz.ntmps40
  cases hz : emB m with
  | false =>
    rw [hz] at hm
    have hmk : markB ⟨m, op, a, b, c, i, tt⟩ = true := by rw [good_mark (x := ⟨m, op, a, b, c, i, tt⟩) hz] at hg; exact hg
    have hsz := (nameB_size (mark_line hmk).2.2).1
    have hsz : m.size ≤ 16 := hsz
    have hr : Hid (lineT ⟨m, op, a, b, c, i, tt⟩ = m ++ ⟨#[58]⟩) := by show _ = _; unfold lineT; rw [hmk]; rfl
    have hz1 : (9223372036854775807 < m.size + 1) = False := by simp; omega
    clear hmk hg
    go_wp2
    go_ret
    exact ⟨by rw [hr.out]; rfl, hB⟩
  | true =>
    rw [hz] at hm
    have hmk := em_nomark (x := ⟨m, op, a, b, c, i, tt⟩) hz
    have hin : insB ⟨m, op, a, b, c, i, tt⟩ = true := by unfold goodB at hg; rw [hmk] at hg; simpa using hg
    obtain ⟨_, hfit, h3⟩ := ins_parts hin
    have hfit : Ins.fitB op a b c i = true := hfit
    obtain ⟨ha, hb', hc⟩ := fit_64 hfit
    have hts : (txS op a b c i).size ≤ 74 := txS_size ha hb' hc ⟨by omega, by omega⟩
    have hta := fun W => rtext_any op a b c i hi0 hi1 W
    cases hy : emB tt with
    | true =>
      rw [hy] at he
      have hr : Hid (lineT ⟨m, op, a, b, c, i, tt⟩ = txS op a b c i) := by show _ = _; unfold lineT; rw [hmk, hin]; show (if emB tt then _ else _) = _; rw [hy]; rfl
      clear hmk hin h3 hg
      go_wp2_with (go_at_call 35; refine (hta _).mono ?_; rintro e w' ⟨rfl, hb⟩; obtain ⟨c0, c1, c2, c3, c4, c5, c6⟩ := (hL.next hb).cells)
      go_ret
      exact ⟨by rw [hr.out]; rfl, hB.trans (hb.mono hB.size)⟩
    | false =>
      rw [hy] at he
      have h4 : nameB tt = true ∧ goB op i = true := h3.resolve_left (by show ¬ emB tt = true; rw [hy]; simp)
      have hst : tt.size ≤ 16 := (nameB_size h4.1).1
      have hr : Hid (lineT ⟨m, op, a, b, c, i, tt⟩ = stemS op a b c ++ ⟨#[64]⟩ ++ tt ++ addS i) := by show _ = _; unfold lineT; rw [hmk, hin]; show (if emB tt then _ else _) = _; rw [hy]; rfl
      have htx := tx_stem hfit h4.2
      have hstm := stemS_size (op := op) ha hb' hc
      have his := itS_size (v := i) (by omega) (by omega)
      have hdg := fun W => rdigits_any i (by omega) (by omega) W
      have hgo := h4.2
      clear hmk hin h3 hg h4 hts
      obtain ⟨st, hste⟩ : ∃ st, stemS op a b c = st := ⟨_, rfl⟩
      rw [hste] at hr htx hstm
      have hta2 := hta
      simp only [htx] at hta
      clear hta2
      obtain ⟨it, hite⟩ : ∃ it, itS i = it := ⟨_, rfl⟩
      simp only [hite] at hta hdg his
      obtain ⟨tx, htxe⟩ : ∃ tx, st ++ it = tx := ⟨_, rfl⟩
      have htz : tx.size = st.size + it.size := by rw [← htxe, ByteArray.size_append]
      have hex : tx.extract 0 st.size = st := by rw [← htxe]; exact ext_app st it
      simp only [htxe] at hta
      have had : Hid (addS i = if i = 0 then ⟨#[]⟩ else ⟨#[43]⟩ ++ it) := by show _ = _; rw [← hite]; rfl
      clear htxe hste hite htx
      by_cases hi : i = 0
      · subst hi
        have hr2 : Hid (lineT ⟨m, op, a, b, c, 0, tt⟩ = st ++ ⟨#[64]⟩ ++ tt) := by show _ = _; rw [hr.out, had.out, if_pos rfl]; exact ba_nil _
        clear hr had
        by_cases h1 : op = 1
        · subst h1
          go_wp2_with (first | (go_at_call 35; refine (hta _).mono ?_; rintro e w' ⟨rfl, hb⟩; obtain ⟨c0, c1, c2, c3, c4, c5, c6⟩ := (hL.next hb).cells) | (go_at_call 65; refine (hdg _).mono ?_; rintro e w2 ⟨rfl, hb2⟩; obtain ⟨e0, e1, e2, e3, e4, e5, e6⟩ := ((hL.next hb).next hb2).cells; have hBz : Below w.heap.size w w2 := (hB.trans (hb.mono hB.size)).trans (hb2.mono (Nat.le_trans hB.size hb.size))))
          go_quiet (fail)
          go_wp2
          go_ret
          exact ⟨by rw [hr2.out]; rfl, hBz.trans ((below_drewN w2 _).mono hBz.size)⟩
        · go_wp2_with (first | (go_at_call 35; refine (hta _).mono ?_; rintro e w' ⟨rfl, hb⟩; obtain ⟨c0, c1, c2, c3, c4, c5, c6⟩ := (hL.next hb).cells) | (go_at_call 65; refine (hdg _).mono ?_; rintro e w2 ⟨rfl, hb2⟩; obtain ⟨e0, e1, e2, e3, e4, e5, e6⟩ := ((hL.next hb).next hb2).cells; have hBz : Below w.heap.size w w2 := (hB.trans (hb.mono hB.size)).trans (hb2.mono (Nat.le_trans hB.size hb.size))))
          go_quiet (fail)
          go_wp2
          go_ret
          exact ⟨by rw [hr2.out]; rfl, hBz.trans ((below_drewN w2 _).mono hBz.size)⟩
      · obtain rfl : op = 1 := by
          unfold goB at hgo
          simp only [Bool.or_eq_true, Bool.and_eq_true, beq_iff_eq] at hgo
          rcases hgo with h | h
          · exact absurd h.2 hi
          · exact h
        have hr2 : Hid (lineT ⟨m, 1, a, b, c, i, tt⟩ = st ++ ⟨#[64]⟩ ++ tt ++ ⟨#[43]⟩ ++ it) := by show _ = _; rw [hr.out, had.out, if_neg hi]; exact (ByteArray.append_assoc).symm
        clear hr had
        go_wp2_with (first | (go_at_call 35; refine (hta _).mono ?_; rintro e w' ⟨rfl, hb⟩; obtain ⟨c0, c1, c2, c3, c4, c5, c6⟩ := (hL.next hb).cells) | (go_at_call 65; refine (hdg _).mono ?_; rintro e w2 ⟨rfl, hb2⟩; obtain ⟨e0, e1, e2, e3, e4, e5, e6⟩ := ((hL.next hb).next hb2).cells; have hBz : Below w.heap.size w w2 := (hB.trans (hb.mono hB.size)).trans (hb2.mono (Nat.le_trans hB.size hb.size))))
        go_quiet (fail)
        go_wp2_with (go_at_call 65; refine (hdg _).mono ?_; rintro e w4 ⟨rfl, hb4⟩)
        go_ret
        exact ⟨by rw [hr2.out]; rfl, (hBz.trans ((below_drewN w2 _).mono hBz.size)).trans (hb4.mono hBz.size)⟩

theorem sb_app (x : List UInt8) (t : ByteArray) : sb (x ++ (bl t ++ [10])) = sb x ++ t ++ ⟨#[10]⟩ := by
  refine ba_ext ?_
  show x ++ (bl t ++ [10]) = _
  rw [app_list, app_list, List.append_assoc]
  rfl
end Go.Proofs.YtnghendglcblkaaGreatDoor
