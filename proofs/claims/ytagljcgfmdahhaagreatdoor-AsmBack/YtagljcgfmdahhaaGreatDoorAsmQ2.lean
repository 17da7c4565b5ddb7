/-
  PROVED HERE: the text of a line is read as that line. Lines that are such, with a number of 32 bits.
-/
import Derived.Test.YtagljcgfmdahhaaGreatDoorAsmQ1
namespace Go.Proofs.YtagljcgfmdahhaaGreatDoor
open Go.RowKit Go.Shelf
set_option linter.unusedVariables false
open Asm

theorem fit_imm {op a b c i : Int} (h : Ins.fitB op a b c i = true) : Ins.fitB op a b c 0 = true := by
  unfold Ins.fitB at h ⊢
  simp only [Bool.and_eq_true] at h ⊢
  exact ⟨h.1, by simp⟩
theorem go_shape {op i : Int} (h : goB op i = true) : Ins.shp op = [97, 105] ∨ Ins.shp op = [105] := by
  unfold goB jmpB at h
  simp only [Bool.or_eq_true, Bool.and_eq_true, beq_iff_eq] at h
  have : op = 18 ∨ op = 19 ∨ op = 20 ∨ op = 21 ∨ op = 1 := by omega
  rcases this with rfl | rfl | rfl | rfl | rfl <;> decide
theorem stem_list {op a b c i : Int} (hf : Ins.fitB op a b c i = true) (hg : goB op i = true) {y : List UInt8} (hy : partsL a b c 0 (Ins.shp op) = y ++ [48]) : bl (stemS op a b c) = bl (nmS op) ++ y := by
  unfold stemS tS
  rw [bl_sb]
  have e : bl (txS op a b c 0) = (bl (nmS op) ++ y) ++ [48] := by
    have h1 : bl (txS op a b c 0) = bl (nmS op) ++ partsL a b c 0 (Ins.shp op) := txS_list (fit_imm hf)
    rw [h1, hy, List.append_assoc]
  rw [e]
  exact trimS_hit _ _
theorem itoa0 : Lib.itoa 0 = [48] := by decide +kernel
theorem n97 : ((97 : UInt8).toNat : Int) = 97 := rfl
theorem n98 : ((98 : UInt8).toNat : Int) = 98 := rfl
theorem n99 : ((99 : UInt8).toNat : Int) = 99 := rfl
theorem n105 : ((105 : UInt8).toNat : Int) = 105 := rfl
theorem parts_join {x : Ln} (he : emB x.to = true) : ∀ ls : List UInt8, partsL x.a x.b x.c x.i ls = joinP (ls.map (pOf x))
  | [] => rfl
  | l :: ls => by
    have ih := parts_join he ls
    have e : (tldS (l.toNat : Int) (prt x.a x.b x.c x.i (l.toNat : Int))).data.toList = pOf x l := by
      rw [tld_list]
      unfold pOf
      by_cases h : l = 105
      · subst h
        rw [if_pos n105, if_pos rfl, if_pos he, n105]
        rfl
      · rw [if_neg h, if_neg]
        intro hh
        apply h
        apply UInt8.toNat_inj.1
        have : (105 : UInt8).toNat = 105 := rfl
        omega
    unfold partsL
    rw [e, ih]
    simp [joinP]
theorem line_list {x : Ln} (h : insB x = true) : bl (lineT x) = bl (nmS x.op) ++ joinP ((Ins.shp x.op).map (pOf x)) := by
  obtain ⟨h1, h2, h3⟩ := ins_parts h
  unfold lineT
  rw [em_nomark h1, h]
  simp only [Bool.false_eq_true, if_false, if_true]
  by_cases he : emB x.to = true
  · rw [if_pos he, ← parts_join he]
    exact txS_list h2
  · rw [if_neg he]
    have h4 : nameB x.to = true ∧ goB x.op x.i = true := h3.resolve_left he
    have hp5 : pOf x 105 = 64 :: (bl x.to ++ bl (addS x.i)) := by unfold pOf; rw [if_pos rfl, if_neg he]
    have hp97 : pOf x 97 = 114 :: Lib.itoa x.a := by unfold pOf; rw [if_neg (by decide), n97]; rfl
    have t97 : (tldS 97 x.a).data.toList = 114 :: Lib.itoa x.a := by rw [tld_list]; rfl
    have t105 : (tldS 105 0).data.toList = [48] := by rw [tld_list, if_pos rfl, itoa0]
    rcases go_shape h4.2 with hs | hs
    · have e := stem_list h2 h4.2 (y := 32 :: (114 :: Lib.itoa x.a) ++ [32]) (by
        rw [hs]
        simp only [partsL, n97, n105]
        show 32 :: ((tldS 97 x.a).data.toList ++ 32 :: ((tldS 105 0).data.toList ++ [])) = _
        rw [t97, t105]
        simp)
      rw [bl_app, bl_app, bl_app, e, hs]
      simp only [List.map_cons, List.map_nil, hp5, hp97, joinP, List.flatMap_cons, List.flatMap_nil]
      show _ ++ [64] ++ _ ++ _ = _
      simp
    · have e := stem_list h2 h4.2 (y := [32]) (by
        rw [hs]
        simp only [partsL, n105]
        show 32 :: ((tldS 105 0).data.toList ++ []) = _
        rw [t105]
        rfl)
      rw [bl_app, bl_app, bl_app, e, hs]
      simp only [List.map_cons, List.map_nil, hp5, joinP, List.flatMap_cons, List.flatMap_nil]
      show _ ++ [64] ++ _ ++ _ = _
      simp
theorem ins_op {x : Ln} (h : insB x = true) : ∃ k : Nat, k < 26 ∧ x.op = (k : Int) := by
  obtain ⟨h1, h2, h3⟩ := ins_parts h
  obtain ⟨o0, o1⟩ := (Ins.fit_bounds h2).1
  exact ⟨x.op.toNat, by omega, by omega⟩
theorem shp_len (op : Int) : (Ins.shp op).length ≤ 3 := by rcases Ins.shp_cases op with h | h | h | h | h | h | h <;> rw [h] <;> decide
theorem line_spl {x : Ln} (h : insB x = true) : spl (lineT x) = nmS x.op :: ((Ins.shp x.op).map (pOf x)).map sb := by
  obtain ⟨k, hk, e⟩ := ins_op h
  refine spl_join (line_list h) ?_ ?_ (by rw [List.length_map]; exact shp_len _)
  · rw [e]; exact fun c hc => ((nm_bytes ⟨k, hk⟩).1 c hc).2.2
  · intro p hp c hc
    obtain ⟨l, _, rfl⟩ := List.mem_map.1 hp
    exact (pOf_not h l c hc).2.2
theorem line_not {x : Ln} (h : insB x = true) : ∀ c ∈ bl (lineT x), c ≠ 58 ∧ c ≠ 10 := by
  obtain ⟨k, hk, e⟩ := ins_op h
  intro c hc
  rw [line_list h] at hc
  rcases List.mem_append.1 hc with hc | hc
  · rw [e] at hc; have := (nm_bytes ⟨k, hk⟩).1 c hc; exact ⟨this.1, this.2.1⟩
  · unfold joinP at hc
    obtain ⟨p, hp, hc⟩ := List.mem_flatMap.1 hc
    obtain ⟨l, _, rfl⟩ := List.mem_map.1 hp
    rcases List.mem_cons.1 hc with rfl | hc
    · decide
    · have := pOf_not h l c hc; exact ⟨this.1, this.2.1⟩
theorem ops_at {k : Nat} (hk : k < 26) : lkp (nmS (k : Int)) (opsL 26) = some k := by
  have key : ∀ k : Fin 26, lkp (nmS (k.val : Int)) (opsL 26) = some k.val := by decide +kernel
  exact key ⟨k, hk⟩
theorem hS_no {s : ByteArray} (h : ∀ c ∈ bl s, c ≠ 58) : hS s ⟨#[58]⟩ = false := by
  cases hh : hS s ⟨#[58]⟩ with
  | false => rfl
  | true =>
    unfold hS Lib.hasSuffix at hh
    obtain ⟨t, ht⟩ := List.isSuffixOf_iff_suffix.1 hh
    exact absurd rfl (h 58 (by rw [← ht]; simp [bl]))
theorem reg_read {a : Int} (h0 : 0 ≤ a) (h1 : a < 16) : atoI (bl (tP (sb (114 :: Lib.itoa a)) ⟨#[114]⟩)) = a := by
  unfold tP
  rw [bl_sb, bl_sb]
  have : Lib.trimPrefix (114 :: Lib.itoa a) (bl ⟨#[114]⟩) = Lib.itoa a := trimP_hit [114] _
  rw [this]
  exact atoI_itoa h0 h1
theorem w32 {i : Int} (h0 : -2147483648 ≤ i) (h1 : i < 2147483648) : wrap32 i = i := by unfold wrap32; omega
theorem num_read {x y : Ln} (h : insB x = true) (hi0 : -2147483648 ≤ x.i) (hi1 : x.i < 2147483648) (hy : y.to = ⟨#[]⟩) : wNum y (sb (pOf x 105)) = ⟨y.mark, y.op, y.a, y.b, y.c, x.i, x.to⟩ := by
  obtain ⟨h1, h2, h3⟩ := ins_parts h
  by_cases he : emB x.to = true
  · have e : pOf x 105 = Lib.itoa x.i := by unfold pOf; rw [if_pos rfl, if_pos he]
    rw [e]
    have hp : hP (sb (Lib.itoa x.i)) ⟨#[64]⟩ = false := by
      cases hh : hP (sb (Lib.itoa x.i)) ⟨#[64]⟩ with
      | false => rfl
      | true =>
        unfold hP Lib.hasPrefix at hh
        obtain ⟨t, ht⟩ := List.isPrefixOf_iff_prefix.1 hh
        rw [bl_sb] at ht
        exact absurd rfl ((itoa_not x.i 64 (by rw [← ht]; simp [bl])).2.2.2.1)
    unfold wNum
    rw [hp]
    simp only [Bool.false_eq_true, if_false]
    rw [bl_sb, numI_itoa hi0 hi1, w32 hi0 hi1, hy, (emB_iff x.to).1 he]
  · have e : pOf x 105 = 64 :: (bl x.to ++ bl (addS x.i)) := by unfold pOf; rw [if_pos rfl, if_neg he]
    have h4 : nameB x.to = true ∧ goB x.op x.i = true := h3.resolve_left he
    rw [e]
    have hp : hP (sb (64 :: (bl x.to ++ bl (addS x.i)))) ⟨#[64]⟩ = true := by
      unfold hP Lib.hasPrefix
      exact List.isPrefixOf_iff_prefix.2 ⟨_, rfl⟩
    have ht : tP (sb (64 :: (bl x.to ++ bl (addS x.i)))) ⟨#[64]⟩ = sb (bl x.to ++ bl (addS x.i)) := by
      unfold tP
      rw [bl_sb]
      exact congrArg sb (trimP_hit [64] _)
    have hn : ∀ d ∈ bl x.to, d ≠ 43 := fun d hd => (ld_not (name_bytes h4.1 d hd)).2.2.2
    unfold wNum
    rw [hp, if_pos rfl, ht]
    unfold c1 c2
    rw [bl_sb, bl_sb]
    have ep : bl (⟨#[43]⟩ : ByteArray) = [43] := rfl
    rw [ep]
    unfold addS
    by_cases h0 : x.i = 0
    · rw [if_pos h0]
      have : bl (⟨#[]⟩ : ByteArray) = [] := rfl
      rw [this, List.append_nil, cut_miss hn]
      simp only [sb_bl]
      have e0 : wrap32 (numI []) = 0 := by decide +kernel
      rw [e0, h0]
    · rw [if_neg h0, bl_app, ep]
      have : bl (itS x.i) = Lib.itoa x.i := rfl
      rw [this, List.singleton_append, cut_hit hn]
      simp only [sb_bl]
      rw [numI_itoa hi0 hi1, w32 hi0 hi1]
end Go.Proofs.YtagljcgfmdahhaaGreatDoor
