/-
  PROVED HERE: the text of a line is read as that line; lines as a text are read as they are, and what is read is lines. Lines that are such, with numbers of 32 bits.
-/
import Derived.Test.YtnghendglcblkaaGreatDoorAsm16
namespace Go.Proofs.YtnghendglcblkaaGreatDoor
open Go.RowKit Go.Shelf
set_option linter.unusedVariables false
open Asm

theorem dec_dig (u : Nat) : ∀ c ∈ Lib.decDigits u, c.toNat ≤ 57 := by
  induction u using Nat.strongRecOn with
  | _ u ih =>
    by_cases h : u < 10
    · rw [Lib.decDigits_one h]; intro c hc; simp only [List.mem_singleton] at hc; rw [hc, dig_toNat h]; omega
    · rw [Lib.decDigits, dif_neg h]
      intro c hc
      simp only [List.mem_append, List.mem_singleton] at hc
      rcases hc with hc | hc
      · exact ih _ (by omega) c hc
      · rw [hc, dig_toNat (by omega)]; omega
theorem dec_ne (u : Nat) : Lib.decDigits u ≠ [] := by
  by_cases h : u < 10
  · rw [Lib.decDigits_one h]; simp
  · rw [Lib.decDigits, dif_neg h]; simp
def valF (n : Nat) (l : List UInt8) : Nat := l.foldl (fun n c => n * 10 + (c.toNat - 48)) n
theorem valF_le : ∀ (l : List UInt8) (n : Nat), n ≤ valF n l
  | [], n => Nat.le_refl _
  | c :: l, n => by have := valF_le l (n * 10 + (c.toNat - 48)); show n ≤ valF (n * 10 + (c.toNat - 48)) l; omega
theorem parseM {M : Nat} (hM : M < 1844674407370955162) : ∀ (l : List UInt8) (n : Nat), (∀ c ∈ l, 48 ≤ c.toNat ∧ c.toNat ≤ 57) → valF n l ≤ M → n ≤ M → Lib.parseUintM M n l = .ok (valF n l)
  | [], n, _, _, _ => rfl
  | c :: l, n, h, hv, hn => by
    have hc := h c (by simp)
    have h1 := valF_le l (n * 10 + (c.toNat - 48))
    have hv' : valF (n * 10 + (c.toNat - 48)) l ≤ M := hv
    unfold Lib.parseUintM
    rw [if_pos hc, if_neg (by omega), if_neg (by omega)]
    exact parseM hM l _ (fun d hd => h d (by simp [hd])) hv' (by omega)
theorem parse_dec {u : Nat} (hu : u ≤ 4294967295) : Lib.parseUintB 32 (Lib.decDigits u) = .ok u := by
  have hd := dec_facts u
  have h := parseM (M := 2 ^ 32 - 1) (by decide) (Lib.decDigits u) 0 (fun c hc => ⟨hd.2 c hc, dec_dig u c hc⟩) (by show valD _ ≤ _; rw [hd.1]; exact hu) (by decide)
  unfold Lib.parseUintB
  rw [if_neg (dec_ne u), h]
  show Lib.NumEnd.ok (valD _) = _
  rw [hd.1]
theorem numI_itoa {i : Int} (h0 : -2147483648 ≤ i) (h1 : i < 2147483648) : numI (Lib.itoa i) = i := by
  rcases itoa_cases i with ⟨u, e, h⟩ | ⟨u, hu, e, h⟩ <;> rw [h]
  · have hp := parse_dec (u := u) (by omega)
    have hb : ∀ c ∈ Lib.decDigits u, 48 ≤ c.toNat := (dec_facts u).2
    cases hl : Lib.decDigits u with
    | nil => exact absurd hl (dec_ne u)
    | cons c r =>
      rw [hl] at hp hb
      have hc := hb c (by simp)
      have e1 : Lib.parseIntB 32 (c :: r) = .ok (u : Int) := by
        unfold Lib.parseIntB
        have n1 : ¬ c.toNat = 43 := by omega
        have n2 : ¬ c.toNat = 45 := by omega
        have n3 : ¬ (2 ^ (32 - 1) ≤ u) := by simp; omega
        simp only [n1, n2, n3, or_self, if_false, hp, not_false_eq_true, true_and, false_and]
      unfold numI
      rw [e1, e]
  · have hp := parse_dec (u := u) (by omega)
    have e1 : Lib.parseIntB 32 (45 :: Lib.decDigits u) = .ok (-(u : Int)) := by
      unfold Lib.parseIntB
      have n2 : (45 : UInt8).toNat = 45 := rfl
      have n3 : ¬ (2 ^ (32 - 1) < u) := by simp; omega
      simp only [n2, n3, or_true, if_true, hp, not_true_eq_false, true_and, false_and, if_false]
    unfold numI
    rw [e1, e]
theorem atoI_itoa {a : Int} (h0 : 0 ≤ a) (h1 : a < 16) : atoI (Lib.itoa a) = a := by
  obtain ⟨k, rfl⟩ := Int.eq_ofNat_of_zero_le h0
  have key : ∀ k : Fin 16, atoI (Lib.itoa (k.val : Int)) = (k.val : Int) := by decide +kernel
  exact key ⟨k, by omega⟩
theorem itoa_bytes (v : Int) : ∀ c ∈ Lib.itoa v, c.toNat = 45 ∨ 48 ≤ c.toNat ∧ c.toNat ≤ 57 := by
  intro c hc
  rcases itoa_cases v with ⟨u, _, h⟩ | ⟨u, _, _, h⟩ <;> rw [h] at hc
  · exact .inr ⟨(dec_facts u).2 c hc, dec_dig u c hc⟩
  · rcases List.mem_cons.1 hc with h1 | h1
    · exact .inl (by rw [h1]; rfl)
    · exact .inr ⟨(dec_facts u).2 c h1, dec_dig u c h1⟩
theorem itoa_ne (v : Int) : Lib.itoa v ≠ [] := by
  rcases itoa_cases v with ⟨u, _, h⟩ | ⟨u, _, _, h⟩ <;> rw [h]
  · exact dec_ne u
  · simp
theorem trimS_hit (y s : List UInt8) : Lib.trimSuffix (y ++ s) s = y := by
  unfold Lib.trimSuffix
  rw [if_pos (by unfold Lib.hasSuffix; exact List.isSuffixOf_iff_suffix.2 ⟨y, rfl⟩)]
  simp
theorem trimP_hit (p y : List UInt8) : Lib.trimPrefix (p ++ y) p = y := by
  unfold Lib.trimPrefix
  rw [if_pos (by unfold Lib.hasPrefix; exact List.isPrefixOf_iff_prefix.2 ⟨y, rfl⟩)]
  simp
/-- A part's text. -/
def pOf (x : Ln) (l : UInt8) : List UInt8 := if l = 105 then (if emB x.to then Lib.itoa x.i else 64 :: (bl x.to ++ bl (addS x.i))) else 114 :: Lib.itoa (prt x.a x.b x.c x.i (l.toNat : Int))
def joinP (ps : List (List UInt8)) : List UInt8 := ps.flatMap fun p => 32 :: p
theorem split_join : ∀ (ps : List (List UInt8)) (nm : List UInt8) (k : Nat), (∀ c ∈ nm, c ≠ 32) → (∀ p ∈ ps, ∀ c ∈ p, c ≠ 32) → ps.length ≤ k → Lib.splitK [32] 0 k (nm ++ joinP ps) = nm :: ps
  | [], nm, k, hn, _, _ => by
    show Lib.splitK [32] 0 k (nm ++ []) = [nm]
    rw [List.append_nil]
    cases k with
    | zero => rfl
    | succ k => unfold Lib.splitK; rw [index_miss hn]; rfl
  | p :: ps, nm, 0, _, _, hk => by simp at hk
  | p :: ps, nm, k + 1, hn, hp, hk => by
    have e : nm ++ joinP (p :: ps) = nm ++ 32 :: (p ++ joinP ps) := by simp [joinP]
    have ih := split_join ps p k (hp p (by simp)) (fun q hq => hp q (by simp [hq])) (by simpa using hk)
    rw [e]
    unfold Lib.splitK
    rw [index_hit hn, if_neg (by simp)]
    simp only [Int.toNat_natCast, Nat.add_zero, List.length_cons, List.length_nil, Nat.zero_add]
    rw [List.take_left, show nm.length + 1 = (nm ++ [32]).length by simp, show nm ++ 32 :: (p ++ joinP ps) = (nm ++ [32]) ++ (p ++ joinP ps) by simp, List.drop_left, ih]
theorem join_len : ∀ ps : List (List UInt8), ps.length ≤ (joinP ps).length
  | [] => Nat.le_refl _
  | p :: ps => by have := join_len ps; simp only [joinP, List.flatMap_cons, List.length_cons, List.length_append] at this ⊢; omega
theorem spl_join {s nm : ByteArray} {ps : List (List UInt8)} (e : bl s = bl nm ++ joinP ps) (hn : ∀ c ∈ bl nm, c ≠ 32) (hp : ∀ p ∈ ps, ∀ c ∈ p, c ≠ 32) (hl : ps.length ≤ 3) : spl s = nm :: ps.map sb := by
  have h1 := Lib.splitB_data ⟨#[32]⟩ 0 (min 4 (s.size + 1) - 1) s
  have h2 : Lib.splitK [32] 0 (min 4 (s.size + 1) - 1) (bl s) = bl nm :: ps := by
    rw [e]
    refine split_join ps _ _ hn hp ?_
    have := join_len ps
    have h3 := congrArg List.length e
    rw [bl_len, List.length_append] at h3
    omega
  have h3 : (spl s).map bl = bl nm :: ps := h1.trans h2
  have h4 := congrArg (List.map sb) h3
  rw [List.map_map, List.map_cons, sb_bl] at h4
  have h5 : (sb ∘ bl) = id := funext fun t => sb_bl t
  rw [h5, List.map_id] at h4
  exact h4
theorem name_bytes {s : ByteArray} (h : nameB s = true) : ∀ c ∈ bl s, ldB c = true := by
  intro c hc
  unfold nameB at h
  cases hl : s.data.toList with
  | nil => rw [hl] at h; cases h
  | cons d l =>
    rw [hl, nameL_cons] at h
    simp only [Bool.and_eq_true] at h
    have hc' : c ∈ d :: l := by rw [← hl]; exact hc
    exact List.all_eq_true.1 h.2 c hc'
theorem ld_not {c : UInt8} (h : ldB c = true) : c ≠ 58 ∧ c ≠ 10 ∧ c ≠ 32 ∧ c ≠ 43 := by
  refine ⟨?_, ?_, ?_, ?_⟩ <;> (rintro rfl; revert h; decide)
theorem nm_bytes : ∀ k : Fin 26, (∀ c ∈ bl (nmS (k.val : Int)), c ≠ 58 ∧ c ≠ 10 ∧ c ≠ 32) ∧ bl (nmS (k.val : Int)) ≠ [] := by decide +kernel
theorem itoa_not (v : Int) : ∀ c ∈ Lib.itoa v, c ≠ 58 ∧ c ≠ 10 ∧ c ≠ 32 ∧ c ≠ 64 ∧ c ≠ 43 := by
  intro c hc
  have := itoa_bytes v c hc
  refine ⟨?_, ?_, ?_, ?_, ?_⟩ <;> (rintro rfl; revert this; decide)
theorem ins_parts {x : Ln} (h : insB x = true) : emB x.mark = true ∧ Ins.fitB x.op x.a x.b x.c x.i = true ∧ (emB x.to = true ∨ nameB x.to = true ∧ goB x.op x.i = true) := by
  unfold insB at h
  simp only [Bool.and_eq_true, Bool.or_eq_true] at h
  exact ⟨h.1.1, h.1.2, h.2⟩
theorem em_nomark {x : Ln} (h : emB x.mark = true) : markB x = false := by
  have e := (emB_iff x.mark).1 h
  unfold markB
  rw [e]
  rfl
theorem pOf_not {x : Ln} (h : insB x = true) (l : UInt8) : ∀ c ∈ pOf x l, c ≠ 58 ∧ c ≠ 10 ∧ c ≠ 32 := by
  obtain ⟨_, _, h3⟩ := ins_parts h
  intro c hc
  unfold pOf at hc
  split at hc
  · split at hc
    · have := itoa_not _ c hc; exact ⟨this.1, this.2.1, this.2.2.1⟩
    · rename_i he
      rcases List.mem_cons.1 hc with rfl | hc
      · decide
      · rcases List.mem_append.1 hc with hc | hc
        · rcases h3 with h3 | h3
          · exact absurd h3 he
          · have := ld_not (name_bytes h3.1 c hc); exact ⟨this.1, this.2.1, this.2.2.1⟩
        · unfold addS at hc
          split at hc
          · cases hc
          · rw [bl_app] at hc
            rcases List.mem_append.1 hc with hc | hc
            · rw [List.mem_singleton.1 hc]; decide
            · have := itoa_not _ c hc; exact ⟨this.1, this.2.1, this.2.2.1⟩
  · rcases List.mem_cons.1 hc with rfl | hc
    · decide
    · have := itoa_not _ c hc; exact ⟨this.1, this.2.1, this.2.2.1⟩

theorem fit_imm {op a b c i : Int} (h : Ins.fitB op a b c i = true) : Ins.fitB op a b c 0 = true := by
  unfold Ins.fitB at h ⊢
  simp only [Bool.and_eq_true] at h ⊢
  exact ⟨h.1, by simp⟩
theorem go_shape {op i : Int} (h : goB op i = true) : Ins.shp op = [97, 105] ∨ Ins.shp op = [105] := by
  unfold goB jmpB at h
  simp only [Bool.or_eq_true, Bool.and_eq_true, beq_iff_eq] at h
  have : op = 18 ∨ op = 19 ∨ op = 20 ∨ op = 21 ∨ op = 1 := by omega
  rcases this with rfl | rfl | rfl | rfl | rfl <;> decide
theorem stem_list {op a b c i : Int} (hf : Ins.fitB op a b c i = true) (hg : goB op i = true) {y : List UInt8} (hy : partsL a b c 0 (Ins.shp op) = y ++ [48]) : bl (stemS op a b c) = bl (nmS op) ++ y := by
  unfold stemS tS
  rw [bl_sb]
  have e : bl (txS op a b c 0) = (bl (nmS op) ++ y) ++ [48] := by
    have h1 : bl (txS op a b c 0) = bl (nmS op) ++ partsL a b c 0 (Ins.shp op) := txS_list (fit_imm hf)
    rw [h1, hy, List.append_assoc]
  rw [e]
  exact trimS_hit _ _
theorem itoa0 : Lib.itoa 0 = [48] := by decide +kernel
theorem n97 : ((97 : UInt8).toNat : Int) = 97 := rfl
theorem n98 : ((98 : UInt8).toNat : Int) = 98 := rfl
theorem n99 : ((99 : UInt8).toNat : Int) = 99 := rfl
theorem n105 : ((105 : UInt8).toNat : Int) = 105 := rfl
theorem parts_join {x : Ln} (he : emB x.to = true) : ∀ ls : List UInt8, partsL x.a x.b x.c x.i ls = joinP (ls.map (pOf x))
  | [] => rfl
  | l :: ls => by
    have ih := parts_join he ls
    have e : (tldS (l.toNat : Int) (prt x.a x.b x.c x.i (l.toNat : Int))).data.toList = pOf x l := by
      rw [tld_list]
      unfold pOf
      by_cases h : l = 105
      · subst h
        rw [if_pos n105, if_pos rfl, if_pos he, n105]
        rfl
      · rw [if_neg h, if_neg]
        intro hh
        apply h
        apply UInt8.toNat_inj.1
        have : (105 : UInt8).toNat = 105 := rfl
        omega
    unfold partsL
    rw [e, ih]
    simp [joinP]
theorem line_list {x : Ln} (h : insB x = true) : bl (lineT x) = bl (nmS x.op) ++ joinP ((Ins.shp x.op).map (pOf x)) := by
  obtain ⟨h1, h2, h3⟩ := ins_parts h
  unfold lineT
  rw [em_nomark h1, h]
  simp only [Bool.false_eq_true, if_false, if_true]
  by_cases he : emB x.to = true
  · rw [if_pos he, ← parts_join he]
    exact txS_list h2
  · rw [if_neg he]
    have h4 : nameB x.to = true ∧ goB x.op x.i = true := h3.resolve_left he
    have hp5 : pOf x 105 = 64 :: (bl x.to ++ bl (addS x.i)) := by unfold pOf; rw [if_pos rfl, if_neg he]
    have hp97 : pOf x 97 = 114 :: Lib.itoa x.a := by unfold pOf; rw [if_neg (by decide), n97]; rfl
    have t97 : (tldS 97 x.a).data.toList = 114 :: Lib.itoa x.a := by rw [tld_list]; rfl
    have t105 : (tldS 105 0).data.toList = [48] := by rw [tld_list, if_pos rfl, itoa0]
    rcases go_shape h4.2 with hs | hs
    · have e := stem_list h2 h4.2 (y := 32 :: (114 :: Lib.itoa x.a) ++ [32]) (by
        rw [hs]
        simp only [partsL, n97, n105]
        show 32 :: ((tldS 97 x.a).data.toList ++ 32 :: ((tldS 105 0).data.toList ++ [])) = _
        rw [t97, t105]
        simp)
      rw [bl_app, bl_app, bl_app, e, hs]
      simp only [List.map_cons, List.map_nil, hp5, hp97, joinP, List.flatMap_cons, List.flatMap_nil]
      show _ ++ [64] ++ _ ++ _ = _
      simp
    · have e := stem_list h2 h4.2 (y := [32]) (by
        rw [hs]
        simp only [partsL, n105]
        show 32 :: ((tldS 105 0).data.toList ++ []) = _
        rw [t105]
        rfl)
      rw [bl_app, bl_app, bl_app, e, hs]
      simp only [List.map_cons, List.map_nil, hp5, joinP, List.flatMap_cons, List.flatMap_nil]
      show _ ++ [64] ++ _ ++ _ = _
      simp
theorem ins_op {x : Ln} (h : insB x = true) : ∃ k : Nat, k < 26 ∧ x.op = (k : Int) := by
  obtain ⟨h1, h2, h3⟩ := ins_parts h
  obtain ⟨o0, o1⟩ := (Ins.fit_bounds h2).1
  exact ⟨x.op.toNat, by omega, by omega⟩
theorem shp_len (op : Int) : (Ins.shp op).length ≤ 3 := by rcases Ins.shp_cases op with h | h | h | h | h | h | h <;> rw [h] <;> decide
theorem line_spl {x : Ln} (h : insB x = true) : spl (lineT x) = nmS x.op :: ((Ins.shp x.op).map (pOf x)).map sb := by
  obtain ⟨k, hk, e⟩ := ins_op h
  refine spl_join (line_list h) ?_ ?_ (by rw [List.length_map]; exact shp_len _)
  · rw [e]; exact fun c hc => ((nm_bytes ⟨k, hk⟩).1 c hc).2.2
  · intro p hp c hc
    obtain ⟨l, _, rfl⟩ := List.mem_map.1 hp
    exact (pOf_not h l c hc).2.2
theorem line_not {x : Ln} (h : insB x = true) : ∀ c ∈ bl (lineT x), c ≠ 58 ∧ c ≠ 10 := by
  obtain ⟨k, hk, e⟩ := ins_op h
  intro c hc
  rw [line_list h] at hc
  rcases List.mem_append.1 hc with hc | hc
  · rw [e] at hc; have := (nm_bytes ⟨k, hk⟩).1 c hc; exact ⟨this.1, this.2.1⟩
  · unfold joinP at hc
    obtain ⟨p, hp, hc⟩ := List.mem_flatMap.1 hc
    obtain ⟨l, _, rfl⟩ := List.mem_map.1 hp
    rcases List.mem_cons.1 hc with rfl | hc
    · decide
    · have := pOf_not h l c hc; exact ⟨this.1, this.2.1⟩
theorem ops_at {k : Nat} (hk : k < 26) : lkp (nmS (k : Int)) (opsL 26) = some k := by
  have key : ∀ k : Fin 26, lkp (nmS (k.val : Int)) (opsL 26) = some k.val := by decide +kernel
  exact key ⟨k, hk⟩
theorem hS_no {s : ByteArray} (h : ∀ c ∈ bl s, c ≠ 58) : hS s ⟨#[58]⟩ = false := by
  cases hh : hS s ⟨#[58]⟩ with
  | false => rfl
  | true =>
    unfold hS Lib.hasSuffix at hh
    obtain ⟨t, ht⟩ := List.isSuffixOf_iff_suffix.1 hh
    exact absurd rfl (h 58 (by rw [← ht]; simp [bl]))
theorem reg_read {a : Int} (h0 : 0 ≤ a) (h1 : a < 16) : atoI (bl (tP (sb (114 :: Lib.itoa a)) ⟨#[114]⟩)) = a := by
  unfold tP
  rw [bl_sb, bl_sb]
  have : Lib.trimPrefix (114 :: Lib.itoa a) (bl ⟨#[114]⟩) = Lib.itoa a := trimP_hit [114] _
  rw [this]
  exact atoI_itoa h0 h1
theorem w32 {i : Int} (h0 : -2147483648 ≤ i) (h1 : i < 2147483648) : wrap32 i = i := by unfold wrap32; omega
theorem num_read {x y : Ln} (h : insB x = true) (hi0 : -2147483648 ≤ x.i) (hi1 : x.i < 2147483648) (hy : y.to = ⟨#[]⟩) : wNum y (sb (pOf x 105)) = ⟨y.mark, y.op, y.a, y.b, y.c, x.i, x.to⟩ := by
  obtain ⟨h1, h2, h3⟩ := ins_parts h
  by_cases he : emB x.to = true
  · have e : pOf x 105 = Lib.itoa x.i := by unfold pOf; rw [if_pos rfl, if_pos he]
    rw [e]
    have hp : hP (sb (Lib.itoa x.i)) ⟨#[64]⟩ = false := by
      cases hh : hP (sb (Lib.itoa x.i)) ⟨#[64]⟩ with
      | false => rfl
      | true =>
        unfold hP Lib.hasPrefix at hh
        obtain ⟨t, ht⟩ := List.isPrefixOf_iff_prefix.1 hh
        rw [bl_sb] at ht
        exact absurd rfl ((itoa_not x.i 64 (by rw [← ht]; simp [bl])).2.2.2.1)
    unfold wNum
    rw [hp]
    simp only [Bool.false_eq_true, if_false]
    rw [bl_sb, numI_itoa hi0 hi1, w32 hi0 hi1, hy, (emB_iff x.to).1 he]
  · have e : pOf x 105 = 64 :: (bl x.to ++ bl (addS x.i)) := by unfold pOf; rw [if_pos rfl, if_neg he]
    have h4 : nameB x.to = true ∧ goB x.op x.i = true := h3.resolve_left he
    rw [e]
    have hp : hP (sb (64 :: (bl x.to ++ bl (addS x.i)))) ⟨#[64]⟩ = true := by
      unfold hP Lib.hasPrefix
      exact List.isPrefixOf_iff_prefix.2 ⟨_, rfl⟩
    have ht : tP (sb (64 :: (bl x.to ++ bl (addS x.i)))) ⟨#[64]⟩ = sb (bl x.to ++ bl (addS x.i)) := by
      unfold tP
      rw [bl_sb]
      exact congrArg sb (trimP_hit [64] _)
    have hn : ∀ d ∈ bl x.to, d ≠ 43 := fun d hd => (ld_not (name_bytes h4.1 d hd)).2.2.2
    unfold wNum
    rw [hp, if_pos rfl, ht]
    unfold c1 c2
    rw [bl_sb, bl_sb]
    have ep : bl (⟨#[43]⟩ : ByteArray) = [43] := rfl
    rw [ep]
    unfold addS
    by_cases h0 : x.i = 0
    · rw [if_pos h0]
      have : bl (⟨#[]⟩ : ByteArray) = [] := rfl
      rw [this, List.append_nil, cut_miss hn]
      simp only [sb_bl]
      have e0 : wrap32 (numI []) = 0 := by decide +kernel
      rw [e0, h0]
    · rw [if_neg h0, bl_app, ep]
      have : bl (itS x.i) = Lib.itoa x.i := rfl
      rw [this, List.singleton_append, cut_hit hn]
      simp only [sb_bl]
      rw [numI_itoa hi0 hi1, w32 hi0 hi1]

section
variable {x : Ln} {m : ByteArray} {op a b c i : Int} {tt : ByteArray}
theorem wA (h0 : 0 ≤ x.a) (h1 : x.a < 16) : wPart ⟨m, op, a, b, c, i, tt⟩ 97 (sb (pOf x 97)) = ⟨m, op, x.a, b, c, i, tt⟩ := by
  have e : pOf x 97 = 114 :: Lib.itoa x.a := by unfold pOf; rw [if_neg (by decide), n97]; rfl
  unfold wPart
  rw [if_neg (by decide), if_pos rfl, e, reg_read h0 h1]
theorem wB (h0 : 0 ≤ x.b) (h1 : x.b < 16) : wPart ⟨m, op, a, b, c, i, tt⟩ 98 (sb (pOf x 98)) = ⟨m, op, a, x.b, c, i, tt⟩ := by
  have e : pOf x 98 = 114 :: Lib.itoa x.b := by unfold pOf; rw [if_neg (by decide), n98]; rfl
  unfold wPart
  rw [if_neg (by decide), if_neg (by decide), if_pos rfl, e, reg_read h0 h1]
theorem wC (h0 : 0 ≤ x.c) (h1 : x.c < 16) : wPart ⟨m, op, a, b, c, i, tt⟩ 99 (sb (pOf x 99)) = ⟨m, op, a, b, x.c, i, tt⟩ := by
  have e : pOf x 99 = 114 :: Lib.itoa x.c := by unfold pOf; rw [if_neg (by decide), n99]; rfl
  unfold wPart
  rw [if_neg (by decide), if_neg (by decide), if_neg (by decide), if_pos rfl, e, reg_read h0 h1]
theorem wI (h : insB x = true) (h0 : -2147483648 ≤ x.i) (h1 : x.i < 2147483648) : wPart ⟨m, op, a, b, c, i, ⟨#[]⟩⟩ 105 (sb (pOf x 105)) = ⟨m, op, a, b, c, x.i, x.to⟩ := by
  unfold wPart
  rw [if_pos rfl]
  exact num_read h h0 h1 rfl
end
theorem lkl_ins {x : Ln} (h : insB x = true) (hi0 : -2147483648 ≤ x.i) (hi1 : x.i < 2147483648) : lkl (lineT x) = x := by
  obtain ⟨h1, h2, h3⟩ := ins_parts h
  obtain ⟨k, hk, ek⟩ := ins_op h
  have eo : ∀ r, ((opOf (nmS x.op :: r) : Nat) : Int) = x.op := fun r => by
    unfold opOf
    rw [List.getD_cons_zero, ek, ops_at hk]
    rfl
  obtain ⟨_, ⟨a0, a1⟩, ⟨b0, b1⟩, c0, c1⟩ := Ins.fit_bounds h2
  obtain ⟨za, zb, zc, zi⟩ := fit_zero h2
  have hto : Ins.us x.op 105 = false → x.to = ⟨#[]⟩ := fun hu => by
    rcases h3 with h3 | h3
    · exact (emB_iff _).1 h3
    · unfold Ins.us at hu
      rcases go_shape h3.2 with hs | hs <;> rw [hs] at hu <;> exact absurd hu (by decide)
  have hm : x.mark = ⟨#[]⟩ := (emB_iff _).1 h1
  unfold lkl
  rw [hS_no (fun c hc => (line_not h c hc).1), line_spl h, eo]
  simp only [Bool.false_eq_true, if_false]
  have fin : ∀ (a b c i : Int) (tt : ByteArray), a = x.a → b = x.b → c = x.c → i = x.i → tt = x.to → (⟨⟨#[]⟩, x.op, a, b, c, i, tt⟩ : Ln) = x := by
    rintro _ _ _ _ _ rfl rfl rfl rfl rfl
    rw [← hm]
  unfold Ins.us at za zb zc zi hto
  have hA := fun {m op a b c i tt} => wA (x := x) (m := m) (op := op) (a := a) (b := b) (c := c) (i := i) (tt := tt) a0 a1
  have hB := fun {m op a b c i tt} => wB (x := x) (m := m) (op := op) (a := a) (b := b) (c := c) (i := i) (tt := tt) b0 b1
  have hC := fun {m op a b c i tt} => wC (x := x) (m := m) (op := op) (a := a) (b := b) (c := c) (i := i) (tt := tt) c0 c1
  have hI := fun {m op a b c i} => wI (x := x) (m := m) (op := op) (a := a) (b := b) (c := c) (i := i) h hi0 hi1
  rcases Ins.shp_cases x.op with hs | hs | hs | hs | hs | hs | hs <;> rw [hs] at za zb zc zi hto ⊢
  · show wPart (wPart _ 97 (sb (pOf x 97))) 105 (sb (pOf x 105)) = x
    rw [hA, hI]
    exact fin _ _ _ _ _ rfl (zb (by decide)).symm (zc (by decide)).symm rfl rfl
  · show wPart (wPart _ 97 (sb (pOf x 97))) 98 (sb (pOf x 98)) = x
    rw [hA, hB]
    exact fin _ _ _ _ _ rfl rfl (zc (by decide)).symm (zi (by decide)).symm (hto (by decide)).symm
  · show wPart (wPart (wPart _ 97 (sb (pOf x 97))) 98 (sb (pOf x 98))) 99 (sb (pOf x 99)) = x
    rw [hA, hB, hC]
    exact fin _ _ _ _ _ rfl rfl rfl (zi (by decide)).symm (hto (by decide)).symm
  · show wPart (wPart (wPart _ 97 (sb (pOf x 97))) 98 (sb (pOf x 98))) 105 (sb (pOf x 105)) = x
    rw [hA, hB, hI]
    exact fin _ _ _ _ _ rfl rfl (zc (by decide)).symm rfl rfl
  · show wPart _ 105 (sb (pOf x 105)) = x
    rw [hI]
    exact fin _ _ _ _ _ (za (by decide)).symm (zb (by decide)).symm (zc (by decide)).symm rfl rfl
  · show wPart _ 97 (sb (pOf x 97)) = x
    rw [hA]
    exact fin _ _ _ _ _ rfl (zb (by decide)).symm (zc (by decide)).symm (zi (by decide)).symm (hto (by decide)).symm
  · exact fin _ _ _ _ _ (za (by decide)).symm (zb (by decide)).symm (zc (by decide)).symm (zi (by decide)).symm (hto (by decide)).symm
theorem mark_line {x : Ln} (h : markB x = true) : bl (lineT x) = bl x.mark ++ [58] ∧ x = ⟨x.mark, 0, 0, 0, 0, 0, ⟨#[]⟩⟩ ∧ nameB x.mark = true := by
  have h' := h
  unfold markB zeroB at h'
  simp only [Bool.and_eq_true, beq_iff_eq] at h'
  obtain ⟨⟨h1, h2⟩, ⟨⟨⟨e1, e2⟩, e3⟩, e4⟩, e5⟩ := h'
  refine ⟨?_, ?_, h1⟩
  · unfold lineT; rw [h, if_pos rfl, bl_app]; rfl
  · have e6 := (emB_iff _).1 h2
    obtain ⟨m, op, a, b, c, i, tt⟩ := x
    simp only at e1 e2 e3 e4 e5 e6 ⊢
    subst e1 e2 e3 e4 e5 e6
    rfl
theorem lkl_line {x : Ln} (h : goodB x = true) (hi0 : -2147483648 ≤ x.i) (hi1 : x.i < 2147483648) : lkl (lineT x) = x := by
  unfold goodB at h
  cases hm : markB x with
  | false => rw [hm] at h; exact lkl_ins (by simpa using h) hi0 hi1
  | true =>
    obtain ⟨e, ex, hn⟩ := mark_line hm
    have hs : hS (lineT x) ⟨#[58]⟩ = true := by unfold hS Lib.hasSuffix; exact List.isSuffixOf_iff_suffix.2 ⟨bl x.mark, e.symm⟩
    have ht : tS (lineT x) ⟨#[58]⟩ = x.mark := by
      unfold tS
      rw [e]
      exact (congrArg sb (trimS_hit (bl x.mark) [58])).trans (sb_bl _)
    unfold lkl
    rw [hs, if_pos rfl, ht]
    exact ex.symm
theorem line_no10 {x : Ln} (h : goodB x = true) : ∀ c ∈ bl (lineT x), c ≠ 10 := by
  unfold goodB at h
  cases hm : markB x with
  | false => rw [hm] at h; exact fun c hc => (line_not (by simpa using h) c hc).2
  | true =>
    obtain ⟨e, ex, hn⟩ := mark_line hm
    intro c hc
    rw [e] at hc
    rcases List.mem_append.1 hc with hc | hc
    · exact (ld_not (name_bytes hn c hc)).2.1
    · rw [List.mem_singleton.1 hc]; decide
theorem bl_ne {s : ByteArray} (h : bl s ≠ []) : emB s = false := by
  cases he : emB s with
  | false => rfl
  | true => rw [(emB_iff s).1 he] at h; exact absurd rfl h
theorem line_em (x : Ln) : emB (lineT x) = !goodB x := by
  cases hg : goodB x with
  | true =>
    refine bl_ne ?_
    unfold goodB at hg
    cases hm : markB x with
    | false =>
      rw [hm] at hg
      have hi : insB x = true := by simpa using hg
      obtain ⟨k, hk, e⟩ := ins_op hi
      rw [line_list hi, e]
      exact fun h => (nm_bytes ⟨k, hk⟩).2 (List.append_eq_nil_iff.1 h).1
    | true => rw [(mark_line hm).1]; simp
  | false =>
    unfold goodB at hg
    rw [Bool.or_eq_false_iff] at hg
    unfold lineT
    rw [hg.1, hg.2]
    rfl
/-- Lines as a text. -/
def txL (l : List Ln) : List UInt8 := l.flatMap fun x => bl (lineT x) ++ [10]
def prg (l : List Ln) : ByteArray := if l.all goodB then sb (txL l) else ⟨#[]⟩
theorem cuts_prg : ∀ (l : List Ln) (f : Nat), (∀ x ∈ l, goodB x = true) → (txL l).length ≤ f → cutsF f (sb (txL l)) = l.map lineT
  | [], f, _, _ => cuts_em rfl
  | x :: l, f, h, hf => by
    have e : txL (x :: l) = bl (lineT x) ++ 10 :: txL l := by simp [txL]
    have hg := h x (by simp)
    have hcut := cut_hit (r := txL l) (line_no10 hg)
    have hem : emB (sb (txL (x :: l))) = false := bl_ne (by rw [bl_sb, e]; simp)
    obtain ⟨g, h1, h2⟩ := cuts_step hem (f := f) (by rw [sb_size]; exact hf)
    have e1 : c1 (sb (txL (x :: l))) nlB = lineT x := by unfold c1; rw [bl_sb, e]; exact (congrArg (fun t => sb t.1) hcut).trans (sb_bl _)
    have e2 : c2 (sb (txL (x :: l))) nlB = sb (txL l) := by unfold c2; rw [bl_sb, e]; exact congrArg (fun t => sb t.2.1) hcut
    rw [e1, e2] at h1
    rw [e2, sb_size] at h2
    rw [h1, cuts_prg l g (fun y hy => h y (by simp [hy])) h2]
    rfl
theorem neK_all {T : List ByteArray} (h : ∀ t ∈ T, emB t = false) : neK T T.length = List.range T.length := by
  unfold neK
  refine List.filter_eq_self.2 fun j hj => ?_
  have hj := List.mem_range.1 hj
  rw [List.getD_eq_getElem?_getD, List.getElem?_eq_getElem hj]
  show (!emB T[j]) = true
  rw [h _ (List.getElem_mem hj)]
  rfl
theorem rd_prg {l : List Ln} (h : ∀ x ∈ l, goodB x = true) (hi : ∀ x ∈ l, -2147483648 ≤ x.i ∧ x.i < 2147483648) : rdW (sb (txL l)) = l ∧ rdK (sb (txL l)) = 0 ∧ rdE (sb (txL l)) = 0 := by
  have eT : lns (sb (txL l)) = l.map lineT := cuts_prg l _ h (by rw [sb_size]; exact Nat.le_refl _)
  have hne : ∀ t ∈ l.map lineT, emB t = false := fun t ht => by
    obtain ⟨x, hx, rfl⟩ := List.mem_map.1 ht
    rw [line_em, h x hx]
    rfl
  have hk := neK_all hne
  have hn : neN (l.map lineT) = l.length := by unfold neN; rw [hk]; simp
  have hx : ∀ j (hj : j < l.length), txtT (l.map lineT) j = lineT l[j] := fun j hj => by
    have hp : plcT (l.map lineT) j = j := by
      unfold plcT
      rw [hk, List.getD_eq_getElem?_getD, List.getElem?_range (by simpa using hj)]
      rfl
    unfold txtT
    rw [hp, List.getD_eq_getElem?_getD, List.getElem?_map, List.getElem?_eq_getElem hj]
    rfl
  have hX : ∀ j (hj : j < l.length), xT (l.map lineT) j = l[j] := fun j hj => by
    unfold xT
    rw [hx j hj]
    have hm := List.getElem_mem hj
    exact lkl_line (h _ hm) (hi _ hm).1 (hi _ hm).2
  have hok : ∀ j ∈ List.range (neN (lns (sb (txL l)))), okT (lns (sb (txL l))) j = true := by
    rw [eT, hn]
    intro j hj
    have hj := List.mem_range.1 hj
    unfold okT
    rw [hX j hj, hx j hj]
    exact decide_eq_true rfl
  obtain ⟨r1, r2, r3⟩ := rd_ok hok
  refine ⟨?_, r2, r3⟩
  rw [r1, eT, hn]
  refine List.ext_getElem (by simp) fun j h1 h2 => ?_
  simp only [List.getElem_map, List.getElem_range]
  exact hX j h2
theorem rd_lines {s : ByteArray} (h : rdE s = 0) : rdW s = (List.range (neN (lns s))).map (xT (lns s)) ∧ ∀ j ∈ List.range (neN (lns s)), okT (lns s) j = true := by
  cases hf : (List.range (neN (lns s))).find? (fun j => !okT (lns s) j) with
  | some j =>
    unfold rdE rd at h
    rw [hf] at h
    cases h
  | none =>
    have hok : ∀ j ∈ List.range (neN (lns s)), okT (lns s) j = true := fun j hj => by
      have := List.find?_eq_none.1 hf j hj
      simpa using this
    exact ⟨(rd_ok hok).1, hok⟩
theorem txt_ne {T : List ByteArray} {j : Nat} (hj : j < neN T) : emB (txtT T j) = false := by
  unfold neN at hj
  unfold txtT plcT
  rw [List.getD_eq_getElem?_getD (l := neK T T.length), List.getElem?_eq_getElem hj]
  have hm := List.getElem_mem hj
  unfold neK at hm
  have h2 := (List.mem_filter.1 hm).2
  rw [Bool.not_eq_true'] at h2
  exact h2
theorem rd_good {s : ByteArray} (h : rdE s = 0) : ∀ x ∈ rdW s, goodB x = true ∧ (-2147483648 ≤ x.i ∧ x.i < 2147483648) ∧ x.mark.size ≤ s.size ∧ x.to.size ≤ s.size := by
  obtain ⟨e, hok⟩ := rd_lines h
  intro x hx
  rw [e] at hx
  obtain ⟨j, hj, rfl⟩ := List.mem_map.1 hx
  have hjn := List.mem_range.1 hj
  have hk := hok j hj
  have hk : lineT (xT (lns s) j) = txtT (lns s) j := by unfold okT at hk; exact of_decide_eq_true hk
  have h1 := line_em (xT (lns s) j)
  rw [hk, txt_ne hjn] at h1
  have h2 := lkl_sizes (txtT (lns s) j)
  have h3 := txt_size s j
  exact ⟨by simpa using h1.symm, lkl_i _, Nat.le_trans h2.1 h3, Nat.le_trans h2.2 h3⟩
theorem cuts_sum : ∀ (f : Nat) (r : ByteArray), ((cutsF f r).map ByteArray.size).sum ≤ r.size
  | 0, r => Nat.zero_le _
  | f + 1, r => by
    unfold cutsF
    split
    · exact Nat.zero_le _
    · rename_i he
      have h1 := cut_less (r := r) (by simpa using he)
      have h2 := cuts_sum f (c2 r nlB)
      simp only [List.map_cons, List.sum_cons]
      omega
theorem filt_sum (p : Nat → Bool) (g : Nat → Nat) : ∀ l : List Nat, ((l.filter p).map g).sum ≤ (l.map g).sum
  | [] => Nat.le_refl _
  | x :: l => by
    have ih := filt_sum p g l
    rw [List.filter_cons]
    split
    · simp only [List.map_cons, List.sum_cons]; omega
    · simp only [List.map_cons, List.sum_cons]; omega
theorem sum_two (g h : Nat → Nat) : ∀ l : List Nat, (∀ j ∈ l, g j ≤ 2 * h j) → (l.map g).sum ≤ 2 * (l.map h).sum
  | [], _ => Nat.le_refl _
  | x :: l, hh => by
    have ih := sum_two g h l (fun j hj => hh j (by simp [hj]))
    have := hh x (by simp)
    simp only [List.map_cons, List.sum_cons]; omega
theorem txL_len (l : List Ln) : (txL l).length = (l.map fun x => (lineT x).size + 1).sum := by
  induction l with
  | nil => rfl
  | cons x l ih =>
    have e : txL (x :: l) = (bl (lineT x) ++ [10]) ++ txL l := by simp [txL]
    rw [e, List.length_append, ih, List.length_append, bl_len]
    simp
theorem rd_len {s : ByteArray} (h : rdE s = 0) : (txL (rdW s)).length ≤ 2 * s.size ∧ (rdW s).length ≤ s.size := by
  obtain ⟨e, hok⟩ := rd_lines h
  refine ⟨?_, by rw [e, List.length_map, List.length_range]; exact neN_le s⟩
  have e1 : (List.range (neN (lns s))).map (plcT (lns s)) = neK (lns s) (lns s).length := by
    refine List.ext_getElem (by simp [neN]) fun j h1 h2 => ?_
    simp only [List.getElem_map, List.getElem_range]
    unfold plcT
    rw [List.getD_eq_getElem?_getD, List.getElem?_eq_getElem h2]
    rfl
  have e2 : (List.range (lns s).length).map (fun k => ((lns s).getD k ⟨#[]⟩).size) = (lns s).map ByteArray.size := by
    refine List.ext_getElem (by simp) fun j h1 h2 => ?_
    simp only [List.getElem_map, List.getElem_range]
    rw [List.getD_eq_getElem?_getD, List.getElem?_eq_getElem (by simpa using h2)]
    rfl
  have h1 := filt_sum (fun i => !emB ((lns s).getD i ⟨#[]⟩)) (fun k => ((lns s).getD k ⟨#[]⟩).size) (List.range (lns s).length)
  rw [e2] at h1
  have h2 : ((neK (lns s) (lns s).length).map fun k => ((lns s).getD k ⟨#[]⟩).size).sum ≤ s.size := Nat.le_trans h1 (cuts_sum _ _)
  rw [← e1, List.map_map] at h2
  rw [txL_len, e, List.map_map]
  have h3 := sum_two ((fun x => (lineT x).size + 1) ∘ xT (lns s)) ((fun k => ((lns s).getD k ⟨#[]⟩).size) ∘ plcT (lns s)) (List.range (neN (lns s))) (fun j hj => by
    have hk := hok j hj
    have hk : lineT (xT (lns s) j) = txtT (lns s) j := by unfold okT at hk; exact of_decide_eq_true hk
    have hne := txt_ne (List.mem_range.1 hj)
    show (lineT (xT (lns s) j)).size + 1 ≤ 2 * (txtT (lns s) j).size
    rw [hk]
    unfold emB at hne
    have : (txtT (lns s) j).size ≠ 0 := by simpa using hne
    omega)
  omega
theorem line_size {x : Ln} (hi0 : -2147483648 ≤ x.i) (hi1 : x.i < 2147483648) : (lineT x).size ≤ 130 := by
  unfold lineT
  split
  · rename_i h
    unfold markB at h
    simp only [Bool.and_eq_true] at h
    have := nameB_size h.1.1
    rw [ByteArray.size_append]
    show x.mark.size + 1 ≤ 130
    omega
  · split
    · rename_i h
      obtain ⟨h1, h2, h3⟩ := ins_parts h
      obtain ⟨ha, hb, hc⟩ := fit_64 h2
      split
      · exact Nat.le_trans (txS_size ha hb hc ⟨by omega, by omega⟩) (by omega)
      · rename_i he
        have h4 := nameB_size (h3.resolve_left he).1
        have h5 := stemS_size (op := x.op) ha hb hc
        have h6 := addS_size hi0 hi1
        rw [ByteArray.size_append, ByteArray.size_append, ByteArray.size_append]
        show (stemS x.op x.a x.b x.c).size + 1 + x.to.size + (addS x.i).size ≤ 130
        omega
    · exact Nat.zero_le _
theorem txL_le {l : List Ln} (hi : ∀ x ∈ l, -2147483648 ≤ x.i ∧ x.i < 2147483648) : (txL l).length ≤ 131 * l.length := by
  rw [txL_len]
  induction l with
  | nil => exact Nat.le_refl _
  | cons x l ih =>
    have h1 := hi x (by simp)
    have h2 := line_size h1.1 h1.2
    have h3 := ih (fun y hy => hi y (by simp [hy]))
    simp only [List.map_cons, List.sum_cons, List.length_cons]
    omega
end Go.Proofs.YtnghendglcblkaaGreatDoor
