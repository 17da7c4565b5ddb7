/-
  PROVED HERE: the text of a line is read as that line. Lines that are such, with a number of 32 bits.
-/
import Derived.Test.YtagljcgfmdahhaaGreatDoorAsm16
namespace Go.Proofs.YtagljcgfmdahhaaGreatDoor
open Go.RowKit Go.Shelf
set_option linter.unusedVariables false
open Asm

theorem dec_dig (u : Nat) : ∀ c ∈ Lib.decDigits u, c.toNat ≤ 57 := by
  induction u using Nat.strongRecOn with
  | _ u ih =>
    by_cases h : u < 10
    · rw [Lib.decDigits_one h]; intro c hc; simp only [List.mem_singleton] at hc; rw [hc, dig_toNat h]; omega
    · rw [Lib.decDigits, dif_neg h]
      intro c hc
      simp only [List.mem_append, List.mem_singleton] at hc
      rcases hc with hc | hc
      · exact ih _ (by omega) c hc
      · rw [hc, dig_toNat (by omega)]; omega
theorem dec_ne (u : Nat) : Lib.decDigits u ≠ [] := by
  by_cases h : u < 10
  · rw [Lib.decDigits_one h]; simp
  · rw [Lib.decDigits, dif_neg h]; simp
def valF (n : Nat) (l : List UInt8) : Nat := l.foldl (fun n c => n * 10 + (c.toNat - 48)) n
theorem valF_le : ∀ (l : List UInt8) (n : Nat), n ≤ valF n l
  | [], n => Nat.le_refl _
  | c :: l, n => by have := valF_le l (n * 10 + (c.toNat - 48)); show n ≤ valF (n * 10 + (c.toNat - 48)) l; omega
theorem parseM {M : Nat} (hM : M < 1844674407370955162) : ∀ (l : List UInt8) (n : Nat), (∀ c ∈ l, 48 ≤ c.toNat ∧ c.toNat ≤ 57) → valF n l ≤ M → n ≤ M → Lib.parseUintM M n l = .ok (valF n l)
  | [], n, _, _, _ => rfl
  | c :: l, n, h, hv, hn => by
    have hc := h c (by simp)
    have h1 := valF_le l (n * 10 + (c.toNat - 48))
    have hv' : valF (n * 10 + (c.toNat - 48)) l ≤ M := hv
    unfold Lib.parseUintM
    rw [if_pos hc, if_neg (by omega), if_neg (by omega)]
    exact parseM hM l _ (fun d hd => h d (by simp [hd])) hv' (by omega)
theorem parse_dec {u : Nat} (hu : u ≤ 4294967295) : Lib.parseUintB 32 (Lib.decDigits u) = .ok u := by
  have hd := dec_facts u
  have h := parseM (M := 2 ^ 32 - 1) (by decide) (Lib.decDigits u) 0 (fun c hc => ⟨hd.2 c hc, dec_dig u c hc⟩) (by show valD _ ≤ _; rw [hd.1]; exact hu) (by decide)
  unfold Lib.parseUintB
  rw [if_neg (dec_ne u), h]
  show Lib.NumEnd.ok (valD _) = _
  rw [hd.1]
theorem numI_itoa {i : Int} (h0 : -2147483648 ≤ i) (h1 : i < 2147483648) : numI (Lib.itoa i) = i := by
  rcases itoa_cases i with ⟨u, e, h⟩ | ⟨u, hu, e, h⟩ <;> rw [h]
  · have hp := parse_dec (u := u) (by omega)
    have hb : ∀ c ∈ Lib.decDigits u, 48 ≤ c.toNat := (dec_facts u).2
    cases hl : Lib.decDigits u with
    | nil => exact absurd hl (dec_ne u)
    | cons c r =>
      rw [hl] at hp hb
      have hc := hb c (by simp)
      have e1 : Lib.parseIntB 32 (c :: r) = .ok (u : Int) := by
        unfold Lib.parseIntB
        have n1 : ¬ c.toNat = 43 := by omega
        have n2 : ¬ c.toNat = 45 := by omega
        have n3 : ¬ (2 ^ (32 - 1) ≤ u) := by simp; omega
        simp only [n1, n2, n3, or_self, if_false, hp, not_false_eq_true, true_and, false_and]
      unfold numI
      rw [e1, e]
  · have hp := parse_dec (u := u) (by omega)
    have e1 : Lib.parseIntB 32 (45 :: Lib.decDigits u) = .ok (-(u : Int)) := by
      unfold Lib.parseIntB
      have n2 : (45 : UInt8).toNat = 45 := rfl
      have n3 : ¬ (2 ^ (32 - 1) < u) := by simp; omega
      simp only [n2, n3, or_true, if_true, hp, not_true_eq_false, true_and, false_and, if_false]
    unfold numI
    rw [e1, e]
theorem atoI_itoa {a : Int} (h0 : 0 ≤ a) (h1 : a < 16) : atoI (Lib.itoa a) = a := by
  obtain ⟨k, rfl⟩ := Int.eq_ofNat_of_zero_le h0
  have key : ∀ k : Fin 16, atoI (Lib.itoa (k.val : Int)) = (k.val : Int) := by decide +kernel
  exact key ⟨k, by omega⟩
theorem itoa_bytes (v : Int) : ∀ c ∈ Lib.itoa v, c.toNat = 45 ∨ 48 ≤ c.toNat ∧ c.toNat ≤ 57 := by
  intro c hc
  rcases itoa_cases v with ⟨u, _, h⟩ | ⟨u, _, _, h⟩ <;> rw [h] at hc
  · exact .inr ⟨(dec_facts u).2 c hc, dec_dig u c hc⟩
  · rcases List.mem_cons.1 hc with h1 | h1
    · exact .inl (by rw [h1]; rfl)
    · exact .inr ⟨(dec_facts u).2 c h1, dec_dig u c h1⟩
theorem itoa_ne (v : Int) : Lib.itoa v ≠ [] := by
  rcases itoa_cases v with ⟨u, _, h⟩ | ⟨u, _, _, h⟩ <;> rw [h]
  · exact dec_ne u
  · simp
theorem trimS_hit (y s : List UInt8) : Lib.trimSuffix (y ++ s) s = y := by
  unfold Lib.trimSuffix
  rw [if_pos (by unfold Lib.hasSuffix; exact List.isSuffixOf_iff_suffix.2 ⟨y, rfl⟩)]
  simp
theorem trimP_hit (p y : List UInt8) : Lib.trimPrefix (p ++ y) p = y := by
  unfold Lib.trimPrefix
  rw [if_pos (by unfold Lib.hasPrefix; exact List.isPrefixOf_iff_prefix.2 ⟨y, rfl⟩)]
  simp
/-- A part's text. -/
def pOf (x : Ln) (l : UInt8) : List UInt8 := if l = 105 then (if emB x.to then Lib.itoa x.i else 64 :: (bl x.to ++ bl (addS x.i))) else 114 :: Lib.itoa (prt x.a x.b x.c x.i (l.toNat : Int))
def joinP (ps : List (List UInt8)) : List UInt8 := ps.flatMap fun p => 32 :: p
theorem split_join : ∀ (ps : List (List UInt8)) (nm : List UInt8) (k : Nat), (∀ c ∈ nm, c ≠ 32) → (∀ p ∈ ps, ∀ c ∈ p, c ≠ 32) → ps.length ≤ k → Lib.splitK [32] 0 k (nm ++ joinP ps) = nm :: ps
  | [], nm, k, hn, _, _ => by
    show Lib.splitK [32] 0 k (nm ++ []) = [nm]
    rw [List.append_nil]
    cases k with
    | zero => rfl
    | succ k => unfold Lib.splitK; rw [index_miss hn]; rfl
  | p :: ps, nm, 0, _, _, hk => by simp at hk
  | p :: ps, nm, k + 1, hn, hp, hk => by
    have e : nm ++ joinP (p :: ps) = nm ++ 32 :: (p ++ joinP ps) := by simp [joinP]
    have ih := split_join ps p k (hp p (by simp)) (fun q hq => hp q (by simp [hq])) (by simpa using hk)
    rw [e]
    unfold Lib.splitK
    rw [index_hit hn, if_neg (by simp)]
    simp only [Int.toNat_natCast, Nat.add_zero, List.length_cons, List.length_nil, Nat.zero_add]
    rw [List.take_left, show nm.length + 1 = (nm ++ [32]).length by simp, show nm ++ 32 :: (p ++ joinP ps) = (nm ++ [32]) ++ (p ++ joinP ps) by simp, List.drop_left, ih]
theorem join_len : ∀ ps : List (List UInt8), ps.length ≤ (joinP ps).length
  | [] => Nat.le_refl _
  | p :: ps => by have := join_len ps; simp only [joinP, List.flatMap_cons, List.length_cons, List.length_append] at this ⊢; omega
theorem spl_join {s nm : ByteArray} {ps : List (List UInt8)} (e : bl s = bl nm ++ joinP ps) (hn : ∀ c ∈ bl nm, c ≠ 32) (hp : ∀ p ∈ ps, ∀ c ∈ p, c ≠ 32) (hl : ps.length ≤ 3) : spl s = nm :: ps.map sb := by
  have h1 := Lib.splitB_data ⟨#[32]⟩ 0 (min 4 (s.size + 1) - 1) s
  have h2 : Lib.splitK [32] 0 (min 4 (s.size + 1) - 1) (bl s) = bl nm :: ps := by
    rw [e]
    refine split_join ps _ _ hn hp ?_
    have := join_len ps
    have h3 := congrArg List.length e
    rw [bl_len, List.length_append] at h3
    omega
  have h3 : (spl s).map bl = bl nm :: ps := h1.trans h2
  have h4 := congrArg (List.map sb) h3
  rw [List.map_map, List.map_cons, sb_bl] at h4
  have h5 : (sb ∘ bl) = id := funext fun t => sb_bl t
  rw [h5, List.map_id] at h4
  exact h4
theorem name_bytes {s : ByteArray} (h : nameB s = true) : ∀ c ∈ bl s, ldB c = true := by
  intro c hc
  unfold nameB at h
  cases hl : s.data.toList with
  | nil => rw [hl] at h; cases h
  | cons d l =>
    rw [hl, nameL_cons] at h
    simp only [Bool.and_eq_true] at h
    have hc' : c ∈ d :: l := by rw [← hl]; exact hc
    exact List.all_eq_true.1 h.2 c hc'
theorem ld_not {c : UInt8} (h : ldB c = true) : c ≠ 58 ∧ c ≠ 10 ∧ c ≠ 32 ∧ c ≠ 43 := by
  refine ⟨?_, ?_, ?_, ?_⟩ <;> (rintro rfl; revert h; decide)
theorem nm_bytes : ∀ k : Fin 26, (∀ c ∈ bl (nmS (k.val : Int)), c ≠ 58 ∧ c ≠ 10 ∧ c ≠ 32) ∧ bl (nmS (k.val : Int)) ≠ [] := by decide +kernel
theorem itoa_not (v : Int) : ∀ c ∈ Lib.itoa v, c ≠ 58 ∧ c ≠ 10 ∧ c ≠ 32 ∧ c ≠ 64 ∧ c ≠ 43 := by
  intro c hc
  have := itoa_bytes v c hc
  refine ⟨?_, ?_, ?_, ?_, ?_⟩ <;> (rintro rfl; revert this; decide)
theorem ins_parts {x : Ln} (h : insB x = true) : emB x.mark = true ∧ Ins.fitB x.op x.a x.b x.c x.i = true ∧ (emB x.to = true ∨ nameB x.to = true ∧ goB x.op x.i = true) := by
  unfold insB at h
  simp only [Bool.and_eq_true, Bool.or_eq_true] at h
  exact ⟨h.1.1, h.1.2, h.2⟩
theorem em_nomark {x : Ln} (h : emB x.mark = true) : markB x = false := by
  have e := (emB_iff x.mark).1 h
  unfold markB
  rw [e]
  rfl
theorem pOf_not {x : Ln} (h : insB x = true) (l : UInt8) : ∀ c ∈ pOf x l, c ≠ 58 ∧ c ≠ 10 ∧ c ≠ 32 := by
  obtain ⟨_, _, h3⟩ := ins_parts h
  intro c hc
  unfold pOf at hc
  split at hc
  · split at hc
    · have := itoa_not _ c hc; exact ⟨this.1, this.2.1, this.2.2.1⟩
    · rename_i he
      rcases List.mem_cons.1 hc with rfl | hc
      · decide
      · rcases List.mem_append.1 hc with hc | hc
        · rcases h3 with h3 | h3
          · exact absurd h3 he
          · have := ld_not (name_bytes h3.1 c hc); exact ⟨this.1, this.2.1, this.2.2.1⟩
        · unfold addS at hc
          split at hc
          · cases hc
          · rw [bl_app] at hc
            rcases List.mem_append.1 hc with hc | hc
            · rw [List.mem_singleton.1 hc]; decide
            · have := itoa_not _ c hc; exact ⟨this.1, this.2.1, this.2.2.1⟩
  · rcases List.mem_cons.1 hc with rfl | hc
    · decide
    · have := itoa_not _ c hc; exact ⟨this.1, this.2.1, this.2.2.1⟩
end Go.Proofs.YtagljcgfmdahhaaGreatDoor
