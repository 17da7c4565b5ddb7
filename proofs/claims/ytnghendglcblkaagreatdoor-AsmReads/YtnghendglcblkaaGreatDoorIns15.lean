/-
  PROVED HERE: unlike fit instructions have unlike words, and unlike texts (no Go text). No condition.
-/
import Derived.Test.YtnghendglcblkaaGreatDoorIns13
namespace Go.Proofs.YtnghendglcblkaaGreatDoor
open Go.RowKit Go.Shelf
set_option linter.unusedVariables false

def valD (l : List UInt8) : Nat := l.foldl (fun n c => n * 10 + (c.toNat - 48)) 0
theorem valD_snoc (l : List UInt8) (c : UInt8) : valD (l ++ [c]) = valD l * 10 + (c.toNat - 48) := by simp [valD]
theorem dec_facts (u : Nat) : valD (Lib.decDigits u) = u ∧ ∀ c ∈ Lib.decDigits u, 48 ≤ c.toNat := by
  induction u using Nat.strongRecOn with
  | _ u ih =>
    by_cases h : u < 10
    · rw [Lib.decDigits_one h]
      refine ⟨?_, fun c hc => ?_⟩
      · simp only [valD, List.foldl_cons, List.foldl_nil]
        rw [dig_toNat h]
        omega
      · simp only [List.mem_singleton] at hc
        rw [hc, dig_toNat h]
        omega
    · obtain ⟨i1, i2⟩ := ih (u / 10) (by omega)
      rw [Lib.decDigits, dif_neg h]
      refine ⟨?_, fun c hc => ?_⟩
      · rw [valD_snoc, i1, dig_toNat (by omega)]
        omega
      · simp only [List.mem_append, List.mem_singleton] at hc
        rcases hc with hc | hc
        · exact i2 c hc
        · rw [hc, dig_toNat (by omega)]
          omega
theorem dec_inj {u v : Nat} (h : Lib.decDigits u = Lib.decDigits v) : u = v := by
  rw [← (dec_facts u).1, h, (dec_facts v).1]
theorem itoa_cases (v : Int) : (∃ u : Nat, v = (u : Int) ∧ Lib.itoa v = Lib.decDigits u) ∨ (∃ u : Nat, 1 ≤ u ∧ v = -(u : Int) ∧ Lib.itoa v = 45 :: Lib.decDigits u) := by
  by_cases h : 0 ≤ v
  · obtain ⟨u, rfl⟩ := Int.eq_ofNat_of_zero_le h
    exact .inl ⟨u, rfl, Lib.itoa_nonneg u⟩
  · obtain ⟨u, hu⟩ : ∃ u : Nat, v = -(u : Int) := ⟨v.natAbs, by omega⟩
    subst hu
    exact .inr ⟨u, by omega, rfl, Lib.itoa_neg u (by omega)⟩
theorem itoa_no32 (v : Int) : ∀ c ∈ Lib.itoa v, c ≠ 32 := by
  intro c hc e
  subst e
  rcases itoa_cases v with ⟨u, _, h⟩ | ⟨u, _, _, h⟩ <;> rw [h] at hc
  · exact absurd ((dec_facts u).2 _ hc) (by decide)
  · rcases List.mem_cons.1 hc with h1 | h1
    · exact absurd h1 (by decide)
    · exact absurd ((dec_facts u).2 _ h1) (by decide)
theorem itoa_inj {v v' : Int} (h : Lib.itoa v = Lib.itoa v') : v = v' := by
  rcases itoa_cases v with ⟨u, e, h1⟩ | ⟨u, hu, e, h1⟩ <;> rcases itoa_cases v' with ⟨u', e', h2⟩ | ⟨u', hu', e', h2⟩ <;> rw [h1, h2] at h
  · rw [e, e', dec_inj h]
  · exact absurd ((dec_facts u).2 45 (by rw [h]; exact List.mem_cons_self)) (by decide)
  · exact absurd ((dec_facts u').2 45 (by rw [← h]; exact List.mem_cons_self)) (by decide)
  · rw [e, e', dec_inj (List.cons.inj h).2]
theorem cut32 : ∀ {x y r s : List UInt8}, (∀ c ∈ x, c ≠ 32) → (∀ c ∈ y, c ≠ 32) → (∀ c l, r = c :: l → c = 32) → (∀ c l, s = c :: l → c = 32) → x ++ r = y ++ s → x = y ∧ r = s
  | [], [], r, s, _, _, _, _, h => ⟨rfl, by simpa using h⟩
  | [], d :: y, r, s, _, hy, hr, _, h => absurd (hr d (y ++ s) (by simpa using h)) (hy d List.mem_cons_self)
  | c :: x, [], r, s, hx, _, _, hs, h => absurd (hs c (x ++ r) (by simpa using h.symm)) (hx c List.mem_cons_self)
  | c :: x, d :: y, r, s, hx, hy, hr, hs, h => by
    simp only [List.cons_append, List.cons.injEq] at h
    obtain ⟨h1, h2⟩ := cut32 (fun z hz => hx z (List.mem_cons_of_mem _ hz)) (fun z hz => hy z (List.mem_cons_of_mem _ hz)) hr hs h.2
    exact ⟨by rw [h.1, h1], h2⟩
/-- The parts' texts, one behind the other. -/
def partsL (a b c i : Int) : List UInt8 → List UInt8
  | [] => []
  | l :: ls => 32 :: ((tldS (l.toNat : Int) (prt a b c i (l.toNat : Int))).data.toList ++ partsL a b c i ls)
theorem partsL_head (a b c i : Int) (ls : List UInt8) : ∀ x l, partsL a b c i ls = x :: l → x = 32 := by
  intro x l h
  cases ls with
  | nil => cases h
  | cons y ys => exact (List.cons.inj h).1.symm
theorem tld_list (l v : Int) : (tldS l v).data.toList = (if l = 105 then Lib.itoa v else 114 :: Lib.itoa v) := by
  unfold tldS
  split
  · rfl
  · rw [app_list]; rfl
theorem tld_no32 (l v : Int) : ∀ c ∈ (tldS l v).data.toList, c ≠ 32 := by
  intro c hc
  rw [tld_list] at hc
  split at hc
  · exact itoa_no32 v c hc
  · rcases List.mem_cons.1 hc with h | h
    · rw [h]; decide
    · exact itoa_no32 v c h
theorem tld_inj {l v v' : Int} (h : (tldS l v).data.toList = (tldS l v').data.toList) : v = v' := by
  rw [tld_list, tld_list] at h
  split at h
  · exact itoa_inj h
  · exact itoa_inj (List.cons.inj h).2
theorem parts_inj {a b c i a' b' c' i' : Int} : ∀ {ls : List UInt8}, partsL a b c i ls = partsL a' b' c' i' ls → ∀ l ∈ ls, prt a b c i (l.toNat : Int) = prt a' b' c' i' (l.toNat : Int)
  | [], _, l, hl => by cases hl
  | x :: ls, h, l, hl => by
    have h1 := (List.cons.inj h).2
    obtain ⟨e1, e2⟩ := cut32 (tld_no32 _ _) (tld_no32 _ _) (partsL_head _ _ _ _ _) (partsL_head _ _ _ _ _) h1
    rcases List.mem_cons.1 hl with rfl | hl
    · exact tld_inj e1
    · exact parts_inj e2 l hl
theorem txS_list {op a b c i : Int} (hf : Ins.fitB op a b c i = true) : (txS op a b c i).data.toList = (nmS op).data.toList ++ partsL a b c i (Ins.shp op) := by
  unfold txS
  rw [hf, if_pos rfl]
  rcases Ins.shp_cases op with h | h | h | h | h | h | h <;> rw [h]
  all_goals simp [accT, stepT, ltr, partsL, List.range_succ, ByteArray.data_append]
theorem nm_no32 : ∀ k : Fin 26, ∀ c ∈ (nmS (k.val : Int)).data.toList, c ≠ 32 := by decide +kernel
theorem nm_inj : ∀ k l : Fin 26, (nmS (k.val : Int)).data.toList = (nmS (l.val : Int)).data.toList → k = l := by decide +kernel
theorem fit_zero {op a b c i : Int} (h : Ins.fitB op a b c i = true) : (Ins.us op 97 = false → a = 0) ∧ (Ins.us op 98 = false → b = 0) ∧ (Ins.us op 99 = false → c = 0) ∧ (Ins.us op 105 = false → i = 0) := by
  simp only [Ins.fitB, Ins.rg, Bool.and_eq_true, Bool.or_eq_true, beq_iff_eq] at h
  obtain ⟨⟨⟨⟨_, ha⟩, hb⟩, hc⟩, hi⟩ := h
  exact ⟨fun e => ha.elim id (fun k => by rw [e] at k; simp at k), fun e => hb.elim id (fun k => by rw [e] at k; simp at k), fun e => hc.elim id (fun k => by rw [e] at k; simp at k), fun e => hi.elim id (fun k => by rw [e] at k; simp at k)⟩
theorem text_inj {op a b c i op' a' b' c' i' : Int} (hf : Ins.fitB op a b c i = true) (hf' : Ins.fitB op' a' b' c' i' = true) (h : txS op a b c i = txS op' a' b' c' i') : op = op' ∧ a = a' ∧ b = b' ∧ c = c' ∧ i = i' := by
  have h1 := congrArg (fun s => s.data.toList) h
  simp only [txS_list hf, txS_list hf'] at h1
  obtain ⟨o0, o1⟩ := (Ins.fit_bounds hf).1
  obtain ⟨q0, q1⟩ := (Ins.fit_bounds hf').1
  obtain ⟨k, rfl⟩ := Int.eq_ofNat_of_zero_le o0
  obtain ⟨l, rfl⟩ := Int.eq_ofNat_of_zero_le q0
  obtain ⟨e1, e2⟩ := cut32 (nm_no32 ⟨k, by omega⟩) (nm_no32 ⟨l, by omega⟩) (partsL_head _ _ _ _ _) (partsL_head _ _ _ _ _) h1
  have e3 : k = l := Fin.mk.inj (nm_inj ⟨k, by omega⟩ ⟨l, by omega⟩ e1)
  subst e3
  have e4 := parts_inj e2
  obtain ⟨za, zb, zc, zi⟩ := fit_zero hf
  obtain ⟨ya, yb, yc, yi⟩ := fit_zero hf'
  have key : ∀ (x : UInt8) (v v' : Int), (Ins.us (k : Int) x = false → v = 0) → (Ins.us (k : Int) x = false → v' = 0) → (x ∈ Ins.shp (k : Int) → v = v') → v = v' := by
    intro x v v' h1 h2 h3
    cases hu : Ins.us (k : Int) x with
    | false => rw [h1 hu, h2 hu]
    | true => exact h3 (List.contains_iff_mem.1 hu)
  exact ⟨rfl, key 97 a a' za ya (e4 97), key 98 b b' zb yb (e4 98), key 99 c c' zc yc (e4 99), key 105 i i' zi yi (e4 105)⟩
theorem word_inj {op a b c i op' a' b' c' i' : Int} (hf : Ins.fitB op a b c i = true) (hf' : Ins.fitB op' a' b' c' i' = true) (hi0 : -2147483648 ≤ i) (hi1 : i < 2147483648) (hi0' : -2147483648 ≤ i') (hi1' : i' < 2147483648)
    (h : Ins.wordI op a b c i = Ins.wordI op' a' b' c' i') : op = op' ∧ a = a' ∧ b = b' ∧ c = c' ∧ i = i' := by
  unfold Ins.wordI at h
  rw [hf, hf', if_pos rfl, if_pos rfl] at h
  obtain ⟨ho, ha, hb, hc⟩ := Ins.fit_bounds hf
  obtain ⟨ho', ha', hb', hc'⟩ := Ins.fit_bounds hf'
  obtain ⟨e1, e2, e3, e4, e5, _⟩ := Ins.fields_enc ho ha hb hc ⟨hi0, hi1⟩
  obtain ⟨f1, f2, f3, f4, f5, _⟩ := Ins.fields_enc ho' ha' hb' hc' ⟨hi0', hi1'⟩
  rw [h] at e1 e2 e3 e4 e5
  exact ⟨e1.symm.trans f1, e2.symm.trans f2, e3.symm.trans f3, e4.symm.trans f4, e5.symm.trans f5⟩
/-- A fit instruction's word is read as it. -/
theorem dec_word {op a b c i : Int} (hf : Ins.fitB op a b c i = true) (hi0 : -2147483648 ≤ i) (hi1 : i < 2147483648) :
    0 ≤ Ins.wordI op a b c i ∧ Ins.wordI op a b c i < 18446744073709551616 ∧ Ins.decB (Ins.wordI op a b c i) = true ∧ Ins.fOp (Ins.wordI op a b c i) = op ∧ Ins.fA (Ins.wordI op a b c i) = a ∧ Ins.fB (Ins.wordI op a b c i) = b ∧ Ins.fC (Ins.wordI op a b c i) = c ∧ Ins.fI (Ins.wordI op a b c i) = i := by
  obtain ⟨ho, ha, hb, hc⟩ := Ins.fit_bounds hf
  obtain ⟨e1, e2, e3, e4, e5, e6⟩ := Ins.fields_enc ho ha hb hc ⟨hi0, hi1⟩
  have hw : Ins.wordI op a b c i = Ins.encI op a b c i := by unfold Ins.wordI; rw [hf, if_pos rfl]
  rw [hw]
  have hb := Ins.enc_bounds (i := i) ho ha hb hc
  refine ⟨hb.1, hb.2, ?_, e1, e2, e3, e4, e5⟩
  unfold Ins.decB Ins.fitW
  rw [e1, e2, e3, e4, e5, e6, hf]
  rfl
end Go.Proofs.YtnghendglcblkaaGreatDoor
