/-
  PROVED HERE: plain facts on texts and words as lists (no Go text): a label's text is read as it, a text that is read is just its label's; the same of words.
-/
import Derived.Test.YtbmfehkahjeobaaDoorCod20
import Derived.Lib.CutLaws
namespace Go.Proofs.YtbmfehkahjeobaaDoor
open Go.RowKit Go.Shelf
set_option linter.unusedVariables false

theorem index_one (c : UInt8) : ∀ s : List UInt8, (∃ a b, s = a ++ c :: b ∧ c ∉ a ∧ Lib.index s [c] = a.length) ∨ (c ∉ s ∧ Lib.index s [c] = -1) := by
  intro s
  induction s with
  | nil => exact .inr ⟨by simp, rfl⟩
  | cons x l ih =>
    by_cases hx : c = x
    · subst hx
      exact .inl ⟨[], l, rfl, by simp, by simp [Lib.index]⟩
    · have hp : ([c].isPrefixOf (x :: l)) = false := by simp [List.isPrefixOf, hx]
      rcases ih with ⟨a, b, rfl, ha, hi⟩ | ⟨hn, hi⟩
      · refine .inl ⟨x :: a, b, rfl, by simp [hx, ha], ?_⟩
        simp only [Lib.index, hp, Bool.false_eq_true, if_false, hi]
        have : ((a.length : Int) == -1) = false := by rw [beq_eq_false_iff_ne]; omega
        rw [this]
        simp
      · refine .inr ⟨by simp [hx, hn], ?_⟩
        simp only [Lib.index, hp, Bool.false_eq_true, if_false, hi]
        rfl
theorem app_one {c : UInt8} : ∀ {a a' b b' : List UInt8}, c ∉ a → c ∉ a' → a ++ c :: b = a' ++ c :: b' → a = a' ∧ b = b' := by
  intro a
  induction a with
  | nil =>
    intro a' b b' _ h' e
    cases a' with
    | nil => simpa using e
    | cons x r => simp at e; exact absurd (by simp [e.1]) h'
  | cons x r ih =>
    intro a' b b' h h' e
    cases a' with
    | nil => simp at e; exact absurd (by simp [e.1]) h
    | cons y r' =>
      simp at e h h'
      obtain ⟨h1, h2⟩ := ih h.2 h'.2 e.2
      exact ⟨by rw [e.1, h1], h2⟩
theorem cut_hit {c : UInt8} {a b : List UInt8} (h : c ∉ a) : Lib.cut (a ++ c :: b) [c] = (a, b, true) := by
  rcases index_one c (a ++ c :: b) with ⟨a', b', e, ha', hi⟩ | ⟨hn, _⟩
  · obtain ⟨rfl, rfl⟩ := app_one h ha' e
    unfold Lib.cut
    rw [hi, if_pos (by omega)]
    simp
  · simp at hn
theorem cut_miss {c : UInt8} {s : List UInt8} (h : c ∉ s) : Lib.cut s [c] = (s, [], false) := by
  rcases index_one c s with ⟨a, b, e, _, _⟩ | ⟨_, hi⟩
  · rw [e] at h; simp at h
  · unfold Lib.cut
    rw [hi, if_neg (by omega)]
theorem cut_back {c : UInt8} {s : List UInt8} : (c ∉ s ∧ Lib.cut s [c] = (s, [], false)) ∨ ∃ a b, s = a ++ c :: b ∧ c ∉ a ∧ Lib.cut s [c] = (a, b, true) := by
  rcases index_one c s with ⟨a, b, rfl, ha, _⟩ | ⟨hn, _⟩
  · exact .inr ⟨a, b, rfl, ha, cut_hit ha⟩
  · exact .inl ⟨hn, cut_miss hn⟩

theorem dec_digits : ∀ (u : Nat) (b : UInt8), b ∈ Lib.decDigits u → 48 ≤ b.toNat ∧ b.toNat ≤ 57 := by
  intro u
  induction u using Nat.strongRecOn with
  | _ u ih =>
    intro b hb
    have hd : ∀ k, k < 10 → (UInt8.ofNat (48 + k)).toNat = 48 + k := fun k hk => by rw [UInt8.toNat_ofNat']; omega
    by_cases h : u < 10
    · rw [Lib.decDigits_one h] at hb
      rw [List.mem_singleton] at hb
      rw [hb, hd u h]; omega
    · rw [Lib.decDigits, dif_neg h] at hb
      rw [List.mem_append, List.mem_singleton] at hb
      rcases hb with hb | hb
      · exact ih (u / 10) (by omega) b hb
      · rw [hb, hd (u % 10) (by omega)]; omega
theorem parse_dec : ∀ (u : Nat) (r : List UInt8), u < 18446744073709551616 → Lib.parseUintM (2 ^ 64 - 1) 0 (Lib.decDigits u ++ r) = Lib.parseUintM (2 ^ 64 - 1) u r := by
  intro u
  induction u using Nat.strongRecOn with
  | _ u ih =>
    intro r hu
    have hd : ∀ k, k < 10 → (UInt8.ofNat (48 + k)).toNat = 48 + k := fun k hk => by rw [UInt8.toNat_ofNat']; omega
    by_cases h : u < 10
    · rw [Lib.decDigits_one h]
      simp only [List.singleton_append, Lib.parseUintM, hd u h]
      rw [if_pos (by omega), if_neg (by omega), if_neg (by omega)]
      congr 1
      omega
    · rw [Lib.decDigits, dif_neg h, List.append_assoc, ih (u / 10) (by omega) _ (by omega)]
      simp only [List.singleton_append, Lib.parseUintM, hd (u % 10) (by omega)]
      rw [if_pos (by omega), if_neg (by omega), if_neg (by omega)]
      congr 1
      omega
theorem dec_ne (u : Nat) : Lib.decDigits u ≠ [] := by
  intro e
  have h := Lib.decDigits_length u
  rw [e] at h
  have := Lib.nDigits_pos u
  simp at h
  omega
theorem numOf_dec (u : Nat) (h : u < 18446744073709551616) : numOf (dec u) = some u := by
  have hp : Lib.parseUintB 64 (dec u).data.toList = .ok u := by
    show Lib.parseUintB 64 (Lib.decDigits u) = .ok u
    unfold Lib.parseUintB
    rw [if_neg (dec_ne u)]
    have := parse_dec u [] h
    rw [List.append_nil] at this
    rw [this]
    rfl
  unfold numOf
  rw [hp]
  simp
theorem numOf_back {s : ByteArray} {u : Nat} (h : numOf s = some u) : dec u = s ∧ u < 18446744073709551616 := by
  obtain ⟨h1, h2⟩ := numOf_some h
  refine ⟨?_, num_lt h1⟩
  have h3 : (dec u).toList = s.toList := by simpa using h2
  rw [ByteArray.toList_eq, ByteArray.toList_eq] at h3
  cases s
  cases hd : dec u
  rw [hd] at h3
  simp at h3
  simp [h3]

theorem ba_ext {a b : ByteArray} (h : a.data.toList = b.data.toList) : a = b := by rw [ByteArray.ext_iff]; simpa using h
theorem mk_list (l : List UInt8) : (ByteArray.mk l.toArray).data.toList = l := by simp
theorem app_list (a b : ByteArray) : (a ++ b).data.toList = a.data.toList ++ b.data.toList := by simp [ByteArray.data_append]
theorem item_list (p : Int × Int) : (itemT p).data.toList = Lib.decDigits p.1.toNat ++ 58 :: (Lv.txt p.2).data.toList := by
  unfold itemT
  rw [app_list, app_list]
  simp [dec, colonB]
theorem txt_signs (n : Int) : 44 ∉ (Lv.txt n).data.toList ∧ (Lv.txt n).data.toList ≠ [45] := by unfold Lv.txt; (repeat' split) <;> decide
theorem dec_no (u : Nat) (c : UInt8) (h : c.toNat < 48 ∨ 57 < c.toNat) : c ∉ Lib.decDigits u := fun hc => by have := dec_digits u c hc; omega
theorem item_comma (p : Int × Int) : 44 ∉ (itemT p).data.toList := by
  rw [item_list]
  intro h
  simp only [List.mem_append, List.mem_cons] at h
  rcases h with h | h | h
  · exact dec_no _ 44 (.inl (by decide)) h
  · cases h
  · exact (txt_signs p.2).1 h
theorem cuts_hit {s a b sep : ByteArray} {c : UInt8} (hsep : sep.data.toList = [c]) (h : s.data.toList = a.data.toList ++ c :: b.data.toList) (hc : c ∉ a.data.toList) : cut1 s sep = a ∧ cut2 s sep = b ∧ cutF s sep = true := by
  have hk := cut_hit (b := b.data.toList) hc
  unfold cut1 cut2 cutF
  rw [hsep, h, hk]
  exact ⟨ba_ext (mk_list _), ba_ext (mk_list _), rfl⟩
theorem cuts_miss {s sep : ByteArray} {c : UInt8} (hsep : sep.data.toList = [c]) (hc : c ∉ s.data.toList) : cut1 s sep = s ∧ cutF s sep = false := by
  unfold cut1 cutF
  rw [hsep, cut_miss hc]
  exact ⟨ba_ext (mk_list _), rfl⟩
theorem cuts_back {s sep : ByteArray} {c : UInt8} (hsep : sep.data.toList = [c]) : (cutF s sep = true → s.data.toList = (cut1 s sep).data.toList ++ c :: (cut2 s sep).data.toList) ∧ (cutF s sep = false → cut1 s sep = s) := by
  unfold cut1 cut2 cutF
  rw [hsep]
  rcases cut_back (c := c) (s := s.data.toList) with ⟨_, e⟩ | ⟨a, b, h, _, e⟩
  · rw [e]
    exact ⟨fun h => (by cases h), fun _ => ba_ext (mk_list _)⟩
  · rw [e]
    exact ⟨fun _ => (by rw [mk_list, mk_list]; exact h), fun h => (by cases h)⟩

theorem rd_txt {l : Int} (h0 : 0 ≤ l) (h5 : l ≤ 5) : Lv.rdE (Lv.txt l) = 0 ∧ Lv.rdN (Lv.txt l) = l := by
  have : l = 0 ∨ l = 1 ∨ l = 2 ∨ l = 3 ∨ l = 4 ∨ l = 5 := by omega
  rcases this with rfl | rfl | rfl | rfl | rfl | rfl <;> exact ⟨by kernel_rfl, by kernel_rfl⟩
theorem txt_rd {g : ByteArray} (h : Lv.rdE g = 0) : Lv.txt (Lv.rdN g) = g ∧ 0 ≤ Lv.rdN g ∧ Lv.rdN g ≤ 5 := by
  unfold Lv.rdE at h
  split at h
  · rename_i h6
    unfold Lv.rdN
    rw [if_pos h6]
    refine ⟨?_, by omega, by omega⟩
    revert h6
    unfold Lv.at_
    intro h6
    by_cases e0 : Lv.txt 0 = g
    · simp [e0]
    · by_cases e1 : Lv.txt 1 = g
      · simp [e0, e1]
      · by_cases e2 : Lv.txt 2 = g
        · simp [e0, e1, e2]
        · by_cases e3 : Lv.txt 3 = g
          · simp [e0, e1, e2, e3]
          · by_cases e4 : Lv.txt 4 = g
            · simp [e0, e1, e2, e3, e4]
            · by_cases e5 : Lv.txt 5 = g
              · simp [e0, e1, e2, e3, e4, e5]
              · simp [e0, e1, e2, e3, e4, e5] at h6
  · cases h

/-- A pair's own text is read as it. -/
theorem pairI_item {p : Int × Int} (h0 : 0 ≤ p.1) (h1 : p.1 < 18446744073709551616) (hl : 0 ≤ p.2) (h5 : p.2 ≤ 5) : pairI (itemT p) = some p := by
  obtain ⟨e1, e2, e3⟩ := cuts_hit (s := itemT p) (a := dec p.1.toNat) (b := Lv.txt p.2) (sep := colonB) (c := 58) rfl (by rw [item_list]; simp [dec]) (by show (58 : UInt8) ∉ (dec p.1.toNat).data.toList; rw [dec, mk_list]; exact dec_no _ 58 (.inr (by decide)))
  obtain ⟨r1, r2⟩ := rd_txt hl h5
  unfold pairI pairOf
  rw [e1, e2, e3, r1, r2, numOf_dec _ (by omega)]
  simp
  exact Prod.ext (Int.max_eq_left h0) rfl
/-- A text that is read as a pair is that pair's own. -/
theorem pairI_back {x : ByteArray} {p : Int × Int} (h : pairI x = some p) : itemT p = x ∧ (0 ≤ p.1 ∧ p.1 < 18446744073709551616) ∧ 0 ≤ p.2 ∧ p.2 ≤ 5 := by
  unfold pairI pairOf at h
  split at h
  · rename_i hh
    obtain ⟨hf, he⟩ := hh
    cases hn : numOf (cut1 x colonB) with
    | none => rw [hn] at h; cases h
    | some u =>
      rw [hn] at h
      simp only [Option.map_some, Option.some.injEq] at h
      subst h
      obtain ⟨hd, hu⟩ := numOf_back hn
      obtain ⟨ht, h0, h5⟩ := txt_rd he
      refine ⟨ba_ext ?_, ⟨by show (0 : Int) ≤ u; omega, by show (u : Int) < _; omega⟩, h0, h5⟩
      rw [item_list]
      have hx := (cuts_back (s := x) (sep := colonB) (c := 58) rfl).1 hf
      rw [hx]
      show Lib.decDigits (Int.toNat u) ++ 58 :: (Lv.txt (Lv.rdN (cut2 x colonB))).data.toList = _
      rw [ht, ← hd, Int.toNat_natCast, dec, mk_list]
  · cases h

theorem split_hit {s a r : ByteArray} (h : s.data.toList = a.data.toList ++ 44 :: r.data.toList) (hc : 44 ∉ a.data.toList) : split s = a :: split r := by
  obtain ⟨e1, e2, e3⟩ := cuts_hit (sep := commaB) (c := 44) rfl h hc
  rw [split_eq, e1, e2, e3]
  rfl
theorem split_one {s : ByteArray} (hc : 44 ∉ s.data.toList) : split s = [s] := by
  obtain ⟨e1, e2⟩ := cuts_miss (sep := commaB) (c := 44) rfl hc
  rw [split_eq, e1, e2]
  rfl
def joinT (L : List (Int × Int)) : List UInt8 := Lib.join ((L.map itemT).map (·.data.toList)) [44]
theorem joinT_one (p : Int × Int) : joinT [p] = (itemT p).data.toList := Lib.join_one _ _
theorem joinT_cons (p q : Int × Int) (r : List (Int × Int)) : joinT (p :: q :: r) = (itemT p).data.toList ++ 44 :: joinT (q :: r) := by
  unfold joinT
  simp only [List.map_cons]
  rw [Lib.join_cons, Lib.join_cons]
  simp [Lib.joinTail]
theorem joined_list (L : List (Int × Int)) : (joined L).data.toList = joinT L := mk_list _
theorem split_joined : ∀ (L : List (Int × Int)), L ≠ [] → split (joined L) = L.map itemT := by
  intro L
  induction L with
  | nil => intro h; exact absurd rfl h
  | cons p r ih =>
    intro _
    cases r with
    | nil =>
      have h : joined [p] = itemT p := ba_ext (by rw [joined_list, joinT_one])
      rw [h, split_one (item_comma p)]
      rfl
    | cons q r =>
      rw [split_hit (a := itemT p) (r := joined (q :: r)) (by rw [joined_list, joined_list, joinT_cons]) (item_comma p), ih (by simp)]
      rfl
theorem join_split : ∀ (k : Nat) (s : ByteArray), s.size ≤ k → Lib.join ((split s).map (·.data.toList)) [44] = s.data.toList := by
  intro k
  induction k with
  | zero =>
    intro s hs
    have he : s.data.toList = [] := List.eq_nil_of_length_eq_zero (by rw [size_list]; omega)
    rw [split_one (by rw [he]; simp)]
    exact Lib.join_one _ _
  | succ k ih =>
    intro s hs
    have hb := cuts_back (s := s) (sep := commaB) (c := 44) rfl
    rw [split_eq]
    cases hf : cutF s commaB with
    | false =>
      rw [hb.2 hf]
      exact Lib.join_one _ _
    | true =>
      have hx := hb.1 hf
      have hl := cut2_less hf (by decide)
      have h2 := ih (cut2 s commaB) (by omega)
      rw [show tailOf true (cut2 s commaB) = split (cut2 s commaB) from rfl]
      rw [split_eq] at h2 ⊢
      simp only [List.map_cons] at h2 ⊢
      rw [Lib.join_cons] at h2 ⊢
      rw [hx, ← h2]
      simp [Lib.joinTail]

theorem prs_map {L : List (Int × Int)} (h : ∀ p ∈ L, pairI (itemT p) = some p) : prs (L.map itemT) = some L := by
  unfold prs
  induction L with
  | nil => rfl
  | cons p r ih =>
    rw [List.map_cons, List.mapM_cons, h p (List.mem_cons_self ..), ih (fun q hq => h q (List.mem_cons_of_mem _ hq))]
    rfl
theorem prs_back : ∀ {ps : List ByteArray} {L : List (Int × Int)}, prs ps = some L → L.map itemT = ps ∧ ∀ p ∈ L, (0 ≤ p.1 ∧ p.1 < 18446744073709551616) ∧ 0 ≤ p.2 ∧ p.2 ≤ 5 := by
  intro ps
  induction ps with
  | nil => intro L h; cases h; exact ⟨rfl, fun p hp => by cases hp⟩
  | cons x r ih =>
    intro L h
    unfold prs at h
    rw [List.mapM_cons] at h
    cases hx : pairI x with
    | none => rw [hx] at h; cases h
    | some p =>
      cases hr : List.mapM pairI r with
      | none => rw [hx, hr] at h; cases h
      | some M =>
        rw [hx, hr] at h
        cases h
        obtain ⟨h1, h2⟩ := ih hr
        obtain ⟨i1, i2, i3⟩ := pairI_back hx
        exact ⟨by rw [List.map_cons, i1, h1], fun q hq => (by rcases List.mem_cons.1 hq with rfl | hq; exact ⟨i2, i3⟩; exact h2 q hq)⟩

theorem joinT_dash {L : List (Int × Int)} (h : L ≠ []) : joinT L ≠ [45] := by
  have hd : ∀ p : Int × Int, ∀ t, (itemT p).data.toList ++ t ≠ [45] := by
    intro p t e
    rw [item_list] at e
    have hm : (58 : UInt8) ∈ ([45] : List UInt8) := by rw [← e]; simp
    revert hm; decide
  match L, h with
  | [p], _ => rw [joinT_one]; intro e; exact hd p [] (by rw [List.append_nil]; exact e)
  | p :: q :: r, _ => rw [joinT_cons]; exact hd p _
theorem readT_dash : readT ⟨#[45]⟩ = some [] := by kernel_rfl
/-- A label's text is read as it. -/
theorem readT_text {L : List (Int × Int)} (hf : fitB L = true) (hU : U64p L) : readT (textOf L) = some L := by
  have hk : ∀ p ∈ L, pairI (itemT p) = some p := by
    intro p hp
    obtain ⟨i, hi, rfl⟩ := List.getElem_of_mem hp
    have hu := hU i
    rw [List.getD_eq_getElem?_getD, List.getElem?_eq_getElem hi] at hu
    have hl := (fit_iff hf).2 L[i] (List.getElem_mem _)
    exact pairI_item hu.1 hu.2 hl.1 hl.2.1
  unfold textOf
  rw [hf, if_pos rfl]
  by_cases h0 : L.length = 0
  · rw [if_pos h0]
    have : L = [] := List.eq_nil_of_length_eq_zero h0
    subst this
    exact readT_dash
  · rw [if_neg h0]
    have hne : L ≠ [] := fun e => h0 (by rw [e]; rfl)
    unfold readT partsOf
    have hd : ((joined L).toList == [45]) = false := by
      rw [beq_eq_false_iff_ne, ByteArray.toList_eq, joined_list]
      exact joinT_dash hne
    rw [hd]
    show prs (split (joined L)) = _
    rw [split_joined L hne]
    exact prs_map hk
/-- A text that is read is just the label's. -/
theorem text_readT {s : ByteArray} {L : List (Int × Int)} (h : readT s = some L) (hf : fitB L = true) : textOf L = s := by
  obtain ⟨h1, _⟩ := prs_back h
  unfold textOf
  rw [hf, if_pos rfl]
  cases hd : (s.toList == [45]) with
  | true =>
    have hs : s = ⟨#[45]⟩ := by
      refine ba_ext ?_
      rw [← ByteArray.toList_eq]
      simpa using hd
    have hp : partsOf s = [] := by unfold partsOf; rw [hd]; rfl
    rw [hp] at h1
    have : L.length = 0 := by have := congrArg List.length h1; simpa using this
    rw [if_pos this, hs]
  | false =>
    have hp : partsOf s = split s := by unfold partsOf; rw [hd]; rfl
    rw [hp] at h1
    have hne : L.length ≠ 0 := by
      intro e
      rw [split_eq] at h1
      have := congrArg List.length h1
      simp [e] at this
    rw [if_neg hne]
    refine ba_ext ?_
    rw [joined_list, joinT, h1]
    exact join_split s.size s (Nat.le_refl _)
theorem u64_readT {s : ByteArray} {L : List (Int × Int)} (h : readT s = some L) : U64p L := by
  obtain ⟨_, h2⟩ := prs_back h
  intro k
  by_cases hk : k < L.length
  · rw [List.getD_eq_getElem?_getD, List.getElem?_eq_getElem hk]
    exact (h2 _ (List.getElem_mem _)).1
  · rw [List.getD_eq_getElem?_getD, List.getElem?_eq_none (by omega)]
    simp
end Go.Proofs.YtbmfehkahjeobaaDoor
