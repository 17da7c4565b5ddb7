/-
  PROVED HERE: lines as a text are read as they are, and what is read is lines. Lines that are such, with numbers of 32 bits.
-/
import Derived.Test.YtagljcgfmdahhaaGreatDoorAsmQ2
namespace Go.Proofs.YtagljcgfmdahhaaGreatDoor
open Go.RowKit Go.Shelf
set_option linter.unusedVariables false
open Asm

section
variable {x : Ln} {m : ByteArray} {op a b c i : Int} {tt : ByteArray}
theorem wA (h0 : 0 ≤ x.a) (h1 : x.a < 16) : wPart ⟨m, op, a, b, c, i, tt⟩ 97 (sb (pOf x 97)) = ⟨m, op, x.a, b, c, i, tt⟩ := by
  have e : pOf x 97 = 114 :: Lib.itoa x.a := by unfold pOf; rw [if_neg (by decide), n97]; rfl
  unfold wPart
  rw [if_neg (by decide), if_pos rfl, e, reg_read h0 h1]
theorem wB (h0 : 0 ≤ x.b) (h1 : x.b < 16) : wPart ⟨m, op, a, b, c, i, tt⟩ 98 (sb (pOf x 98)) = ⟨m, op, a, x.b, c, i, tt⟩ := by
  have e : pOf x 98 = 114 :: Lib.itoa x.b := by unfold pOf; rw [if_neg (by decide), n98]; rfl
  unfold wPart
  rw [if_neg (by decide), if_neg (by decide), if_pos rfl, e, reg_read h0 h1]
theorem wC (h0 : 0 ≤ x.c) (h1 : x.c < 16) : wPart ⟨m, op, a, b, c, i, tt⟩ 99 (sb (pOf x 99)) = ⟨m, op, a, b, x.c, i, tt⟩ := by
  have e : pOf x 99 = 114 :: Lib.itoa x.c := by unfold pOf; rw [if_neg (by decide), n99]; rfl
  unfold wPart
  rw [if_neg (by decide), if_neg (by decide), if_neg (by decide), if_pos rfl, e, reg_read h0 h1]
theorem wI (h : insB x = true) (h0 : -2147483648 ≤ x.i) (h1 : x.i < 2147483648) : wPart ⟨m, op, a, b, c, i, ⟨#[]⟩⟩ 105 (sb (pOf x 105)) = ⟨m, op, a, b, c, x.i, x.to⟩ := by
  unfold wPart
  rw [if_pos rfl]
  exact num_read h h0 h1 rfl
end
theorem lkl_ins {x : Ln} (h : insB x = true) (hi0 : -2147483648 ≤ x.i) (hi1 : x.i < 2147483648) : lkl (lineT x) = x := by
  obtain ⟨h1, h2, h3⟩ := ins_parts h
  obtain ⟨k, hk, ek⟩ := ins_op h
  have eo : ∀ r, ((opOf (nmS x.op :: r) : Nat) : Int) = x.op := fun r => by
    unfold opOf
    rw [List.getD_cons_zero, ek, ops_at hk]
    rfl
  obtain ⟨_, ⟨a0, a1⟩, ⟨b0, b1⟩, c0, c1⟩ := Ins.fit_bounds h2
  obtain ⟨za, zb, zc, zi⟩ := fit_zero h2
  have hto : Ins.us x.op 105 = false → x.to = ⟨#[]⟩ := fun hu => by
    rcases h3 with h3 | h3
    · exact (emB_iff _).1 h3
    · unfold Ins.us at hu
      rcases go_shape h3.2 with hs | hs <;> rw [hs] at hu <;> exact absurd hu (by decide)
  have hm : x.mark = ⟨#[]⟩ := (emB_iff _).1 h1
  unfold lkl
  rw [hS_no (fun c hc => (line_not h c hc).1), line_spl h, eo]
  simp only [Bool.false_eq_true, if_false]
  have fin : ∀ (a b c i : Int) (tt : ByteArray), a = x.a → b = x.b → c = x.c → i = x.i → tt = x.to → (⟨⟨#[]⟩, x.op, a, b, c, i, tt⟩ : Ln) = x := by
    rintro _ _ _ _ _ rfl rfl rfl rfl rfl
    rw [← hm]
  unfold Ins.us at za zb zc zi hto
  have hA := fun {m op a b c i tt} => wA (x := x) (m := m) (op := op) (a := a) (b := b) (c := c) (i := i) (tt := tt) a0 a1
  have hB := fun {m op a b c i tt} => wB (x := x) (m := m) (op := op) (a := a) (b := b) (c := c) (i := i) (tt := tt) b0 b1
  have hC := fun {m op a b c i tt} => wC (x := x) (m := m) (op := op) (a := a) (b := b) (c := c) (i := i) (tt := tt) c0 c1
  have hI := fun {m op a b c i} => wI (x := x) (m := m) (op := op) (a := a) (b := b) (c := c) (i := i) h hi0 hi1
  rcases Ins.shp_cases x.op with hs | hs | hs | hs | hs | hs | hs <;> rw [hs] at za zb zc zi hto ⊢
  · show wPart (wPart _ 97 (sb (pOf x 97))) 105 (sb (pOf x 105)) = x
    rw [hA, hI]
    exact fin _ _ _ _ _ rfl (zb (by decide)).symm (zc (by decide)).symm rfl rfl
  · show wPart (wPart _ 97 (sb (pOf x 97))) 98 (sb (pOf x 98)) = x
    rw [hA, hB]
    exact fin _ _ _ _ _ rfl rfl (zc (by decide)).symm (zi (by decide)).symm (hto (by decide)).symm
  · show wPart (wPart (wPart _ 97 (sb (pOf x 97))) 98 (sb (pOf x 98))) 99 (sb (pOf x 99)) = x
    rw [hA, hB, hC]
    exact fin _ _ _ _ _ rfl rfl rfl (zi (by decide)).symm (hto (by decide)).symm
  · show wPart (wPart (wPart _ 97 (sb (pOf x 97))) 98 (sb (pOf x 98))) 105 (sb (pOf x 105)) = x
    rw [hA, hB, hI]
    exact fin _ _ _ _ _ rfl rfl (zc (by decide)).symm rfl rfl
  · show wPart _ 105 (sb (pOf x 105)) = x
    rw [hI]
    exact fin _ _ _ _ _ (za (by decide)).symm (zb (by decide)).symm (zc (by decide)).symm rfl rfl
  · show wPart _ 97 (sb (pOf x 97)) = x
    rw [hA]
    exact fin _ _ _ _ _ rfl (zb (by decide)).symm (zc (by decide)).symm (zi (by decide)).symm (hto (by decide)).symm
  · exact fin _ _ _ _ _ (za (by decide)).symm (zb (by decide)).symm (zc (by decide)).symm (zi (by decide)).symm (hto (by decide)).symm
theorem mark_line {x : Ln} (h : markB x = true) : bl (lineT x) = bl x.mark ++ [58] ∧ x = ⟨x.mark, 0, 0, 0, 0, 0, ⟨#[]⟩⟩ ∧ nameB x.mark = true := by
  have h' := h
  unfold markB zeroB at h'
  simp only [Bool.and_eq_true, beq_iff_eq] at h'
  obtain ⟨⟨h1, h2⟩, ⟨⟨⟨e1, e2⟩, e3⟩, e4⟩, e5⟩ := h'
  refine ⟨?_, ?_, h1⟩
  · unfold lineT; rw [h, if_pos rfl, bl_app]; rfl
  · have e6 := (emB_iff _).1 h2
    obtain ⟨m, op, a, b, c, i, tt⟩ := x
    simp only at e1 e2 e3 e4 e5 e6 ⊢
    subst e1 e2 e3 e4 e5 e6
    rfl
theorem lkl_line {x : Ln} (h : goodB x = true) (hi0 : -2147483648 ≤ x.i) (hi1 : x.i < 2147483648) : lkl (lineT x) = x := by
  unfold goodB at h
  cases hm : markB x with
  | false => rw [hm] at h; exact lkl_ins (by simpa using h) hi0 hi1
  | true =>
    obtain ⟨e, ex, hn⟩ := mark_line hm
    have hs : hS (lineT x) ⟨#[58]⟩ = true := by unfold hS Lib.hasSuffix; exact List.isSuffixOf_iff_suffix.2 ⟨bl x.mark, e.symm⟩
    have ht : tS (lineT x) ⟨#[58]⟩ = x.mark := by
      unfold tS
      rw [e]
      exact (congrArg sb (trimS_hit (bl x.mark) [58])).trans (sb_bl _)
    unfold lkl
    rw [hs, if_pos rfl, ht]
    exact ex.symm
theorem line_no10 {x : Ln} (h : goodB x = true) : ∀ c ∈ bl (lineT x), c ≠ 10 := by
  unfold goodB at h
  cases hm : markB x with
  | false => rw [hm] at h; exact fun c hc => (line_not (by simpa using h) c hc).2
  | true =>
    obtain ⟨e, ex, hn⟩ := mark_line hm
    intro c hc
    rw [e] at hc
    rcases List.mem_append.1 hc with hc | hc
    · exact (ld_not (name_bytes hn c hc)).2.1
    · rw [List.mem_singleton.1 hc]; decide
theorem bl_ne {s : ByteArray} (h : bl s ≠ []) : emB s = false := by
  cases he : emB s with
  | false => rfl
  | true => rw [(emB_iff s).1 he] at h; exact absurd rfl h
theorem line_em (x : Ln) : emB (lineT x) = !goodB x := by
  cases hg : goodB x with
  | true =>
    refine bl_ne ?_
    unfold goodB at hg
    cases hm : markB x with
    | false =>
      rw [hm] at hg
      have hi : insB x = true := by simpa using hg
      obtain ⟨k, hk, e⟩ := ins_op hi
      rw [line_list hi, e]
      exact fun h => (nm_bytes ⟨k, hk⟩).2 (List.append_eq_nil_iff.1 h).1
    | true => rw [(mark_line hm).1]; simp
  | false =>
    unfold goodB at hg
    rw [Bool.or_eq_false_iff] at hg
    unfold lineT
    rw [hg.1, hg.2]
    rfl
/-- Lines as a text. -/
def txL (l : List Ln) : List UInt8 := l.flatMap fun x => bl (lineT x) ++ [10]
def prg (l : List Ln) : ByteArray := if l.all goodB then sb (txL l) else ⟨#[]⟩
theorem cuts_prg : ∀ (l : List Ln) (f : Nat), (∀ x ∈ l, goodB x = true) → (txL l).length ≤ f → cutsF f (sb (txL l)) = l.map lineT
  | [], f, _, _ => cuts_em rfl
  | x :: l, f, h, hf => by
    have e : txL (x :: l) = bl (lineT x) ++ 10 :: txL l := by simp [txL]
    have hg := h x (by simp)
    have hcut := cut_hit (r := txL l) (line_no10 hg)
    have hem : emB (sb (txL (x :: l))) = false := bl_ne (by rw [bl_sb, e]; simp)
    obtain ⟨g, h1, h2⟩ := cuts_step hem (f := f) (by rw [sb_size]; exact hf)
    have e1 : c1 (sb (txL (x :: l))) nlB = lineT x := by unfold c1; rw [bl_sb, e]; exact (congrArg (fun t => sb t.1) hcut).trans (sb_bl _)
    have e2 : c2 (sb (txL (x :: l))) nlB = sb (txL l) := by unfold c2; rw [bl_sb, e]; exact congrArg (fun t => sb t.2.1) hcut
    rw [e1, e2] at h1
    rw [e2, sb_size] at h2
    rw [h1, cuts_prg l g (fun y hy => h y (by simp [hy])) h2]
    rfl
theorem neK_all {T : List ByteArray} (h : ∀ t ∈ T, emB t = false) : neK T T.length = List.range T.length := by
  unfold neK
  refine List.filter_eq_self.2 fun j hj => ?_
  have hj := List.mem_range.1 hj
  rw [List.getD_eq_getElem?_getD, List.getElem?_eq_getElem hj]
  show (!emB T[j]) = true
  rw [h _ (List.getElem_mem hj)]
  rfl
theorem rd_prg {l : List Ln} (h : ∀ x ∈ l, goodB x = true) (hi : ∀ x ∈ l, -2147483648 ≤ x.i ∧ x.i < 2147483648) : rdW (sb (txL l)) = l ∧ rdK (sb (txL l)) = 0 ∧ rdE (sb (txL l)) = 0 := by
  have eT : lns (sb (txL l)) = l.map lineT := cuts_prg l _ h (by rw [sb_size]; exact Nat.le_refl _)
  have hne : ∀ t ∈ l.map lineT, emB t = false := fun t ht => by
    obtain ⟨x, hx, rfl⟩ := List.mem_map.1 ht
    rw [line_em, h x hx]
    rfl
  have hk := neK_all hne
  have hn : neN (l.map lineT) = l.length := by unfold neN; rw [hk]; simp
  have hx : ∀ j (hj : j < l.length), txtT (l.map lineT) j = lineT l[j] := fun j hj => by
    have hp : plcT (l.map lineT) j = j := by
      unfold plcT
      rw [hk, List.getD_eq_getElem?_getD, List.getElem?_range (by simpa using hj)]
      rfl
    unfold txtT
    rw [hp, List.getD_eq_getElem?_getD, List.getElem?_map, List.getElem?_eq_getElem hj]
    rfl
  have hX : ∀ j (hj : j < l.length), xT (l.map lineT) j = l[j] := fun j hj => by
    unfold xT
    rw [hx j hj]
    have hm := List.getElem_mem hj
    exact lkl_line (h _ hm) (hi _ hm).1 (hi _ hm).2
  have hok : ∀ j ∈ List.range (neN (lns (sb (txL l)))), okT (lns (sb (txL l))) j = true := by
    rw [eT, hn]
    intro j hj
    have hj := List.mem_range.1 hj
    unfold okT
    rw [hX j hj, hx j hj]
    exact decide_eq_true rfl
  obtain ⟨r1, r2, r3⟩ := rd_ok hok
  refine ⟨?_, r2, r3⟩
  rw [r1, eT, hn]
  refine List.ext_getElem (by simp) fun j h1 h2 => ?_
  simp only [List.getElem_map, List.getElem_range]
  exact hX j h2
theorem rd_lines {s : ByteArray} (h : rdE s = 0) : rdW s = (List.range (neN (lns s))).map (xT (lns s)) ∧ ∀ j ∈ List.range (neN (lns s)), okT (lns s) j = true := by
  cases hf : (List.range (neN (lns s))).find? (fun j => !okT (lns s) j) with
  | some j =>
    unfold rdE rd at h
    rw [hf] at h
    cases h
  | none =>
    have hok : ∀ j ∈ List.range (neN (lns s)), okT (lns s) j = true := fun j hj => by
      have := List.find?_eq_none.1 hf j hj
      simpa using this
    exact ⟨(rd_ok hok).1, hok⟩
theorem txt_ne {T : List ByteArray} {j : Nat} (hj : j < neN T) : emB (txtT T j) = false := by
  unfold neN at hj
  unfold txtT plcT
  rw [List.getD_eq_getElem?_getD (l := neK T T.length), List.getElem?_eq_getElem hj]
  have hm := List.getElem_mem hj
  unfold neK at hm
  have h2 := (List.mem_filter.1 hm).2
  rw [Bool.not_eq_true'] at h2
  exact h2
theorem rd_good {s : ByteArray} (h : rdE s = 0) : ∀ x ∈ rdW s, goodB x = true ∧ (-2147483648 ≤ x.i ∧ x.i < 2147483648) ∧ x.mark.size ≤ s.size ∧ x.to.size ≤ s.size := by
  obtain ⟨e, hok⟩ := rd_lines h
  intro x hx
  rw [e] at hx
  obtain ⟨j, hj, rfl⟩ := List.mem_map.1 hx
  have hjn := List.mem_range.1 hj
  have hk := hok j hj
  have hk : lineT (xT (lns s) j) = txtT (lns s) j := by unfold okT at hk; exact of_decide_eq_true hk
  have h1 := line_em (xT (lns s) j)
  rw [hk, txt_ne hjn] at h1
  have h2 := lkl_sizes (txtT (lns s) j)
  have h3 := txt_size s j
  exact ⟨by simpa using h1.symm, lkl_i _, Nat.le_trans h2.1 h3, Nat.le_trans h2.2 h3⟩
theorem cuts_sum : ∀ (f : Nat) (r : ByteArray), ((cutsF f r).map ByteArray.size).sum ≤ r.size
  | 0, r => Nat.zero_le _
  | f + 1, r => by
    unfold cutsF
    split
    · exact Nat.zero_le _
    · rename_i he
      have h1 := cut_less (r := r) (by simpa using he)
      have h2 := cuts_sum f (c2 r nlB)
      simp only [List.map_cons, List.sum_cons]
      omega
theorem filt_sum (p : Nat → Bool) (g : Nat → Nat) : ∀ l : List Nat, ((l.filter p).map g).sum ≤ (l.map g).sum
  | [] => Nat.le_refl _
  | x :: l => by
    have ih := filt_sum p g l
    rw [List.filter_cons]
    split
    · simp only [List.map_cons, List.sum_cons]; omega
    · simp only [List.map_cons, List.sum_cons]; omega
theorem sum_two (g h : Nat → Nat) : ∀ l : List Nat, (∀ j ∈ l, g j ≤ 2 * h j) → (l.map g).sum ≤ 2 * (l.map h).sum
  | [], _ => Nat.le_refl _
  | x :: l, hh => by
    have ih := sum_two g h l (fun j hj => hh j (by simp [hj]))
    have := hh x (by simp)
    simp only [List.map_cons, List.sum_cons]; omega
theorem txL_len (l : List Ln) : (txL l).length = (l.map fun x => (lineT x).size + 1).sum := by
  induction l with
  | nil => rfl
  | cons x l ih =>
    have e : txL (x :: l) = (bl (lineT x) ++ [10]) ++ txL l := by simp [txL]
    rw [e, List.length_append, ih, List.length_append, bl_len]
    simp
theorem rd_len {s : ByteArray} (h : rdE s = 0) : (txL (rdW s)).length ≤ 2 * s.size ∧ (rdW s).length ≤ s.size := by
  obtain ⟨e, hok⟩ := rd_lines h
  refine ⟨?_, by rw [e, List.length_map, List.length_range]; exact neN_le s⟩
  have e1 : (List.range (neN (lns s))).map (plcT (lns s)) = neK (lns s) (lns s).length := by
    refine List.ext_getElem (by simp [neN]) fun j h1 h2 => ?_
    simp only [List.getElem_map, List.getElem_range]
    unfold plcT
    rw [List.getD_eq_getElem?_getD, List.getElem?_eq_getElem h2]
    rfl
  have e2 : (List.range (lns s).length).map (fun k => ((lns s).getD k ⟨#[]⟩).size) = (lns s).map ByteArray.size := by
    refine List.ext_getElem (by simp) fun j h1 h2 => ?_
    simp only [List.getElem_map, List.getElem_range]
    rw [List.getD_eq_getElem?_getD, List.getElem?_eq_getElem (by simpa using h2)]
    rfl
  have h1 := filt_sum (fun i => !emB ((lns s).getD i ⟨#[]⟩)) (fun k => ((lns s).getD k ⟨#[]⟩).size) (List.range (lns s).length)
  rw [e2] at h1
  have h2 : ((neK (lns s) (lns s).length).map fun k => ((lns s).getD k ⟨#[]⟩).size).sum ≤ s.size := Nat.le_trans h1 (cuts_sum _ _)
  rw [← e1, List.map_map] at h2
  rw [txL_len, e, List.map_map]
  have h3 := sum_two ((fun x => (lineT x).size + 1) ∘ xT (lns s)) ((fun k => ((lns s).getD k ⟨#[]⟩).size) ∘ plcT (lns s)) (List.range (neN (lns s))) (fun j hj => by
    have hk := hok j hj
    have hk : lineT (xT (lns s) j) = txtT (lns s) j := by unfold okT at hk; exact of_decide_eq_true hk
    have hne := txt_ne (List.mem_range.1 hj)
    show (lineT (xT (lns s) j)).size + 1 ≤ 2 * (txtT (lns s) j).size
    rw [hk]
    unfold emB at hne
    have : (txtT (lns s) j).size ≠ 0 := by simpa using hne
    omega)
  omega
theorem line_size {x : Ln} (hi0 : -2147483648 ≤ x.i) (hi1 : x.i < 2147483648) : (lineT x).size ≤ 130 := by
  unfold lineT
  split
  · rename_i h
    unfold markB at h
    simp only [Bool.and_eq_true] at h
    have := nameB_size h.1.1
    rw [ByteArray.size_append]
    show x.mark.size + 1 ≤ 130
    omega
  · split
    · rename_i h
      obtain ⟨h1, h2, h3⟩ := ins_parts h
      obtain ⟨ha, hb, hc⟩ := fit_64 h2
      split
      · exact Nat.le_trans (txS_size ha hb hc ⟨by omega, by omega⟩) (by omega)
      · rename_i he
        have h4 := nameB_size (h3.resolve_left he).1
        have h5 := stemS_size (op := x.op) ha hb hc
        have h6 := addS_size hi0 hi1
        rw [ByteArray.size_append, ByteArray.size_append, ByteArray.size_append]
        show (stemS x.op x.a x.b x.c).size + 1 + x.to.size + (addS x.i).size ≤ 130
        omega
    · exact Nat.zero_le _
theorem txL_le {l : List Ln} (hi : ∀ x ∈ l, -2147483648 ≤ x.i ∧ x.i < 2147483648) : (txL l).length ≤ 131 * l.length := by
  rw [txL_len]
  induction l with
  | nil => exact Nat.le_refl _
  | cons x l ih =>
    have h1 := hi x (by simp)
    have h2 := line_size h1.1 h1.2
    have h3 := ih (fun y hy => hi y (by simp [hy]))
    simp only [List.map_cons, List.sum_cons, List.length_cons]
    omega
end Go.Proofs.YtagljcgfmdahhaaGreatDoor
