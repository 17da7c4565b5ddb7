/-
  PROVED HERE: of programs as rows of lines: each mark is found at its place, each word is its line's instruction's, and two programs of unlike marks are put together one behind the other. No condition.
-/
import Derived.Test.YtnghendglcblkaaGreatDoorAsm1
namespace Go.Proofs.YtnghendglcblkaaGreatDoor
namespace Asm
set_option linter.unusedVariables false

theorem fnd_app (m : ByteArray) (l r : List Ln) (k : Nat) : fnd m (l ++ r) k = (fnd m l k).or (fnd m r (k + cnt l)) := by
  induction l generalizing k with
  | nil => simp [fnd, cnt]
  | cons x l ih =>
    simp only [List.cons_append, fnd, cnt]
    split
    · rw [ih, show k + 1 + cnt l = k + (1 + cnt l) by omega]
    · split
      · rfl
      · rw [ih, show k + (0 + cnt l) = k + cnt l by omega]
theorem fnd_shift (m : ByteArray) (l : List Ln) (k : Nat) : fnd m l k = (fnd m l 0).map (· + k) := by
  induction l generalizing k with
  | nil => rfl
  | cons x l ih =>
    simp only [fnd]
    split
    · rw [ih (k + 1), ih (0 + 1)]
      cases fnd m l 0 <;> simp
      omega
    · split
      · simp
      · exact ih k
theorem fnd_none {m : ByteArray} {l : List Ln} {k : Nat} : fnd m l k = none ↔ ∀ x ∈ l, emB x.mark = false → x.mark ≠ m := by
  induction l generalizing k with
  | nil => simp [fnd]
  | cons x l ih =>
    simp only [fnd, List.mem_cons, forall_eq_or_imp]
    split
    · rename_i h; rw [ih]; simp [h]
    · rename_i h
      split
      · rename_i e; simp [e] at h ⊢; simp [h]
      · rename_i e; rw [ih]; simp [e]
theorem put_zero {l : List Ln} (h : putE l = 0) : scan bad1 [] l = (0, 0) ∧ scan (bad2 l) [] l = (0, 0) ∧ putW l = wds l l 0 ∧ (∀ q x r, l = q ++ x :: r → bad1 q x = 0) ∧ (∀ q x r, l = q ++ x :: r → bad2 l q x = 0) := by
  unfold putE put at h
  by_cases h1 : (scan bad1 [] l).2 = 0
  · rw [if_neg (by simpa using h1)] at h
    by_cases h2 : (scan (bad2 l) [] l).2 = 0
    · obtain ⟨e1, f1⟩ := scan_zero h1
      obtain ⟨e2, f2⟩ := scan_zero h2
      refine ⟨e1, e2, ?_, fun q x r e => by simpa using f1 q x r e, fun q x r e => by simpa using f2 q x r e⟩
      unfold putW put
      rw [if_neg (by simpa using h1), if_neg (by simpa using h2)]
    · rw [if_pos h2] at h; exact absurd h h2
  · rw [if_pos h1] at h; exact absurd h h1
theorem put_err {l : List Ln} (h : putE l ≠ 0) : putW l = [] := by
  unfold putE put at h
  unfold putW put
  split
  · rfl
  · split
    · rfl
    · rename_i h1 h2; rw [if_neg h1, if_neg h2] at h; exact absurd rfl h
theorem put_ok {l : List Ln} (h1 : ∀ q x r, l = q ++ x :: r → bad1 q x = 0) (h2 : ∀ q x r, l = q ++ x :: r → bad2 l q x = 0) : putE l = 0 ∧ putW l = wds l l 0 := by
  have e1 : scan bad1 [] l = (0, 0) := scan_of (by simpa using h1)
  have e2 : scan (bad2 l) [] l = (0, 0) := scan_of (by simpa using h2)
  unfold putE putW put
  rw [if_neg (by rw [e1]; simp), if_neg (by rw [e2]; simp)]
  exact ⟨rfl, rfl⟩
theorem bad1_good {q : List Ln} {x : Ln} (h : bad1 q x = 0) : goodB x = true ∧ (emB x.mark = false → fnd x.mark q 0 = none) := by
  unfold bad1 at h
  split at h
  · cases h
  · rename_i hg
    split at h
    · cases h
    · rename_i hs
      refine ⟨by simpa using hg, fun e => ?_⟩
      rw [e, mks_look] at hs
      simpa using hs
theorem good_mark {x : Ln} (h : goodB x = true) (e : emB x.mark = false) : markB x = true := by
  unfold goodB insB at h
  rw [e] at h
  simpa using h
theorem good_ins {x : Ln} (h : goodB x = true) (e : emB x.mark = true) : insB x = true := by
  have hm : nameB x.mark = false := by rw [(emB_iff _).1 e]; rfl
  unfold goodB markB at h
  rw [hm] at h
  simpa using h
/-- A mark is found where it stands. -/
theorem goes_mark {l q r : List Ln} {x : Ln} (h : putE l = 0) (e : l = q ++ x :: r) (hm : emB x.mark = false) : fnd x.mark l 0 = some (cnt q) := by
  have h1 := (put_zero h).2.2.2.1 q x r e
  have h2 := (bad1_good h1).2 hm
  rw [e, fnd_app, h2]
  simp [fnd, hm]
theorem us_goes {op : Int} (h : jmpB op = true ∨ op = 1) : Ins.us op 105 = true := by
  have hc : op = 18 ∨ op = 19 ∨ op = 20 ∨ op = 21 ∨ op = 1 := by
    simp only [jmpB, Bool.or_eq_true, beq_iff_eq] at h; omega
  rcases hc with rfl | rfl | rfl | rfl | rfl <;> decide
theorem fit_goes {op a b c i j : Int} (h : Ins.fitB op a b c i = true) (hg : goB op i = true) : Ins.fitB op a b c j = true := by
  have hu : Ins.us op 105 = true := us_goes (by
    simp only [goB, Bool.or_eq_true, Bool.and_eq_true, beq_iff_eq] at hg
    exact hg.imp And.left id)
  unfold Ins.fitB at h ⊢
  simp only [Bool.and_eq_true] at h ⊢
  exact ⟨h.1, by rw [hu]; simp⟩
/-- Each word is its line's instruction's. -/
theorem goes_ins {l q r : List Ln} {x : Ln} (h : putE l = 0) (e : l = q ++ x :: r) (hm : emB x.mark = true) (hok : x.ok) :
    (putW l)[cnt q]? = some (wrd l (cnt q) x) ∧ Ins.fitB x.op x.a x.b x.c (aim l (cnt q) x) = true ∧ (-2147483648 ≤ aim l (cnt q) x ∧ aim l (cnt q) x < 2147483648) ∧
    (emB x.to = false → fnd x.to l 0 = some (tgt l x) ∧ (x.op ≠ 1 → jmpB x.op = true ∧ x.i = 0)) := by
  obtain ⟨_, _, hw, h1, h2⟩ := put_zero h
  have hb1 := h1 q x r e
  have hb2 := h2 q x r e
  have hi := good_ins (bad1_good hb1).1 hm
  unfold insB at hi
  simp only [Bool.and_eq_true, Bool.or_eq_true] at hi
  obtain ⟨⟨_, hf⟩, hto⟩ := hi
  refine ⟨?_, ?_⟩
  · rw [hw]
    conv => lhs; rw [show wds l l 0 = wds l (q ++ x :: r) 0 from congrArg (fun z => wds l z 0) e]
    rw [wds_app, List.getElem?_append_right (by rw [wds_length]; exact Nat.le_refl _), wds_length]
    simp [wds, hm]
  · unfold bad2 at hb2
    rw [if_pos hm] at hb2
    unfold err2 at hb2
    by_cases ht : emB x.to = true
    · have ea : aim l (cnt q) x = x.i := by unfold aim; rw [if_pos ht]
      rw [ea]
      exact ⟨hf, hok.2.2.2.2, fun k => by rw [ht] at k; cases k⟩
    · rw [if_neg ht] at hb2
      have hto' : nameB x.to = true ∧ goB x.op x.i = true := by
        rcases hto with k | k
        · exact absurd k ht
        · exact k
      split at hb2
      · cases hb2
      · rename_i hs
        split at hb2
        · rename_i hr
          refine ⟨fit_goes hf hto'.2, ?_, fun _ => ⟨?_, fun hop => ?_⟩⟩
          · unfold inR at hr; simp at hr; omega
          · unfold tgt
            cases hq : fnd x.to l 0 with
            | none => rw [hq] at hs; exact absurd rfl hs
            | some n => rfl
          · have := hto'.2
            unfold goB at this
            simp [hop] at this
            exact this
        · cases hb2
theorem split_app {l m q r : List Ln} {x : Ln} (e : l ++ m = q ++ x :: r) : (∃ s, l = q ++ x :: s ∧ r = s ++ m) ∨ (∃ s, q = l ++ s ∧ m = s ++ x :: r) := by
  rcases List.append_eq_append_iff.1 e with ⟨s, rfl, h2⟩ | ⟨s, rfl, h2⟩
  · cases s with
    | nil => simp at h2; exact .inr ⟨[], by simp, by simpa using h2⟩
    | cons y s => exact .inr ⟨y :: s, rfl, h2⟩
  · cases s with
    | nil => simp at h2; exact .inr ⟨[], by simp, by simpa using h2.symm⟩
    | cons y s => simp at h2; obtain ⟨rfl, rfl⟩ := h2; exact .inl ⟨s, rfl, rfl⟩
/-- No two lines, one of each, have the same mark. -/
def Apart (l m : List Ln) : Prop := ∀ x ∈ l, ∀ y ∈ m, emB x.mark = false → x.mark ≠ y.mark
/-- No movi goes to a mark. -/
def Plain (l : List Ln) : Prop := ∀ x ∈ l, emB x.to = false → x.op ≠ 1
theorem fnd_mem {m : ByteArray} {l : List Ln} {k n : Nat} (h : fnd m l k = some n) : ∃ x ∈ l, emB x.mark = false ∧ x.mark = m := by
  rcases Classical.em (∀ x ∈ l, emB x.mark = false → x.mark ≠ m) with h' | h'
  · rw [fnd_none.2 h'] at h; cases h
  · simp only [Classical.not_forall, ne_eq, Classical.not_not] at h'
    obtain ⟨x, a, b, c⟩ := h'
    exact ⟨x, a, b, c⟩
theorem wds_first {l m : List Ln} (h : ∀ q x r, l = q ++ x :: r → emB x.mark = true → aim (l ++ m) (cnt q) x = aim l (cnt q) x) : wds (l ++ m) l 0 = wds l l 0 := by
  have : ∀ (r q : List Ln), l = q ++ r → wds (l ++ m) r (cnt q) = wds l r (cnt q) := by
    intro r
    induction r with
    | nil => intros; rfl
    | cons x r ih =>
      intro q e
      have e2 := ih (q ++ [x]) (by simp [e])
      rw [cnt_app] at e2
      simp only [wds]
      split
      · rename_i hm
        rw [show cnt q + 1 = cnt q + cnt [x] by simp [cnt, hm], e2]
        unfold wrd
        rw [h q x r e hm]
      · rename_i hm
        rw [show cnt q + cnt [x] = cnt q by simp [cnt, hm]] at e2
        exact e2
  exact this l [] rfl
theorem wds_second {l m : List Ln} (h : ∀ q x r, m = q ++ x :: r → emB x.mark = true → aim (l ++ m) (cnt l + cnt q) x = aim m (cnt q) x) : wds (l ++ m) m (cnt l) = wds m m 0 := by
  have : ∀ (r q : List Ln), m = q ++ r → wds (l ++ m) r (cnt l + cnt q) = wds m r (cnt q) := by
    intro r
    induction r with
    | nil => intros; rfl
    | cons x r ih =>
      intro q e
      have e2 := ih (q ++ [x]) (by simp [e])
      rw [cnt_app] at e2
      simp only [wds]
      split
      · rename_i hm
        rw [show cnt q + 1 = cnt q + cnt [x] by simp [cnt, hm], show cnt l + cnt q + 1 = cnt l + (cnt q + cnt [x]) by simp [cnt, hm]; omega, e2]
        unfold wrd
        rw [h q x r e hm]
      · rename_i hm
        rw [show cnt q + cnt [x] = cnt q by simp [cnt, hm]] at e2
        exact e2
  exact this m [] rfl
/-- One program behind the other. -/
theorem put_joins {l m : List Ln} (hl : putE l = 0) (hm : putE m = 0) (hp : Plain (l ++ m)) (ha : Apart l m) : putE (l ++ m) = 0 ∧ putW (l ++ m) = putW l ++ putW m := by
  obtain ⟨_, _, wl, l1, l2⟩ := put_zero hl
  obtain ⟨_, _, wm, m1, m2⟩ := put_zero hm
  have toL : ∀ q x r, l = q ++ x :: r → emB x.mark = true → emB x.to = false → ∃ n, fnd x.to l 0 = some n ∧ fnd x.to (l ++ m) 0 = some n := fun q x r e hmk ht => by
    have h := l2 q x r e
    unfold bad2 err2 at h
    rw [if_pos hmk, if_neg (by rw [ht]; simp)] at h
    cases hq : fnd x.to l 0 with
    | none => rw [hq] at h; simp at h
    | some n => exact ⟨n, rfl, by rw [fnd_app, hq]; rfl⟩
  have toM : ∀ q x r, m = q ++ x :: r → emB x.mark = true → emB x.to = false → ∃ n, fnd x.to m 0 = some n ∧ fnd x.to (l ++ m) 0 = some (n + cnt l) := fun q x r e hmk ht => by
    have h := m2 q x r e
    unfold bad2 err2 at h
    rw [if_pos hmk, if_neg (by rw [ht]; simp)] at h
    cases hq : fnd x.to m 0 with
    | none => rw [hq] at h; simp at h
    | some n =>
      refine ⟨n, rfl, ?_⟩
      obtain ⟨y, hy, hy1, hy2⟩ := fnd_mem hq
      have hn : fnd x.to l 0 = none := fnd_none.2 fun z hz hz1 hz2 => ha z hz y hy hz1 (hz2.trans hy2.symm)
      rw [fnd_app, hn, fnd_shift, hq]
      simp
  have aL : ∀ q x r, l = q ++ x :: r → emB x.mark = true → aim (l ++ m) (cnt q) x = aim l (cnt q) x := fun q x r e hmk => by
    unfold aim tgt
    cases ht : emB x.to with
    | true => rfl
    | false =>
      obtain ⟨n, h1, h2⟩ := toL q x r e hmk ht
      rw [h1, h2]
  have aM : ∀ q x r, m = q ++ x :: r → emB x.mark = true → aim (l ++ m) (cnt l + cnt q) x = aim m (cnt q) x := fun q x r e hmk => by
    unfold aim tgt
    cases ht : emB x.to with
    | true => rfl
    | false =>
      obtain ⟨n, h1, h2⟩ := toM q x r e hmk ht
      have hop : x.op ≠ 1 := hp x (by rw [e]; simp) ht
      rw [h1, h2]
      simp only [hop, if_false, Option.getD_some, Bool.false_eq_true]
      omega
  have res := put_ok (l := l ++ m) (fun q x r e => by
      rcases split_app e with ⟨s, e1, _⟩ | ⟨s, rfl, e1⟩
      · exact l1 q x s e1
      · have h := m1 s x r e1
        have hg := bad1_good h
        unfold bad1
        rw [hg.1]
        simp only [Bool.not_true, Bool.false_eq_true, if_false]
        cases hx : emB x.mark with
        | true => simp
        | false =>
          have hn : fnd x.mark l 0 = none := fnd_none.2 fun z hz hz1 hz2 => ha z hz x (by rw [e1]; simp) hz1 hz2
          rw [mks_look, fnd_app, hn, fnd_shift, hg.2 hx]
          simp) (fun q x r e => by
      unfold bad2
      split
      · rename_i hmk
        rcases split_app e with ⟨s, e1, _⟩ | ⟨s, rfl, e1⟩
        · have h := l2 q x s e1
          unfold bad2 err2 at h
          rw [if_pos hmk] at h
          unfold err2
          cases ht : emB x.to with
          | true => rfl
          | false =>
            obtain ⟨n, h1, h2⟩ := toL q x s e1 hmk ht
            rw [ht, h1] at h
            rw [h2, aL q x s e1 hmk]
            exact h
        · have h := m2 s x r e1
          unfold bad2 err2 at h
          rw [if_pos hmk] at h
          unfold err2
          cases ht : emB x.to with
          | true => rfl
          | false =>
            obtain ⟨n, h1, h2⟩ := toM s x r e1 hmk ht
            rw [ht, h1] at h
            rw [h2, cnt_app, aM s x r e1 hmk]
            exact h
      · rfl)
  refine ⟨res.1, ?_⟩
  rw [res.2, wds_app, wl, wm, Nat.zero_add, wds_first aL, wds_second aM]
end Asm
end Go.Proofs.YtnghendglcblkaaGreatDoor
