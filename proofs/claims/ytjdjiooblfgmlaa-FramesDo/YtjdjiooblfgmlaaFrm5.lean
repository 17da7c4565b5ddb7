/-
  PROVED HERE: what it means that frames lie in a row of the call's own, and what package frames' copied and with return when they are called (contracts over this translation). Frames are fewer than 2^38.
-/
import Derived.Test.YtjdjiooblfgmlaaFrm4
import Derived.Laws.AppendOwn
import Derived.Laws.OwnMore
import Derived.Laws.AppendOwnNone
import Derived.Maps.AppendAt
namespace Go.Proofs.Ytjdjiooblfgmlaa
open Go.RowKit Go.Shelf
set_option linter.unusedVariables false
attribute [local go_sem] Oper.semAt_some

def cellsOf : List (Int × Int) → List Value
  | [] => []
  | p :: r => .int .u64 p.1 :: .int .i64 p.2 :: cellsOf r
theorem cellsOf_append (A C : List (Int × Int)) : cellsOf (A ++ C) = cellsOf A ++ cellsOf C := by
  induction A with
  | nil => rfl
  | cons p r ih => simp [cellsOf, ih]
theorem cellsOf_length (A : List (Int × Int)) : (cellsOf A).length = A.length * 2 := by
  induction A with
  | nil => rfl
  | cons p r ih => simp [cellsOf, ih]; omega
theorem cellsOf_at (A : List (Int × Int)) : ∀ i, i < A.length → (cellsOf A)[i * 2]? = some (.int .u64 (A.getD i (0, 0)).1) ∧ (cellsOf A)[i * 2 + 1]? = some (.int .i64 (A.getD i (0, 0)).2) := by
  induction A with
  | nil => intro i hi; exact absurd hi (by simp)
  | cons p r ih =>
    intro i hi
    cases i with
    | zero => simp [cellsOf]
    | succ j =>
      have h := ih j (by simpa using hi)
      have e1 : (j + 1) * 2 = j * 2 + 1 + 1 := by omega
      have e2 : (j + 1) * 2 + 1 = j * 2 + 1 + 1 + 1 := by omega
      rw [e1]
      simpa [cellsOf] using h

/-- The slice of n pairs at ao is the call's own (blocks from base on) and holds L. -/
def OwnL (base : Nat) (w : World) (ao : Option Addr) (n cap : Nat) (L : List (Int × Int)) : Prop :=
  L.length = n ∧ w.ownsRow base 51 2 (.slice ao n cap) n (cellsOf L)
theorem OwnL.nil (base : Nat) (w : World) : OwnL base w none 0 0 [] := ⟨rfl, World.ownsRow_nil _ _ _ _⟩
theorem OwnL.lab {base : Nat} {w : World} {ao : Option Addr} {n cap : Nat} {L : List (Int × Int)} (h : OwnL base w ao n cap L) : Lab w.heap.size w ao n cap L := by
  obtain ⟨hl, hr⟩ := h
  have hr' := hr
  obtain ⟨_, ⟨hv, hn⟩ | ⟨g, cap', cur, hv, hb, hh, hnc, hm, hs, ht⟩⟩ := hr
  · simp only [Value.slice.injEq] at hv
    obtain ⟨rfl, rfl, rfl⟩ := hv
    exact ⟨hl, by omega, ⟨by omega, fun _ => rfl⟩, fun h => absurd h (by omega)⟩
  · simp only [Value.slice.injEq] at hv
    obtain ⟨rfl, _, rfl⟩ := hv
    refine ⟨hl, hnc, ⟨by unfold maxLen at hm; omega, fun hz => by cases hz⟩, fun _ => ⟨g, 0, rfl, (Array.getElem?_eq_some_iff.1 hh).1, fun i hi => ?_⟩⟩
    have hc := cellsOf_at L i (by omega)
    rw [Nat.zero_add]
    exact ⟨(hr'.cellAt (i * 2) (by omega)).trans hc.1, (hr'.cellAt (i * 2 + 1) (by omega)).trans hc.2⟩
theorem cell_two_new (w : World) (x y : Value) (t : TypeId) : ∀ j u, [x, y][j]? = some u → (w.alloc (.cells #[x, y] t)).cell? ((⟨w.heap.size, 0, none⟩ : Addr).add j) = some u := by
  intro j u hj
  match j, hj with
  | 0, hj => simp at hj; subst hj; simp [Addr.add]
  | 1, hj => simp at hj; subst hj; simp [Addr.add]
theorem ownsRow_two {W : World} {base : Nat} {e : TypeId} {size : Nat} {v : Value} {k : Nat} {xs : List Value} (h : W.ownsRow base e size v (k + 1) xs) : ∃ g cap, v = .slice (some ⟨g, 0, none⟩) (k + 1) cap := by
  rcases h.2 with ⟨_, h0⟩ | ⟨g, cap, _, rfl, _⟩
  · omega
  · exact ⟨g, cap, rfl⟩
theorem cellsOf_set (A : List (Int × Int)) (p : Int × Int) : ∀ i, cellsOf (A.set i p) = ((cellsOf A).set (i * 2) (.int .u64 p.1)).set (i * 2 + 1) (.int .i64 p.2) := by
  induction A with
  | nil => intro i; rfl
  | cons q r ih =>
    intro i
    cases i with
    | zero => rfl
    | succ j =>
      have e1 : (j + 1) * 2 = j * 2 + 1 + 1 := by omega
      rw [e1]
      simp only [List.set_cons_succ, cellsOf, ih j]
theorem ownsRow_pos {W : World} {base : Nat} {e : TypeId} {size : Nat} {v : Value} {k : Nat} {xs : List Value} (hk : 0 < k) (h : W.ownsRow base e size v k xs) : ∃ g cap, v = .slice (some ⟨g, 0, none⟩) k cap := by
  rcases h.2 with ⟨_, h0⟩ | ⟨g, cap, _, rfl, _⟩
  · omega
  · exact ⟨g, cap, rfl⟩
theorem cellsOf_one (A : List (Int × Int)) : ∀ u ∈ cellsOf A, u.oneCell' = true := by
  induction A with
  | nil => intro u hu; cases hu
  | cons p r ih =>
    intro u hu
    simp only [cellsOf, List.mem_cons] at hu
    rcases hu with rfl | rfl | hu
    · rfl
    · rfl
    · exact ih u hu
theorem ownsRow_next {W W' : World} {b : Nat} {e : TypeId} {size : Nat} {v : Value} {k : Nat} {xs : List Value} (h : W.ownsRow b e size v k xs) (hb : Below W.heap.size W W') : W'.ownsRow b e size v k xs := by
  refine h.kept (below_grown hb) ?_
  cases ho : v.ownBlock with
  | none => exact .inl rfl
  | some a => exact .inr (by simp)
theorem OwnL.next {base : Nat} {w w' : World} {ao : Option Addr} {n cap : Nat} {L : List (Int × Int)} (h : OwnL base w ao n cap L) (k : Below w.heap.size w w') : OwnL base w' ao n cap L := ⟨h.1, ownsRow_next h.2 k⟩
theorem OwnL.form {base : Nat} {w : World} {ao : Option Addr} {n cap : Nat} {L : List (Int × Int)} (h : OwnL base w ao n cap L) (hn : 0 < n) : ∃ g, ao = some ⟨g, 0, none⟩ ∧ base ≤ g ∧ g < w.heap.size ∧ n ≤ cap ∧ cap ≤ 9223372036854775807 := by
  rcases h.2.2 with ⟨_, h0⟩ | ⟨g, cap', cur, e, hb, hg, h1, h2, _⟩
  · omega
  · simp only [Value.slice.injEq] at e
    obtain ⟨rfl, _, rfl⟩ := e
    exact ⟨g, rfl, hb, (Array.getElem?_eq_some_iff.1 hg).1, h1, by unfold maxLen at h2; omega⟩
theorem OwnL.set {base g : Nat} {w : World} {n cap : Nat} {L : List (Int × Int)} (h : OwnL base w (some ⟨g, 0, none⟩) n cap L) (i : Nat) (x y : Int) : OwnL base ((w.setCell ⟨g, i * 2, none⟩ (.int .u64 x)).setCell ⟨g, i * 2 + 1, none⟩ (.int .i64 y)) (some ⟨g, 0, none⟩) n cap (L.set i (x, y)) := by
  obtain ⟨s1, k1⟩ := h.2.stored (i * 2) (.int .u64 x)
  obtain ⟨s2, k2⟩ := s1.stored (i * 2 + 1) (.int .i64 y)
  refine ⟨by rw [List.length_set]; exact h.1, ?_⟩
  rw [cellsOf_set]
  exact s2
theorem OwnL.cells {base g : Nat} {w : World} {n cap : Nat} {L : List (Int × Int)} (h : OwnL base w (some ⟨g, 0, none⟩) n cap L) {i : Nat} (hi : i < n) : w.cell? ⟨g, i * 2, none⟩ = some (.int .u64 (L.getD i (0, 0)).1) ∧ w.cell? ⟨g, i * 2 + 1, none⟩ = some (.int .i64 (L.getD i (0, 0)).2) := by
  have hc := cellsOf_at L i (by rw [h.1]; exact hi)
  exact ⟨(h.2.cellAt (i * 2) (by omega)).trans hc.1, (h.2.cellAt (i * 2 + 1) (by omega)).trans hc.2⟩
theorem OwnL.base {b b' : Nat} {w : World} {ao : Option Addr} {n cap : Nat} {L : List (Int × Int)} (hb : b' ≤ b) (h : OwnL b w ao n cap L) : OwnL b' w ao n cap L := by
  obtain ⟨h1, h2, h3⟩ := h
  refine ⟨h1, h2, ?_⟩
  rcases h3 with h3 | ⟨g, c, cur, e, q, r⟩
  · exact .inl h3
  · exact .inr ⟨g, c, cur, e, Nat.le_trans hb q, r⟩
theorem ownL_own {β : Type} (base : Nat) (ao : Option Addr) (n cap : Nat) (f : β → List (Int × Int)) : Own (fun s W => OwnL base W ao n cap (f s)) := fun s X Y row hs hg hrow => by
  refine ⟨hs.1, hs.2.kept hg ?_⟩
  rcases hs.2.2 with ⟨e, _⟩ | ⟨g, c, cur, e, _, hgg, _⟩
  · left; rw [e]; rfl
  · right
    rw [e]
    intro hr
    obtain ⟨o, ho, hc⟩ := hrow g hr.symm
    rw [hgg] at ho
    cases ho
    cases hc
theorem infoFrame : (Try.prog.info? 51).map (fun i => (i.zero, i.size, i.bytes)) = some (some (.agg #[.int .u64 0, .int .i64 0]), 2, 16) := by kernel_rfl
theorem lab_news {D : Nat → Prop} {w : World} {ao : Option Addr} {k cap : Nat} {A : List (Int × Int)} (hA : LabD D w ao k cap A) (hk : 0 < k) : ∀ ad, ao = some ad → ∀ j u, (cellsOf A)[j]? = some u → w.cell? (ad.add j) = some u := by
  obtain ⟨b, off, rfl, hbB, hc⟩ := hA.2.2.2 hk
  have hl := hA.1
  intro ad e j u hj
  cases e
  have ea : (⟨b, off, none⟩ : Addr).add j = ⟨b, off + j, none⟩ := by unfold Addr.add; split <;> simp_all
  rw [ea]
  have hj2 : j < A.length * 2 := by
    rw [← cellsOf_length]
    exact (List.getElem?_eq_some_iff.1 hj).1
  obtain ⟨i, hi2⟩ : ∃ i, j = i * 2 ∨ j = i * 2 + 1 := ⟨j / 2, by omega⟩
  rcases hi2 with rfl | rfl
  · have h1 := (cellsOf_at A i (by omega)).1
    rw [hj] at h1
    cases h1
    exact (hc i (by omega)).1
  · have h1 := (cellsOf_at A i (by omega)).2
    rw [hj] at h1
    cases h1
    exact (hc i (by omega)).2
theorem copied_any {w : World} {ao : Option Addr} {k cap : Nat} {A : List (Int × Int)} (hA : Lab w.heap.size w ao k cap A) (hk : k < 274877906944) :
    Calls Try.prog 30 #[.slice ao k cap] w fun e w' => ∃ ao1 cap1, e = .returned (.slice ao1 k cap1) ∧ OwnL w.heap.size w' ao1 k cap1 A ∧ Below w.heap.size w w' := by
  obtain ⟨i0, hi, hz0, hz1, hz2⟩ := info_parts infoFrame
  by_cases h0 : k = 0
  · subst h0
    have hA0 : A = [] := List.eq_nil_of_length_eq_zero hA.1
    subst hA0
    cases ao with
    | none =>
      have hz := hA.2.2.1.2 rfl
      subst hz
      clear hA
      go_enter Try.func30, Try.ntmps30
      go_wp2_with (at_builtin; refine wpList_append_own_none rfl _ _ 22 rfl w.heap.size 51 i0 2 Try.underlying22 hi _ _ _ rfl (World.ownsRow_nil _ _ _ _) rfl ?_)
      go_ret
      exact ⟨_, _, rfl, OwnL.nil _ _, Below.refl _ _⟩
    | some a =>
      clear hA
      go_enter Try.func30, Try.ntmps30
      go_wp2_with (at_builtin; refine wpList_append_own _ rfl _ _ 22 rfl w.heap.size 51 i0 (.agg #[.int .u64 0, .int .i64 0]) 2 16 Try.underlying22 hi hz0 hz1 hz2 rfl (by decide) _ _ _ rfl (World.ownsRow_nil _ _ _ _) a 0 cap [] rfl rfl (fun j u h => by simp at h) (fun u h => by cases h) (by unfold maxLen; omega) (by omega) (Nat.le_refl _) ?_; intro v' w1 hown' hgrow hnil; obtain rfl := hnil.2 ⟨rfl, rfl⟩)
      go_ret
      exact ⟨_, _, rfl, OwnL.nil _ _, (Below.refl _ _).grown hgrow (Nat.le_refl _) (fun j e => by have e' : none = some j := e; cases e')⟩
  · have hn := lab_news hA (by omega)
    obtain ⟨b, off, rfl, hbB, hc⟩ := hA.2.2.2 (by omega)
    have hl := hA.1
    have HL : Hid (A.length = k) := hl
    have HN : Hid (∀ j u, (cellsOf A)[j]? = some u → w.cell? ((⟨b, off, none⟩ : Addr).add j) = some u) := hn _ rfl
    clear hA hc hn hl
    go_enter Try.func30, Try.ntmps30
    go_wp2_with (at_builtin; refine wpList_append_own _ rfl _ _ 22 rfl w.heap.size 51 i0 (.agg #[.int .u64 0, .int .i64 0]) 2 16 Try.underlying22 hi hz0 hz1 hz2 rfl (by decide) _ _ _ rfl (World.ownsRow_nil _ _ _ _) ⟨b, off, none⟩ k cap (cellsOf A) rfl (by rw [cellsOf_length, HL.out]) HN.out (cellsOf_one A) (by unfold maxLen; omega) (by omega) (Nat.le_refl _) ?_; intro v' w1 hown' hgrow _)
    obtain ⟨g, cap2, rfl⟩ := ownsRow_pos (by omega) hown'
    go_ret
    simp only [Nat.zero_add, List.nil_append] at hown' ⊢
    exact ⟨_, _, rfl, ⟨HL.out, hown'⟩, (Below.refl _ _).grown hgrow (Nat.le_refl _) (fun j e => by have e' : none = some j := e; cases e')⟩

theorem rcopied_any {w : World} {ao : Option Addr} {k cap : Nat} {A : List (Int × Int)} (hA : Lab w.heap.size w ao k cap A) (hk : k < 274877906944) :
    Calls Try.prog 33 #[.slice ao k cap] w fun e w' => ∃ ao1 cap1, e = .returned (.slice ao1 k cap1) ∧ OwnL w.heap.size w' ao1 k cap1 A ∧ Below w.heap.size w w' := by
  obtain ⟨i0, hi, hz0, hz1, hz2⟩ := info_parts infoFrame
  by_cases h0 : k = 0
  · subst h0
    have hA0 : A = [] := List.eq_nil_of_length_eq_zero hA.1
    subst hA0
    cases ao with
    | none =>
      have hz := hA.2.2.1.2 rfl
      subst hz
      clear hA
      go_enter Try.func33, Try.ntmps33
      go_wp2_with (at_builtin; refine wpList_append_own_none rfl _ _ 22 rfl w.heap.size 51 i0 2 Try.underlying22 hi _ _ _ rfl (World.ownsRow_nil _ _ _ _) rfl ?_)
      go_ret
      exact ⟨_, _, rfl, OwnL.nil _ _, Below.refl _ _⟩
    | some a =>
      clear hA
      go_enter Try.func33, Try.ntmps33
      go_wp2_with (at_builtin; refine wpList_append_own _ rfl _ _ 22 rfl w.heap.size 51 i0 (.agg #[.int .u64 0, .int .i64 0]) 2 16 Try.underlying22 hi hz0 hz1 hz2 rfl (by decide) _ _ _ rfl (World.ownsRow_nil _ _ _ _) a 0 cap [] rfl rfl (fun j u h => by simp at h) (fun u h => by cases h) (by unfold maxLen; omega) (by omega) (Nat.le_refl _) ?_; intro v' w1 hown' hgrow hnil; obtain rfl := hnil.2 ⟨rfl, rfl⟩)
      go_ret
      exact ⟨_, _, rfl, OwnL.nil _ _, (Below.refl _ _).grown hgrow (Nat.le_refl _) (fun j e => by have e' : none = some j := e; cases e')⟩
  · have hn := lab_news hA (by omega)
    obtain ⟨b, off, rfl, hbB, hc⟩ := hA.2.2.2 (by omega)
    have hl := hA.1
    have HL : Hid (A.length = k) := hl
    have HN : Hid (∀ j u, (cellsOf A)[j]? = some u → w.cell? ((⟨b, off, none⟩ : Addr).add j) = some u) := hn _ rfl
    clear hA hc hn hl
    go_enter Try.func33, Try.ntmps33
    go_wp2_with (at_builtin; refine wpList_append_own _ rfl _ _ 22 rfl w.heap.size 51 i0 (.agg #[.int .u64 0, .int .i64 0]) 2 16 Try.underlying22 hi hz0 hz1 hz2 rfl (by decide) _ _ _ rfl (World.ownsRow_nil _ _ _ _) ⟨b, off, none⟩ k cap (cellsOf A) rfl (by rw [cellsOf_length, HL.out]) HN.out (cellsOf_one A) (by unfold maxLen; omega) (by omega) (Nat.le_refl _) ?_; intro v' w1 hown' hgrow _)
    obtain ⟨g, cap2, rfl⟩ := ownsRow_pos (by omega) hown'
    go_ret
    simp only [Nat.zero_add, List.nil_append] at hown' ⊢
    exact ⟨_, _, rfl, ⟨HL.out, hown'⟩, (Below.refl _ _).grown hgrow (Nat.le_refl _) (fun j e => by have e' : none = some j := e; cases e')⟩

set_option maxHeartbeats 1000000 in
theorem with_any {w : World} {ao : Option Addr} {n cap : Nat} {L : List Frm.Fr} (hL : Lab w.heap.size w ao n cap L) (hn : n < 274877906944) (i : Nat) (hi : i < n) (x y : Int) :
    Calls Try.prog 32 #[.slice ao n cap, .int .i64 (i : Int), .agg #[.int .u64 x, .int .i64 y]] w fun e w' => ∃ ao1 cap1, e = .returned (.slice ao1 n cap1) ∧ OwnL w.heap.size w' ao1 n cap1 (L.set i (x, y)) ∧ Below w.heap.size w w' := by
  have hT := Two.new w 51 (.int .u64 x) (.int .i64 y)
  have hB0 := (Below.refl w.heap.size w).alloc (Nat.le_refl _) (.cells #[.int .u64 x, .int .i64 y] 51)
  have hc := copied_any (hL.next hB0) hn
  have hin : (i : Int) < n := by omega
  have hn0 : 0 < n := by omega
  go_enter Try.func32, Try.ntmps32
  go_wp2_with (go_at_call 30; refine hc.mono ?_; rintro e w1 ⟨ao1, cap1, rfl, hown, hb1⟩; obtain ⟨g, rfl, hg0, hg1, hg2, hg3⟩ := hown.form hn0; have hT1 := hT.next hb1; have c0 := hT1.cell0; have c1 := hT1.cell1; have fz := fun j => hown.2.frozenAt j; obtain ⟨q0, q1⟩ := hown.cells hi)
  go_ret
  exact ⟨_, _, rfl, OwnL.base (by simp) (hown.set i x y), ((hB0.trans (hb1.mono hB0.size)).setCell (p := ⟨g, i * 2, none⟩) (by show w.heap.size ≤ g; simp at hg0; omega) _).setCell (p := ⟨g, i * 2 + 1, none⟩) (by show w.heap.size ≤ g; simp at hg0; omega) _⟩
end Go.Proofs.Ytjdjiooblfgmlaa
