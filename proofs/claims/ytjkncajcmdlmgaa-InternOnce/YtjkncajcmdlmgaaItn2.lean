/-
  PROVED HERE: what it means that a table lies in memory; what places, copied, mayKeep, mayStand and isAsked of package intern return when they are called (contracts over this translation). Labels have fewer than 2^38 pairs.
-/
import Derived.Test.YtjkncajcmdlmgaaItn1
import Derived.Test.YtjkncajcmdlmgaaLabSet
import Derived.Test.YtjkncajcmdlmgaaLabCon2
import Derived.Laws.AppendOwnNone
namespace Go.Proofs.Ytjkncajcmdlmgaa
open Go.ChangeShapes Go.WideShapes Go.ChangeAt Go.RowKit
set_option linter.unusedVariables false

/-- A row of labels, in blocks of which D holds. -/
def RowD (D : Nat → Prop) (w : World) (ao : Option Addr) (n cap : Nat) (R : List (List (Int × Int))) : Prop :=
  R.length = n ∧ n ≤ cap ∧ (cap ≤ 9223372036854775807 ∧ (ao = none → cap = 0)) ∧
  (0 < n → ∃ b off, ao = some ⟨b, off, none⟩ ∧ D b ∧ ∀ i, i < n → ∃ a k c, w.cell? ⟨b, off + i, none⟩ = some (.slice a k c) ∧ LabD D w a k c (R.getD i []))
/-- A row of integers. -/
def IntD (D : Nat → Prop) (w : World) (ao : Option Addr) (n cap : Nat) (C : List Int) : Prop :=
  C.length = n ∧ n ≤ cap ∧ (cap ≤ 9223372036854775807 ∧ (ao = none → cap = 0)) ∧
  (0 < n → ∃ b off, ao = some ⟨b, off, none⟩ ∧ D b ∧ ∀ i, i < n → w.cell? ⟨b, off + i, none⟩ = some (.int .i64 (C.getD i 0)))
theorem cellK {D : Nat → Prop} {w w' : World} (k : Keeps D w w') {b off : Nat} (hb : D b) : w'.cell? ⟨b, off, none⟩ = w.cell? ⟨b, off, none⟩ := World.cell?_of_block (w := w) (a := ⟨b, off, none⟩) (k.2 b hb)
theorem RowD.later {D : Nat → Prop} {w w' : World} {ao : Option Addr} {n cap : Nat} {R : List (List (Int × Int))} (h : RowD D w ao n cap R) (k : Keeps D w w') : RowD D w' ao n cap R := by
  obtain ⟨h1, h2, h3, h4⟩ := h
  refine ⟨h1, h2, h3, fun hn => ?_⟩
  obtain ⟨b, off, e, hb, hc⟩ := h4 hn
  refine ⟨b, off, e, hb, fun i hi => ?_⟩
  obtain ⟨a, m, c, q1, q2⟩ := hc i hi
  exact ⟨a, m, c, (cellK k hb).trans q1, q2.later k⟩
theorem IntD.later {D : Nat → Prop} {w w' : World} {ao : Option Addr} {n cap : Nat} {C : List Int} (h : IntD D w ao n cap C) (k : Keeps D w w') : IntD D w' ao n cap C := by
  obtain ⟨h1, h2, h3, h4⟩ := h
  refine ⟨h1, h2, h3, fun hn => ?_⟩
  obtain ⟨b, off, e, hb, hc⟩ := h4 hn
  exact ⟨b, off, e, hb, fun i hi => (cellK k hb).trans (hc i hi)⟩
theorem LabD.wide {D D' : Nat → Prop} {w : World} {ao : Option Addr} {n cap : Nat} {L : List (Int × Int)} (h : LabD D w ao n cap L) (hD : ∀ b, D b → D' b) : LabD D' w ao n cap L := by
  obtain ⟨h1, h2, h3, h4⟩ := h
  refine ⟨h1, h2, h3, fun hn => ?_⟩
  obtain ⟨b, off, e, hb, hc⟩ := h4 hn
  exact ⟨b, off, e, hD b hb, hc⟩
theorem RowD.wide {D D' : Nat → Prop} {w : World} {ao : Option Addr} {n cap : Nat} {R : List (List (Int × Int))} (h : RowD D w ao n cap R) (hD : ∀ b, D b → D' b) : RowD D' w ao n cap R := by
  obtain ⟨h1, h2, h3, h4⟩ := h
  refine ⟨h1, h2, h3, fun hn => ?_⟩
  obtain ⟨b, off, e, hb, hc⟩ := h4 hn
  refine ⟨b, off, e, hD b hb, fun i hi => ?_⟩
  obtain ⟨a, m, c, q1, q2⟩ := hc i hi
  exact ⟨a, m, c, q1, q2.wide hD⟩
theorem IntD.wide {D D' : Nat → Prop} {w : World} {ao : Option Addr} {n cap : Nat} {C : List Int} (h : IntD D w ao n cap C) (hD : ∀ b, D b → D' b) : IntD D' w ao n cap C := by
  obtain ⟨h1, h2, h3, h4⟩ := h
  refine ⟨h1, h2, h3, fun hn => ?_⟩
  obtain ⟨b, off, e, hb, hc⟩ := h4 hn
  exact ⟨b, off, e, hD b hb, hc⟩
/-- A table: its two rows, in blocks of which D holds. -/
def TabD (D : Nat → Prop) (w : World) (a : Option Addr) (n c : Nat) (a' : Option Addr) (n' c' : Nat) (LL : List (List (Int × Int))) (CC : List Int) : Prop := RowD D w a n c LL ∧ IntD D w a' n' c' CC
theorem TabD.later {D : Nat → Prop} {w w' : World} {a a' : Option Addr} {n c n' c' : Nat} {LL : List (List (Int × Int))} {CC : List Int} (h : TabD D w a n c a' n' c' LL CC) (k : Keeps D w w') : TabD D w' a n c a' n' c' LL CC := ⟨h.1.later k, h.2.later k⟩
theorem TabD.wide {D D' : Nat → Prop} {w : World} {a a' : Option Addr} {n c n' c' : Nat} {LL : List (List (Int × Int))} {CC : List Int} (h : TabD D w a n c a' n' c' LL CC) (hD : ∀ b, D b → D' b) : TabD D' w a n c a' n' c' LL CC := ⟨h.1.wide hD, h.2.wide hD⟩
/-- A table with as many labels as counts, anywhere in memory. -/
def Tab (w : World) (a : Option Addr) (n c : Nat) (a' : Option Addr) (c' : Nat) (Z : Zt) : Prop := TabD (fun b => b < w.heap.size) w a n c a' n c' (Z.map (·.1)) (Z.map (·.2))
theorem TabD.next {w w' : World} {a a' : Option Addr} {n c n' c' : Nat} {LL : List (List (Int × Int))} {CC : List Int} (h : TabD (fun b => b < w.heap.size) w a n c a' n' c' LL CC) (k : Below w.heap.size w w') : TabD (fun b => b < w'.heap.size) w' a n c a' n' c' LL CC :=
  (h.later (keeps_of_below k)).wide (fun b hb => Nat.lt_of_lt_of_le hb k.size)
theorem Tab.next {w w' : World} {a a' : Option Addr} {n c c' : Nat} {Z : Zt} (h : Tab w a n c a' c' Z) (k : Below w.heap.size w w') : Tab w' a n c a' c' Z := TabD.next h k
theorem Tab.len {w : World} {a a' : Option Addr} {n c c' : Nat} {Z : Zt} (h : Tab w a n c a' c' Z) : Z.length = n := by have := h.1.1; simpa using this
theorem zat_fst (Z : Zt) (i : Nat) : (Z.map (·.1)).getD i [] = (zat Z i).1 := by
  unfold zat; rw [List.getD_eq_getElem?_getD, List.getD_eq_getElem?_getD, List.getElem?_map]; cases Z[i]? <;> rfl
theorem zat_snd (Z : Zt) (i : Nat) : (Z.map (·.2)).getD i 0 = (zat Z i).2 := by
  unfold zat; rw [List.getD_eq_getElem?_getD, List.getD_eq_getElem?_getD, List.getElem?_map]; cases Z[i]? <;> rfl
/-- One place of a table. -/
theorem TabD.at {D : Nat → Prop} {w : World} {a a' : Option Addr} {n c c' : Nat} {Z : Zt} (h : TabD D w a n c a' n c' (Z.map (·.1)) (Z.map (·.2))) {i : Nat} (hi : i < n) :
    ∃ b off b' off' ai ki ci, a = some ⟨b, off, none⟩ ∧ a' = some ⟨b', off', none⟩ ∧ D b ∧ D b' ∧ w.cell? ⟨b, off + i, none⟩ = some (.slice ai ki ci) ∧ w.cell? ⟨b', off' + i, none⟩ = some (.int .i64 (zat Z i).2) ∧ LabD D w ai ki ci (zat Z i).1 := by
  obtain ⟨b, off, e, hb, hc⟩ := h.1.2.2.2 (by omega)
  obtain ⟨b', off', e', hb', hc'⟩ := h.2.2.2.2 (by omega)
  obtain ⟨ai, ki, ci, q1, q2⟩ := hc i hi
  have q3 := hc' i hi
  rw [zat_snd] at q3
  rw [zat_fst] at q2
  exact ⟨b, off, b', off', ai, ki, ci, e, e', hb, hb', q1, q3, q2⟩

theorem places_any (a a' : Option Addr) (n c c' : Nat) (w : World) (hn : n ≤ 9223372036854775807) :
    Calls Try.prog 11 #[.agg #[.slice a n c, .slice a' n c']] w fun e w' => e = .returned (.int .i64 n) ∧ Below w.heap.size w w' := by
  go_enter Try.func11, Try.ntmps11
  go_wp2
  go_ret
  exact ⟨by simp, (Below.refl _ w).alloc (Nat.le_refl _) _⟩

theorem lab_news {D : Nat → Prop} {w : World} {ao : Option Addr} {k cap : Nat} {A : List (Int × Int)} (hA : LabD D w ao k cap A) (hk : 0 < k) : ∀ ad, ao = some ad → ∀ j u, (cellsOf A)[j]? = some u → w.cell? (ad.add j) = some u := by
  obtain ⟨b, off, rfl, hbB, hc⟩ := hA.2.2.2 hk
  have hl := hA.1
  intro ad e j u hj
  cases e
  have ea : (⟨b, off, none⟩ : Addr).add j = ⟨b, off + j, none⟩ := by unfold Addr.add; split <;> simp_all
  rw [ea]
  have hj2 : j < A.length * 2 := by
    rw [← cellsOf_length]
    exact (List.getElem?_eq_some_iff.1 hj).1
  obtain ⟨i, hi2⟩ : ∃ i, j = i * 2 ∨ j = i * 2 + 1 := ⟨j / 2, by omega⟩
  rcases hi2 with rfl | rfl
  · have h1 := (cellsOf_at A i (by omega)).1
    rw [hj] at h1
    cases h1
    exact (hc i (by omega)).1
  · have h1 := (cellsOf_at A i (by omega)).2
    rw [hj] at h1
    cases h1
    exact (hc i (by omega)).2
theorem icopied_any {w : World} {ao : Option Addr} {k cap : Nat} {A : List (Int × Int)} (hA : Lab w.heap.size w ao k cap A) (hk : k < 274877906944) :
    Calls Try.prog 23 #[.slice ao k cap] w fun e w' => ∃ ao1 cap1, e = .returned (.slice ao1 k cap1) ∧ OwnL w.heap.size w' ao1 k cap1 A ∧ Below w.heap.size w w' := by
  obtain ⟨i0, hi, hz0, hz1, hz2⟩ := info_parts infoPair
  by_cases h0 : k = 0
  · subst h0
    have hA0 : A = [] := List.eq_nil_of_length_eq_zero hA.1
    subst hA0
    cases ao with
    | none =>
      have hz := hA.2.2.1.2 rfl
      subst hz
      clear hA
      go_enter Try.func23, Try.ntmps23
      go_wp2_with (at_builtin; refine wpList_append_own_none rfl _ _ 29 rfl w.heap.size 41 i0 2 Try.underlying29 hi _ _ _ rfl (World.ownsRow_nil _ _ _ _) rfl ?_)
      go_ret
      exact ⟨_, _, rfl, OwnL.nil _ _, Below.refl _ _⟩
    | some a =>
      clear hA
      go_enter Try.func23, Try.ntmps23
      go_wp2_with (at_builtin; refine wpList_append_own _ rfl _ _ 29 rfl w.heap.size 41 i0 (.agg #[.int .u64 0, .int .i64 0]) 2 16 Try.underlying29 hi hz0 hz1 hz2 rfl (by decide) _ _ _ rfl (World.ownsRow_nil _ _ _ _) a 0 cap [] rfl rfl (fun j u h => by simp at h) (fun u h => by cases h) (by unfold maxLen; omega) (by omega) (Nat.le_refl _) ?_; intro v' w1 hown' hgrow hnil; obtain rfl := hnil.2 ⟨rfl, rfl⟩)
      go_ret
      exact ⟨_, _, rfl, OwnL.nil _ _, (Below.refl _ _).grown hgrow (Nat.le_refl _) (fun j e => by have e' : none = some j := e; cases e')⟩
  · have hn := lab_news hA (by omega)
    obtain ⟨b, off, rfl, hbB, hc⟩ := hA.2.2.2 (by omega)
    have hl := hA.1
    have HL : Hid (A.length = k) := hl
    have HN : Hid (∀ j u, (cellsOf A)[j]? = some u → w.cell? ((⟨b, off, none⟩ : Addr).add j) = some u) := hn _ rfl
    clear hA hc hn hl
    go_enter Try.func23, Try.ntmps23
    go_wp2_with (at_builtin; refine wpList_append_own _ rfl _ _ 29 rfl w.heap.size 41 i0 (.agg #[.int .u64 0, .int .i64 0]) 2 16 Try.underlying29 hi hz0 hz1 hz2 rfl (by decide) _ _ _ rfl (World.ownsRow_nil _ _ _ _) ⟨b, off, none⟩ k cap (cellsOf A) rfl (by rw [cellsOf_length, HL.out]) HN.out (cellsOf_one A) (by unfold maxLen; omega) (by omega) (Nat.le_refl _) ?_; intro v' w1 hown' hgrow _)
    obtain ⟨g, cap2, rfl⟩ := ownsRow_pos (by omega) hown'
    go_ret
    simp only [Nat.zero_add, List.nil_append] at hown' ⊢
    exact ⟨_, _, rfl, ⟨HL.out, hown'⟩, (Below.refl _ _).grown hgrow (Nat.le_refl _) (fun j e => by have e' : none = some j := e; cases e')⟩

theorem mayKeep_any {w : World} {ao : Option Addr} {k cap : Nat} {A : List (Int × Int)} (hA : Lab w.heap.size w ao k cap A) :
    Calls Try.prog 18 #[.slice ao k cap] w fun e w' => e = .returned (.bool (keepB A)) ∧ Below w.heap.size w w' := by
  have hl := hA.1
  by_cases h16 : (k : Int) ≤ 16
  · have hk : keepB A = fitB A := by unfold keepB; rw [decide_eq_true (by omega)]; rfl
    rw [hk]
    go_enter Try.func18, Try.ntmps18
    go_wp2_with (go_at_call 26; refine (lfit_any hA (Nat.le_refl _)).mono ?_; rintro e w1 ⟨rfl, hb1⟩)
    go_ret
    exact ⟨rfl, hb1⟩
  · have hk : keepB A = false := by unfold keepB; rw [decide_eq_false (by omega)]; rfl
    rw [hk]
    go_enter Try.func18, Try.ntmps18
    go_wp2
    go_ret
    exact ⟨rfl, Below.refl _ _⟩
theorem isAsked_any {w : World} {a a' : Option Addr} {n c c' : Nat} {Z : Zt} (x : Int) (hT : Tab w a n c a' c' Z) :
    Calls Try.prog 21 #[.agg #[.slice a n c, .slice a' n c'], .int .i64 x] w fun e w' => e = .returned (.bool (asksB Z x)) ∧ Below w.heap.size w w' := by
  have hl := hT.len
  have hcm := hT.2.2.2.1.1
  have hnc := hT.2.2.1
  have hb0 : Below w.heap.size w (w.alloc (.cells #[.slice a n c, .slice a' n c'] 27)) := (Below.refl _ w).alloc (Nat.le_refl _) _
  by_cases h0 : 0 ≤ x
  · obtain ⟨m, rfl⟩ : ∃ m : Nat, x = m := ⟨x.toNat, by omega⟩
    by_cases h1 : (m : Int) < n
    · obtain ⟨b, off, b', off', ai, ki, ci, rfl, rfl, hB, hB', q1, q3, q2⟩ := TabD.at hT (i := m) (by omega)
      obtain ⟨y, hy⟩ : ∃ y, Hid ((zat Z m).2 = y) := ⟨_, rfl⟩
      rw [hy.out] at q3
      have hr : asksB Z (m : Int) = !decide (y = 0) := by
        unfold asksB; rw [show ((m : Int)).toNat = m from rfl, hy.out]; simp; omega
      rw [hr]
      clear hT q1 q2
      by_cases hy0 : y = 0
      · subst hy0
        go_enter Try.func21, Try.ntmps21
        go_wp2_with (go_at_call 11; refine (places_any _ _ _ _ _ _ (by omega)).mono ?_; rintro e w1 ⟨rfl, hb1⟩; have hb2 := hb0.trans (hb1.mono hb0.size); have q4 := (hb2.cell (p := ⟨b', off' + m, none⟩) hB').trans q3; have q5 := (hb1.cell (p := ⟨w.heap.size, 1, none⟩) (by simp)).trans (show (w.alloc (.cells #[.slice (some ⟨b, off, none⟩) n c, .slice (some ⟨b', off', none⟩) n c'] 27)).cell? ⟨w.heap.size, 1, none⟩ = some (.slice (some ⟨b', off', none⟩) n c') from by simp))
        go_ret
        exact ⟨rfl, hb2⟩
      · have hy1 : (y == 0) = false := by simpa using hy0
        go_enter Try.func21, Try.ntmps21
        go_wp2_with (go_at_call 11; refine (places_any _ _ _ _ _ _ (by omega)).mono ?_; rintro e w1 ⟨rfl, hb1⟩; have hb2 := hb0.trans (hb1.mono hb0.size); have q4 := (hb2.cell (p := ⟨b', off' + m, none⟩) hB').trans q3; have q5 := (hb1.cell (p := ⟨w.heap.size, 1, none⟩) (by simp)).trans (show (w.alloc (.cells #[.slice (some ⟨b, off, none⟩) n c, .slice (some ⟨b', off', none⟩) n c'] 27)).cell? ⟨w.heap.size, 1, none⟩ = some (.slice (some ⟨b', off', none⟩) n c') from by simp))
        go_ret
        exact ⟨by simp [hy0], hb2⟩
    · have hr : asksB Z (m : Int) = false := by unfold asksB; rw [hl, decide_eq_false h1]; simp
      rw [hr]
      clear hT
      go_enter Try.func21, Try.ntmps21
      go_wp2_with (go_at_call 11; refine (places_any _ _ _ _ _ _ (by omega)).mono ?_; rintro e w1 ⟨rfl, hb1⟩; have hb2 := hb0.trans (hb1.mono hb0.size))
      go_ret
      exact ⟨rfl, hb2⟩
  · have hr : asksB Z x = false := by unfold asksB; rw [decide_eq_false h0]; rfl
    rw [hr]
    clear hT
    go_enter Try.func21, Try.ntmps21
    go_wp2
    go_ret
    exact ⟨rfl, hb0⟩
end Go.Proofs.Ytjkncajcmdlmgaa
