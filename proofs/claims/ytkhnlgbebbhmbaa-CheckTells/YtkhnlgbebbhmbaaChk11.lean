/-
  PROVED HERE: the document's answers to label in the terms of labels' levels (contracts over this translation), and plain facts on what exceeds what (no Go text). The labels are fit.
-/
import Derived.Test.YtkhnlgbebbhmbaaChk10
import Derived.Test.YtkhnlgbebbhmbaaLabMath2
import Derived.Test.YtkhnlgbebbhmbaaLabRef3
namespace Go.Proofs.Ytkhnlgbebbhmbaa
open Go.ChangeShapes Go.WideShapes Go.ChangeAt Go.RowKit
set_option linter.unusedVariables false

theorem rleq_f {w : World} {ao ao' : Option Addr} {n n' cap cap' : Nat} {L L' : List (Int × Int)} (hL : Lab w.heap.size w ao n cap L) (hL' : Lab w.heap.size w ao' n' cap' L') (f : Fit L) (f' : Fit L') :
    Calls Try.prog 30 #[.slice ao n cap, .slice ao' n' cap'] w fun e w' => e = .returned (.bool (leqB L L')) ∧ Below w.heap.size w w' := by
  have h := rlleq_any hL hL'
  rw [rleq_eq f f'] at h
  exact h
theorem rraise_f {w : World} {ao : Option Addr} {n cap : Nat} {L : List (Int × Int)} (hL : Lab w.heap.size w ao n cap L) (hk : n < 68719476736) (f : Fit L) :
    Calls Try.prog 31 #[.slice ao n cap] w fun e w' => ∃ ao1 n1 cap1, e = .returned (.slice ao1 n1 cap1) ∧ Lab w'.heap.size w' ao1 n1 cap1 (raiseL L) ∧ n1 ≤ n ∧ Below w.heap.size w w' := by
  have h := rlraise_any hL hk
  rw [rraise_eq f] at h
  exact h
theorem rlower_f {w : World} {ao : Option Addr} {n cap : Nat} {L : List (Int × Int)} (hL : Lab w.heap.size w ao n cap L) (hk : n < 68719476736) (f : Fit L) :
    Calls Try.prog 49 #[.slice ao n cap] w fun e w' => ∃ ao1 n1 cap1, e = .returned (.slice ao1 n1 cap1) ∧ Lab w'.heap.size w' ao1 n1 cap1 (lowerL L) ∧ n1 ≤ n ∧ Below w.heap.size w w' := by
  have h := rllower_any hL hk
  rw [rlower_eq f] at h
  exact h
theorem rjoin_f {w : World} {ao ao' : Option Addr} {n n' cap cap' : Nat} {L L' : List (Int × Int)} (hL : Lab w.heap.size w ao n cap L) (hL' : Lab w.heap.size w ao' n' cap' L') (hk : n < 68719476736) (hk' : n' < 68719476736) (f : Fit L) (f' : Fit L') :
    Calls Try.prog 37 #[.slice ao n cap, .slice ao' n' cap'] w fun e w' => ∃ ao1 n1 cap1, e = .returned (.slice ao1 n1 cap1) ∧ Lab w'.heap.size w' ao1 n1 cap1 (joinL L L') ∧ n1 ≤ 2 * n + n' ∧ Below w.heap.size w w' := by
  have h := rljoin_any hL hL' hk hk'
  rw [rjoin_eq f f'] at h
  exact h
theorem rmeet_f {w : World} {ao ao' : Option Addr} {n n' cap cap' : Nat} {L L' : List (Int × Int)} (hL : Lab w.heap.size w ao n cap L) (hL' : Lab w.heap.size w ao' n' cap' L') (hk : n < 68719476736) (hk' : n' < 68719476736) (f : Fit L) (f' : Fit L') :
    Calls Try.prog 38 #[.slice ao n cap, .slice ao' n' cap'] w fun e w' => ∃ ao1 n1 cap1, e = .returned (.slice ao1 n1 cap1) ∧ Lab w'.heap.size w' ao1 n1 cap1 (meetL L L') ∧ n1 ≤ 2 * n + n' ∧ Below w.heap.size w w' := by
  have h := rlmeet_any hL hL' hk hk'
  rw [rmeet_eq f f'] at h
  exact h

theorem exc_main : ∀ (N : Nat) {A C : List (Int × Int)} {b : Int}, A.length + C.length ≤ N → Rc b A → Rc b C → Ri b (exc A C) ∧ ∀ k, (k ∈ exc A C ↔ Lv.leq (get A k) (get C k) = false) := by
  intro N
  induction N with
  | zero =>
    intro A C b hN _ _
    have hA : A = [] := List.eq_nil_of_length_eq_zero (by omega)
    have hC : C = [] := List.eq_nil_of_length_eq_zero (by omega)
    subst hA hC
    exact ⟨trivial, fun k => ⟨fun h => (by cases h), fun h => absurd (show Lv.leq 2 2 = false from h) (by decide)⟩⟩
  | succ N ih =>
    intro A C b hN hA hC
    by_cases h0 : A.length + C.length = 0
    · exact ih (by omega) hA hC
    · obtain ⟨f1, f2, f3⟩ := fore_facts (A := A) (C := C) (by omega)
      obtain ⟨a1, a2, a3⟩ := take_facts (c := fore A C) hA f1
      obtain ⟨c1, c2, c3⟩ := take_facts (c := fore A C) hC f2
      have hl := take_less (A := A) (C := C) (by omega)
      obtain ⟨i1, i2⟩ := ih (A := takeR A (fore A C)) (C := takeR C (fore A C)) (b := fore A C) (by omega) a1 c1
      have hb := f3 b hA hC
      have hno : fore A C ∉ exc (takeR A (fore A C)) (takeR C (fore A C)) := by
        rw [i2, get_low a1 (by omega), get_low c1 (by omega)]; decide
      cases hq : Lv.leq (takeV A (fore A C)) (takeV C (fore A C)) with
      | true =>
        rw [exc_miss (by omega) hq]
        refine ⟨i1.low (by omega), fun k => ?_⟩
        by_cases hk : k = fore A C
        · rw [hk]
          rw [a2, c2] at hq
          exact ⟨fun h => absurd h hno, fun h => by rw [hq] at h; cases h⟩
        · rw [i2, a3 k hk, c3 k hk]
      | false =>
        rw [exc_hit (by omega) hq]
        refine ⟨⟨hb, i1⟩, fun k => ?_⟩
        rw [a2, c2] at hq
        by_cases hk : k = fore A C
        · rw [hk]; exact ⟨fun _ => hq, fun _ => List.mem_cons_self ..⟩
        · rw [List.mem_cons, i2, a3 k hk, c3 k hk]
          exact ⟨fun h => h.resolve_left hk, .inr⟩
theorem lvleq_false {A C : List (Int × Int)} (hA : Fit A) (hC : Fit C) (k : Int) : Lv.leq (get A k) (get C k) = false ↔ get C k < get A k := by
  have h1 := hA.range k
  have h2 := hC.range k
  have : Lv.leq (get A k) (get C k) = true ↔ get A k ≤ get C k := by rw [Lv.leq_iff, Lv.lv_of h1.1 h1.2, Lv.lv_of h2.1 h2.2]
  rw [← Bool.not_eq_true, this]
  omega
theorem exc_iff {A C : List (Int × Int)} (hA : Fit A) (hC : Fit C) (k : Int) : k ∈ exc A C ↔ get C k < get A k := by
  obtain ⟨b, r⟩ := hA.rc
  obtain ⟨b', r'⟩ := hC.rc
  rw [(exc_main _ (Nat.le_refl _) (r.both_low r').1 (r.both_low r').2).2 k, lvleq_false hA hC]
theorem exc_rise {A C : List (Int × Int)} (hA : Fit A) (hC : Fit C) : ∃ b, Ri b (exc A C) := by
  obtain ⟨b, r⟩ := hA.rc
  obtain ⟨b', r'⟩ := hC.rc
  exact ⟨_, (exc_main _ (Nat.le_refl _) (r.both_low r').1 (r.both_low r').2).1⟩
theorem exc_zero {A C : List (Int × Int)} (hA : Fit A) (hC : Fit C) : (((exc A C).length : Int) == 0) = leqB A C := by
  rw [Bool.eq_iff_iff, leqB_iff hA hC]
  have : (((exc A C).length : Int) == 0) = true ↔ exc A C = [] := by simp
  rw [this]
  constructor
  · intro h k
    have := exc_iff hA hC k
    rw [h] at this
    simp at this
    exact this
  · intro h
    rcases he : exc A C with _ | ⟨c, r⟩
    · rfl
    · have := (exc_iff hA hC c).1 (by rw [he]; simp)
      have := h c
      omega
theorem exc_none {A C : List (Int × Int)} (hA : Fit A) (hC : Fit C) (h : leqB A C = true) : exc A C = [] := by
  have := exc_zero hA hC
  rw [h] at this
  simpa using this
theorem exc_some {A C : List (Int × Int)} (hA : Fit A) (hC : Fit C) (h : leqB A C = false) : 0 < (exc A C).length := by
  have := exc_zero hA hC
  rw [h] at this
  have h2 : ¬ ((exc A C).length : Int) = 0 := by simpa using this
  omega
theorem raise_ge {A : List (Int × Int)} (hA : Fit A) (k : Int) : get A k ≤ get (raiseL A) k := by
  rw [raiseL_get hA]
  have := hA.range k
  split <;> omega
theorem raise_plain {A : List (Int × Int)} (hA : Fit A) {k : Int} (h : get A k ≠ 0) : get (raiseL A) k = get A k := by rw [raiseL_get hA, if_neg h]
theorem not_leq {A C : List (Int × Int)} (hA : Fit A) (hC : Fit C) (h : leqB A C = false) : ∃ k, get C k < get A k := by
  have h2 := exc_some hA hC h
  rcases he : exc A C with _ | ⟨c, r⟩
  · rw [he] at h2; simp at h2
  · exact ⟨c, (exc_iff hA hC c).1 (by rw [he]; simp)⟩
theorem ownsB_of {A B : List (Int × Int)} {C : List Int} (h : ∀ c ∈ C, get A c = 0 ∨ get B c = 0) : ownsB A B C = true := by
  unfold ownsB
  rw [List.all_eq_true]
  intro c hc
  simpa using h c hc
theorem abv_get {A : List (Int × Int)} (hA : Fit A) (h : abvB A = false) (k : Int) : get A k ≠ 5 := by
  intro e
  obtain ⟨p, hp, h1, h2⟩ := mem_of_get (L := A) (k := k) (by omega)
  unfold abvB at h
  rw [List.any_eq_false] at h
  have := h p hp
  simp at this
  omega
theorem own_none {A : List (Int × Int)} (hA : Fit A) (h : owned A = []) : raiseL A = A := by
  obtain ⟨b, r⟩ := hA.rc
  refine ext (raiseL_fit hA) hA fun k => ?_
  refine raise_plain hA fun e => ?_
  have := (owned_mem r k).2 e
  rw [h] at this
  cases this
theorem joinNil_fit {A : List (Int × Int)} (hA : Fit A) : Fit (joinL (raiseL A) []) := joinL_fit (raiseL_fit hA) Fit.nil
end Go.Proofs.Ytkhnlgbebbhmbaa
