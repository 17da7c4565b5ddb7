/-
  PROVED HERE: the document's answer to Hides is the categories in which a label exceeds another, rising (no Go text). The labels are fit.
-/
import Derived.Test.YtkhnlgbebbhmbaaChk15
namespace Go.Proofs.Ytkhnlgbebbhmbaa
open Go.ChangeShapes Go.WideShapes Go.ChangeAt Go.RowKit
set_option linter.unusedVariables false

theorem Ri.mem : ∀ {C : List Int} {b c : Int}, Ri b C → c ∈ C → b < c := by
  intro C
  induction C with
  | nil => intro b c _ h; cases h
  | cons x r ih =>
    intro b c h hm
    rcases List.mem_cons.1 hm with rfl | hm
    · exact h.1
    · have := ih h.2 hm
      have := h.1
      omega
theorem Ri.ext : ∀ {A C : List Int} {b b' : Int}, Ri b A → Ri b' C → (∀ c, c ∈ A ↔ c ∈ C) → A = C := by
  intro A
  induction A with
  | nil =>
    intro C b b' _ _ h
    cases C with
    | nil => rfl
    | cons c s => exact absurd ((h c).2 (by simp)) (by simp)
  | cons a r ih =>
    intro C b b' hA hC h
    cases C with
    | nil => exact absurd ((h a).1 (by simp)) (by simp)
    | cons c s =>
      have hac : a = c := by
        rcases List.mem_cons.1 ((h a).1 (by simp)) with e | e
        · exact e
        · rcases List.mem_cons.1 ((h c).2 (by simp)) with e' | e'
          · exact e'.symm
          · have h1 := Ri.mem hC.2 e
            have h2 := Ri.mem hA.2 e'
            omega
      subst hac
      have : r = s := ih hA.2 hC.2 fun d => by
        have hd := h d
        simp only [List.mem_cons] at hd
        constructor
        · intro k
          have := Ri.mem hA.2 k
          exact (hd.1 (.inr k)).resolve_left (by omega)
        · intro k
          have := Ri.mem hC.2 k
          exact (hd.2 (.inr k)).resolve_left (by omega)
      rw [this]
theorem il_true {x : Int} : ∀ {C : List Int}, Ri x C → il x true C = C := by
  intro C
  induction C with
  | nil => intro _; simp [il]
  | cons c r ih =>
    intro h
    have hc : ¬ c = x := by have := h.1; omega
    have := ih (h.2.low (by have := h.1; omega))
    simp [il, hc, this]
theorem il_false {x : Int} : ∀ {C : List Int} {b : Int}, Ri b C → b < x → Ri b (il x false C) ∧ ∀ y, (y ∈ il x false C ↔ y = x ∨ y ∈ C) := by
  intro C
  induction C with
  | nil => intro b _ hx; exact ⟨⟨hx, trivial⟩, fun y => by simp [il]⟩
  | cons c r ih =>
    intro b h hx
    by_cases hxc : x ≤ c
    · by_cases he : c = x
      · subst he
        have e : il c false (c :: r) = c :: r := by simp [il, il_true h.2]
        rw [e]
        exact ⟨h, fun y => by simp⟩
      · have e : il x false (c :: r) = x :: c :: r := by simp [il, hxc, he, il_true (h.2.low hxc)]
        rw [e]
        exact ⟨⟨hx, by omega, h.2⟩, fun y => by simp⟩
    · have e : il x false (c :: r) = c :: il x false r := by
        have he : ¬ c = x := by omega
        simp [il, hxc, he]
      rw [e]
      obtain ⟨i1, i2⟩ := ih h.2 (by omega)
      refine ⟨⟨h.1, i1⟩, fun y => ?_⟩
      rw [List.mem_cons, i2, List.mem_cons]
      constructor
      · rintro (h | h | h)
        · exact .inr (.inl h)
        · exact .inl h
        · exact .inr (.inr h)
      · rintro (h | h | h)
        · exact .inr (.inl h)
        · exact .inl h
        · exact .inr (.inr h)
theorem filt_ri {f : Int × Int → Bool} : ∀ {U : List (Int × Int)} {b : Int}, Rc b U → Ri b ((U.filter f).map Prod.fst) := by
  intro U
  induction U with
  | nil => intro b _; trivial
  | cons p r ih =>
    intro b h
    have hi := ih h.2
    by_cases hf : f p = true
    · rw [List.filter_cons_of_pos hf, List.map_cons]
      exact ⟨h.1, hi⟩
    · rw [List.filter_cons_of_neg hf]
      exact hi.low (by have := h.1; omega)
theorem Rc.mem : ∀ {U : List (Int × Int)} {b : Int} {p : Int × Int}, Rc b U → p ∈ U → b < p.1 := by
  intro U
  induction U with
  | nil => intro b p _ h; cases h
  | cons q r ih =>
    intro b p h hm
    rcases List.mem_cons.1 hm with rfl | hm
    · exact h.1
    · have := ih h.2 hm
      have := h.1
      omega
theorem h2_fold {U T : List (Int × Int)} {b : Int} : ∀ (Q : List (Int × Int)) (acc : List Int), Ri b acc → (∀ q ∈ Q, b < q.1) →
    Ri b (Q.foldl (h2s U T) acc) ∧ ∀ c, (c ∈ Q.foldl (h2s U T) acc ↔ c ∈ acc ∨ ∃ q ∈ Q, q.1 = c ∧ q.2 < get U c ∧ get T c = 2) := by
  intro Q
  induction Q with
  | nil => intro acc h _; exact ⟨h, fun c => by simp⟩
  | cons q r ih =>
    intro acc h hq
    have hq0 := hq q (by simp)
    rw [List.foldl_cons]
    by_cases hc : q.2 < get U q.1 ∧ get T q.1 = 2
    · have e : h2s U T acc q = insL acc q.1 := by unfold h2s; rw [if_pos hc]
      rw [e]
      obtain ⟨j1, j2⟩ := il_false h hq0
      obtain ⟨i1, i2⟩ := ih (insL acc q.1) j1 fun x hx => hq x (by simp [hx])
      refine ⟨i1, fun c => ?_⟩
      rw [i2]
      have : c ∈ insL acc q.1 ↔ c = q.1 ∨ c ∈ acc := j2 c
      rw [this]
      constructor
      · rintro ((rfl | h) | ⟨x, hx, h⟩)
        · exact .inr ⟨q, by simp, rfl, hc⟩
        · exact .inl h
        · exact .inr ⟨x, by simp [hx], h⟩
      · rintro (h | ⟨x, hx, h⟩)
        · exact .inl (.inr h)
        · rcases List.mem_cons.1 hx with rfl | hx
          · exact .inl (.inl h.1.symm)
          · exact .inr ⟨x, hx, h⟩
    · have e : h2s U T acc q = acc := by unfold h2s; rw [if_neg hc]
      rw [e]
      obtain ⟨i1, i2⟩ := ih acc h fun x hx => hq x (by simp [hx])
      refine ⟨i1, fun c => ?_⟩
      rw [i2]
      constructor
      · rintro (h | ⟨x, hx, h⟩)
        · exact .inl h
        · exact .inr ⟨x, by simp [hx], h⟩
      · rintro (h | ⟨x, hx, h⟩)
        · exact .inl h
        · rcases List.mem_cons.1 hx with rfl | hx
          · exfalso
            obtain ⟨h1, h2, h3⟩ := h
            exact hc ⟨by rw [h1]; exact h2, by rw [h1]; exact h3⟩
          · exact .inr ⟨x, hx, h⟩
theorem hides_eq {T W : List (Int × Int)} (hT : Fit T) (hW : Fit W) : h2 (raiseL T) T W W.length = exc (raiseL T) W := by
  have fU := raiseL_fit hT
  obtain ⟨b0, rU0⟩ := fU.rc
  obtain ⟨b1, rW0⟩ := hW.rc
  obtain ⟨rU, rW⟩ := rU0.both_low rW0
  obtain ⟨bE, rE⟩ := exc_rise fU hW
  have e1 : h2 (raiseL T) T W W.length = W.foldl (h2s (raiseL T) T) (((raiseL T).filter fun p => decide (get W p.1 < p.2)).map Prod.fst) := by
    unfold h2 h1
    rw [List.take_length, List.take_length]
  rw [e1]
  obtain ⟨i1, i2⟩ := h2_fold (U := raiseL T) (T := T) W (((raiseL T).filter fun p => decide (get W p.1 < p.2)).map Prod.fst) (filt_ri rU) (fun q hq => Rc.mem rW hq)
  refine Ri.ext i1 rE fun c => ?_
  rw [i2, exc_iff fU hW]
  constructor
  · rintro (h | ⟨q, hq, h1, h2, h3⟩)
    · obtain ⟨p, hp, rfl⟩ := List.mem_map.1 h
      obtain ⟨hp1, hp2⟩ := List.mem_filter.1 hp
      rw [get_mem rU hp1]
      simpa using hp2
    · rw [← h1, get_mem rW hq, h1]
      exact h2
  · intro h
    by_cases hu : get (raiseL T) c = 2
    · right
      have hw : get W c ≠ 2 := by omega
      obtain ⟨q, hq, h1, h2⟩ := mem_of_get hw
      refine ⟨q, hq, h1, by rw [h2]; exact h, ?_⟩
      rw [raiseL_get hT] at hu
      split at hu <;> omega
    · left
      obtain ⟨p, hp, h1, h2⟩ := mem_of_get hu
      exact List.mem_map.2 ⟨p, List.mem_filter.2 ⟨hp, by rw [h1, h2]; simpa using h⟩, h1⟩

theorem rhides_f {w : World} {a1 a2 : Option Addr} {n1 n2 c1 c2 : Nat} {T W : List (Int × Int)} (hT : Lab w.heap.size w a1 n1 c1 T) (hW : Lab w.heap.size w a2 n2 c2 W) (k1 : n1 < 1048576) (k2 : n2 < 1048576) (fT : Fit T) (fW : Fit W) :
    Calls Try.prog 29 #[.slice a1 n1 c1, .slice a2 n2 c2] w fun e w' => ∃ ao m cap, e = .returned (.slice ao m cap) ∧ Cts w'.heap.size w' ao m cap (exc (raiseL T) W) ∧ Below w.heap.size w w' := by
  have h := rhides_any hT hW k1 k2 fT
  rw [hides_eq fT fW] at h
  exact h
end Go.Proofs.Ytkhnlgbebbhmbaa
