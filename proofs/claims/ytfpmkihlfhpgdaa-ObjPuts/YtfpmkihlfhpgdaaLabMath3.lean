/-
  PROVED HERE: plain facts on labels as lists of pairs of integers (no Go text), the fifth part: the document's answers are the labels' levels. No condition.
-/
import Derived.Test.YtfpmkihlfhpgdaaLabMath2
import Derived.Test.YtfpmkihlfhpgdaaLabRef2
import Derived.Test.YtfpmkihlfhpgdaaLabRef3
namespace Go.Proofs.Ytfpmkihlfhpgdaa

theorem wl_main (c l : Int) : ∀ (L : List (Int × Int)) (b : Int) (d : Bool), Rc b L → (d = true ∨ b < c) → Rc b (wl c l d L) ∧ (∀ k, get (wl c l d L) k = if k = c then (if d = true then 2 else l) else get L k) ∧ ∀ q ∈ wl c l d L, q ∈ L ∨ d = false ∧ q = (c, l) := by
  intro L
  induction L with
  | nil =>
    intro b d _ hd
    cases d with
    | true => exact ⟨trivial, fun k => (by simp [wl, get]), fun q hq => (by simp [wl] at hq)⟩
    | false =>
      refine ⟨?_, fun k => ?_, fun q hq => .inr ⟨rfl, by simpa [wl] using hq⟩⟩
      · rcases hd with h | h
        · cases h
        · exact ⟨h, trivial⟩
      · by_cases hk : k = c
        · subst hk; simp [wl, get]
        · simp [wl, get, hk]; intro h; exact absurd h.symm hk
  | cons p r ih =>
    intro b d hR hd
    have hbp := hR.1
    cases d with
    | true =>
      obtain ⟨i1, i2, i3⟩ := ih p.1 true hR.2 (.inl rfl)
      by_cases hpc : p.1 = c
      · have e : wl c l true (p :: r) = wl c l true r := by simp [wl, hpc]
        rw [e]
        refine ⟨i1.low (by omega), fun k => ?_, fun q hq => ?_⟩
        · rw [i2]
          by_cases hk : k = c
          · simp [hk]
          · simp only [get]; rw [if_neg hk, if_neg hk, if_neg (by omega)]
        · rcases i3 q hq with h | h
          · exact .inl (by simp [h])
          · exact .inr h
      · have e : wl c l true (p :: r) = p :: wl c l true r := by simp [wl, hpc]
        rw [e]
        refine ⟨⟨hbp, i1⟩, fun k => ?_, fun q hq => ?_⟩
        · simp only [get]
          rw [i2]
          by_cases hk : k = c
          · rw [if_neg (by omega)]; simp [hk]
          · rw [if_neg hk, if_neg hk]
        · rcases List.mem_cons.1 hq with rfl | hq
          · exact .inl (by simp)
          · rcases i3 q hq with h | h
            · exact .inl (by simp [h])
            · exact .inr h
    | false =>
      have hbc : b < c := by rcases hd with h | h; cases h; exact h
      by_cases hcp : c < p.1
      · obtain ⟨i1, i2, i3⟩ := ih p.1 true hR.2 (.inl rfl)
        have hpc : ¬ p.1 = c := by omega
        have e : wl c l false (p :: r) = (c, l) :: p :: wl c l true r := by simp [wl, hpc, hcp]
        rw [e]
        refine ⟨⟨hbc, hcp, i1⟩, fun k => ?_, fun q hq => ?_⟩
        · simp only [get]
          rw [i2]
          by_cases hk : k = c
          · rw [if_pos hk.symm, if_pos hk]; rfl
          · rw [if_neg (fun h => hk h.symm), if_neg hk, if_neg hk]
        · rcases List.mem_cons.1 hq with rfl | hq
          · exact .inr ⟨rfl, rfl⟩
          · rcases List.mem_cons.1 hq with rfl | hq
            · exact .inl (by simp)
            · rcases i3 q hq with h | h
              · exact .inl (by simp [h])
              · exact absurd h.1 (by simp)
      · by_cases hpc : p.1 = c
        · obtain ⟨i1, i2, i3⟩ := ih (c - 1) false (hR.2.low (by omega)) (.inr (by omega))
          have e : wl c l false (p :: r) = wl c l false r := by simp [wl, hpc]
          rw [e]
          refine ⟨i1.low (by omega), fun k => ?_, fun q hq => ?_⟩
          · rw [i2]
            by_cases hk : k = c
            · simp [hk]
            · simp only [get]; rw [if_neg hk, if_neg hk, if_neg (by omega)]
          · rcases i3 q hq with h | h
            · exact .inl (by simp [h])
            · exact .inr h
        · obtain ⟨i1, i2, i3⟩ := ih p.1 false hR.2 (.inr (by omega))
          have e : wl c l false (p :: r) = p :: wl c l false r := by simp [wl, hpc, hcp]
          rw [e]
          refine ⟨⟨hbp, i1⟩, fun k => ?_, fun q hq => ?_⟩
          · simp only [get]
            rw [i2]
            by_cases hk : k = c
            · rw [if_neg (by omega), if_pos hk, if_pos hk]
            · rw [if_neg hk, if_neg hk]
          · rcases List.mem_cons.1 hq with rfl | hq
            · exact .inl (by simp)
            · rcases i3 q hq with h | h
              · exact .inl (by simp [h])
              · exact .inr h
theorem rwith_facts {L : List (Int × Int)} (hL : Fit L) {c l : Int} (hl : 0 ≤ l ∧ l ≤ 5) : Fit (rwithL L c l) ∧ ∀ k, get (rwithL L c l) k = if k = c then l else get L k := by
  obtain ⟨⟨b, r⟩, lv⟩ := hL
  obtain ⟨h1, h2, h3⟩ := wl_main c l L (min b (c - 1)) (l == 2) (r.low (by omega)) (.inr (by omega))
  unfold rwithL
  refine ⟨⟨⟨_, h1⟩, fun q hq => ?_⟩, fun k => ?_⟩
  · rcases h3 q hq with h | ⟨h, rfl⟩
    · exact lv q h
    · exact ⟨hl.1, hl.2, by simpa using h⟩
  · rw [h2]
    by_cases h : l = 2
    · subst h; simp
    · have : (l == 2) = false := by simpa using h
      rw [this]; simp
theorem fit_of_lv {l : Int} (h : Lv.fit l = true) : 0 ≤ l ∧ l ≤ 5 := by simpa [Lv.fit] using h
theorem rwith_put {A : List (Int × Int)} (hA : Fit A) {c l : Int} (hl : Lv.fit l = true) : rwithL A c l = putL A c l := by
  obtain ⟨h1, h2⟩ := rwith_facts hA (c := c) (fit_of_lv hl)
  exact ext h1 (putL_fit hA hl) fun k => by rw [h2, putL_get hA]
theorem mem_of_get {L : List (Int × Int)} {k : Int} (h : get L k ≠ 2) : ∃ p ∈ L, p.1 = k ∧ p.2 = get L k := by
  induction L with
  | nil => simp [get] at h
  | cons p r ih =>
    simp only [get] at h ⊢
    by_cases hp : p.1 = k
    · rw [if_pos hp]; exact ⟨p, by simp, hp, rfl⟩
    · rw [if_neg hp] at h ⊢
      obtain ⟨q, h1, h2, h3⟩ := ih h
      exact ⟨q, by simp [h1], h2, h3⟩
theorem rleq_eq {A C : List (Int × Int)} (hA : Fit A) (hC : Fit C) : rleqB A C = leqB A C := by
  obtain ⟨b, rA⟩ := hA.rc
  obtain ⟨b', rC⟩ := hC.rc
  have key : ∀ k, Lv.leq (get A k) (get C k) = true ↔ get A k ≤ get C k := by
    intro k
    have h1 := hA.range k
    have h2 := hC.range k
    rw [Lv.leq_iff, Lv.lv_of h1.1 h1.2, Lv.lv_of h2.1 h2.2]
  rw [Bool.eq_iff_iff, leqB_iff hA hC]
  unfold rleqB
  rw [Bool.and_eq_true, List.all_eq_true, List.all_eq_true]
  constructor
  · rintro ⟨h1, h2⟩ k
    by_cases hk : get A k = 2
    · by_cases hk' : get C k = 2
      · omega
      · obtain ⟨q, hq, rfl, e⟩ := mem_of_get hk'
        have := h2 q hq
        rw [e] at this
        exact (key _).1 this
    · obtain ⟨p, hp, rfl, e⟩ := mem_of_get hk
      have := h1 p hp
      rw [e] at this
      exact (key _).1 this
  · intro h
    refine ⟨fun p hp => ?_, fun q hq => ?_⟩
    · have e := get_mem rA hp
      have := (key p.1).2 (h p.1)
      rwa [e] at this
    · have e := get_mem rC hq
      have := (key q.1).2 (h q.1)
      rwa [e] at this
theorem set_all (J : Int → Int) (hJ : ∀ k, 0 ≤ J k ∧ J k ≤ 5) (f : Int × Int → Int) : ∀ (ps O : List (Int × Int)), (∀ p ∈ ps, f p = J p.1) → Fit O →
    Fit (ps.foldl (fun O p => rwithL O p.1 (f p)) O) ∧ ∀ k, get (ps.foldl (fun O p => rwithL O p.1 (f p)) O) k = if k ∈ ps.map Prod.fst then J k else get O k := by
  intro ps
  induction ps with
  | nil => intro O _ hO; exact ⟨hO, fun k => by simp⟩
  | cons p r ih =>
    intro O hf hO
    have hp := hf p (by simp)
    obtain ⟨h1, h2⟩ := rwith_facts hO (c := p.1) (l := f p) (by rw [hp]; exact hJ p.1)
    obtain ⟨i1, i2⟩ := ih (rwithL O p.1 (f p)) (fun q hq => hf q (by simp [hq])) h1
    refine ⟨i1, fun k => ?_⟩
    simp only [List.foldl_cons]
    rw [i2, h2, hp]
    rw [List.map_cons]
    by_cases hm : k ∈ r.map Prod.fst
    · rw [if_pos hm, if_pos (List.mem_cons_of_mem _ hm)]
    · rw [if_neg hm]
      by_cases hk : k = p.1
      · subst hk; rw [if_pos rfl, if_pos (List.mem_cons_self)]
      · rw [if_neg hk, if_neg (fun h => (List.mem_cons.1 h).elim hk hm)]
theorem get_two {L : List (Int × Int)} {k : Int} (h : k ∉ L.map Prod.fst) : get L k = 2 := by
  by_cases hk : get L k = 2
  · exact hk
  · obtain ⟨p, hp, e, _⟩ := mem_of_get hk
    exact absurd (List.mem_map.2 ⟨p, hp, e⟩) h
theorem rfold_eq {op : Int → Int → Int} (h2 : op 2 2 = 2) (hop : ∀ x y, 0 ≤ op x y ∧ op x y ≤ 5) {A C : List (Int × Int)} (hA : Fit A) (hC : Fit C) : rfoldL op A C = foldP op (both A C) := by
  obtain ⟨b, rA⟩ := hA.rc
  obtain ⟨b', rC⟩ := hC.rc
  have hJ : ∀ k, 0 ≤ op (get A k) (get C k) ∧ op (get A k) (get C k) ≤ 5 := fun k => hop _ _
  obtain ⟨f1, g1⟩ := set_all (fun k => op (get A k) (get C k)) hJ (fun p => op p.2 (get C p.1)) A A (fun p hp => by rw [get_mem rA hp]) hA
  obtain ⟨f2, g2⟩ := set_all (fun k => op (get A k) (get C k)) hJ (fun q => op (get A q.1) q.2) C _ (fun q hq => by rw [get_mem rC hq]) f1
  have e : rfoldL op A C = C.foldl (fun O q => rwithL O q.1 (op (get A q.1) q.2)) (A.foldl (fun O p => rwithL O p.1 (op p.2 (get C p.1))) A) := by
    unfold rfoldL rj2 rj1
    rw [List.take_length, List.take_length]
  rw [e]
  refine ext f2 (fold_fit (h := fun _ x y => op x y) (fun _ => h2) rA rC hJ) fun k => ?_
  rw [g2, g1]
  refine Eq.trans ?_ (fold_get (h := fun _ x y => op x y) (fun _ => h2) rA rC k).symm
  by_cases h1 : k ∈ C.map Prod.fst
  · rw [if_pos h1]
  · rw [if_neg h1]
    by_cases h3 : k ∈ A.map Prod.fst
    · rw [if_pos h3]
    · rw [if_neg h3, get_two h3, get_two h1, h2]
theorem rjoin_eq {A C : List (Int × Int)} (hA : Fit A) (hC : Fit C) : rfoldL Lv.join A C = joinL A C := rfold_eq (by decide) (fun x y => ⟨Lv.join_lo x y, Lv.join_hi x y⟩) hA hC
theorem rmeet_eq {A C : List (Int × Int)} (hA : Fit A) (hC : Fit C) : rfoldL Lv.meet A C = meetL A C := rfold_eq (by decide) (fun x y => ⟨Lv.meet_lo x y, Lv.meet_hi x y⟩) hA hC
theorem rmap_get {op : Int → Int} (h2 : op 2 = 2) (A : List (Int × Int)) (k : Int) : get (rmapL op A) k = op (get A k) := by
  induction A with
  | nil => exact h2.symm
  | cons p r ih =>
    show get ((p.1, op p.2) :: rmapL op r) k = _
    simp only [get]
    split
    · rfl
    · exact ih
theorem rmap_rc {op : Int → Int} : ∀ {A : List (Int × Int)} {b : Int}, Rc b A → Rc b (rmapL op A) := by
  intro A
  induction A with
  | nil => intro b _; trivial
  | cons p r ih => intro b h; exact ⟨h.1, ih h.2⟩
theorem rraise_eq {A : List (Int × Int)} (hA : Fit A) : rmapL Lv.raise A = raiseL A := by
  obtain ⟨b, rA⟩ := hA.rc
  refine ext ⟨⟨b, rmap_rc rA⟩, fun p hp => ?_⟩ (raiseL_fit hA) fun k => ?_
  · obtain ⟨q, hq, rfl⟩ := List.mem_map.1 hp
    have h := hA.2 q hq
    show lok (Lv.raise q.2)
    unfold Lv.raise
    rw [Lv.lv_of h.1 h.2.1]
    split
    · exact ⟨by omega, by omega, by omega⟩
    · exact h
  · have h1 := hA.range k
    rw [rmap_get (by decide), raiseL_get hA]
    unfold Lv.raise
    rw [Lv.lv_of h1.1 h1.2]
theorem rlower_eq {A : List (Int × Int)} (hA : Fit A) : rmapL Lv.lower A = lowerL A := by
  obtain ⟨b, rA⟩ := hA.rc
  refine ext ⟨⟨b, rmap_rc rA⟩, fun p hp => ?_⟩ (lowerL_fit hA) fun k => ?_
  · obtain ⟨q, hq, rfl⟩ := List.mem_map.1 hp
    have h := hA.2 q hq
    show lok (Lv.lower q.2)
    unfold Lv.lower
    rw [Lv.lv_of h.1 h.2.1]
    split
    · exact ⟨by omega, by omega, by omega⟩
    · exact h
  · have h1 := hA.range k
    rw [rmap_get (by decide), lowerL_get hA]
    unfold Lv.lower
    rw [Lv.lv_of h1.1 h1.2]
end Go.Proofs.Ytfpmkihlfhpgdaa
