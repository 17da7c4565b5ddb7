/-
  PROVED HERE: a row of labels that is handed in lies in memory as a list; the rest of a slice of words; the words of labels, one behind the other (over this translation).
-/
import Derived.Test.YtpagpjidahaaeaaDoorCod19
import Derived.Test.YtpagpjidahaaeaaDoorCod22
import Derived.Laws.Slices
namespace Go.Proofs.YtpagpjidahaaeaaDoor
open Go.ChangeShapes Go.WideShapes Go.ChangeAt Go.RowKit
set_option linter.unusedVariables false

abbrev Sl := Option Addr × (Nat × (Nat × List (Int × Int)))
/-- A row of labels. -/
def RowA (w : World) (ao : Option Addr) (n cap : Nat) (R : List Sl) : Prop :=
  R.length = n ∧ n ≤ cap ∧ cap ≤ 9223372036854775807 ∧ ∀ i, i < n → ∃ b off a k c L, ao = some ⟨b, off, none⟩ ∧ b < w.heap.size ∧ R[i]? = some (a, k, c, L) ∧ w.cell? ⟨b, off + i, none⟩ = some (.slice a k c) ∧ LabU w a k c L

theorem spot_none {w : World} {a : Addr} {v : Value} (h : w.cell? a = some v) : a.spot = none := by
  unfold World.cell? at h
  cases hsp : a.spot with
  | none => rfl
  | some s => split at h <;> simp [hsp] at h
theorem rows_of_trod {H : Type} {enc : TypeId × Value → H} {w : World} {ao : Option Addr} {n cap : Nat} {d : DataW H} {ps : List MemPlace}
    (h : DataW.Trod enc Tryd.prog w 0 (fun _ => true) true 43 (.slice ao n cap) d ps) : ∃ R, RowA w ao n cap R := by
  obtain ⟨fuel, hf⟩ := h
  rcases DataW.trod_slice Tryd.underlying43 hf with ⟨e, _⟩ | ⟨a, len, cap', elems, rest, m, _, e, _, hb, hl, hm, hel, hcell, _, _⟩
  · simp [Value.cells] at e
    obtain ⟨rfl, rfl, rfl⟩ := e
    exact ⟨[], rfl, Nat.le_refl _, by omega, fun i hi => absurd hi (by omega)⟩
  · simp [Value.cells] at e
    obtain ⟨rfl, rfl, rfl⟩ := e
    have c1 : Tryd.prog.cellsOf 23 = 1 := by kernel_rfl
    rw [c1] at hcell
    have key : ∀ i, i < n → ∃ a' k c L, w.cell? (a.add i) = some (.slice a' k c) ∧ LabU w a' k c L := by
      intro i hi
      have hc := hcell i hi
      rw [List.getElem?_eq_getElem (by omega), Nat.mul_one] at hc
      obtain ⟨cs, h1, h2⟩ := Option.bind_eq_some_iff.1 hc
      rcases DataW.trod_slice Tryd.underlying23 h2 with ⟨rfl, _⟩ | ⟨a2, len2, cap2, _, _, _, _, rfl, _⟩
      · have hv := cell_of_cells?_one h1
        obtain ⟨L, hL⟩ := labU_of_trod (ao := none) (n := 0) (cap := 0) ⟨m, h2⟩
        exact ⟨_, _, _, L, hv, hL⟩
      · have hv := cell_of_cells?_one h1
        obtain ⟨L, hL⟩ := labU_of_trod (ao := some a2) (n := len2) (cap := cap2) ⟨m, h2⟩
        exact ⟨_, _, _, L, hv, hL⟩
    have hR : ∀ (m : Nat), m ≤ n → ∃ R : List Sl, R.length = m ∧ ∀ i, i < m → ∃ a' k c L, R[i]? = some (a', k, c, L) ∧ w.cell? (a.add i) = some (.slice a' k c) ∧ LabU w a' k c L := by
      intro m
      induction m with
      | zero => intro _; exact ⟨[], rfl, fun i hi => absurd hi (by omega)⟩
      | succ m ih =>
        intro hm
        obtain ⟨R, hRl, hRi⟩ := ih (by omega)
        obtain ⟨a', k, c, L, g1, g2⟩ := key m (by omega)
        refine ⟨R ++ [(a', k, c, L)], by simp [hRl], fun i hi => ?_⟩
        by_cases him : i < m
        · obtain ⟨a'', k', c', L', q1, q2, q3⟩ := hRi i him
          exact ⟨a'', k', c', L', by rw [List.getElem?_append_left (by omega)]; exact q1, q2, q3⟩
        · obtain rfl : i = m := by omega
          exact ⟨a', k, c, L, by rw [List.getElem?_append_right (by omega), hRl]; simp, g1, g2⟩
    obtain ⟨R, hRl, hRi⟩ := hR n (Nat.le_refl _)
    refine ⟨R, hRl, hl, by unfold maxLen at hm; omega, fun i hi => ?_⟩
    obtain ⟨a', k, c, L, q1, q2, q3⟩ := hRi i hi
    have ha0 : a.add 0 = a := by simp [Addr.add]
    have hs : a.spot = none := by
      obtain ⟨_, _, _, _, _, z2, _⟩ := hRi 0 (by omega)
      rw [ha0] at z2
      exact spot_none z2
    have hea : a = ⟨a.block, a.off, none⟩ := by cases a; simp at hs; simp [hs]
    have hadd : ∀ j, a.add j = ⟨a.block, a.off + j, none⟩ := by
      intro j
      unfold Addr.add
      split
      · rename_i hj; subst hj; rw [Nat.add_zero]; exact hea
      · rfl
    refine ⟨a.block, a.off, a', k, c, L, by rw [← hea], ?_, q1, by rw [← hadd]; exact q2, q3⟩
    have := World.block_lt_of_cell? w _ q2
    rwa [hadd] at this

theorem cts_sliced {B : Nat} {w : World} {ao : Option Addr} {n cap l : Nat} {C : List Int} (h : Cts B w ao n cap C) (hl : l ≤ n) : ∃ ao', (if cap = l then ao else ao.map (·.add (l * 1))) = ao' ∧ Cts B w ao' (n - l) (cap - l) (C.drop l) := by
  refine ⟨_, rfl, ?_⟩
  obtain ⟨h1, h2, h3, h4⟩ := h
  refine ⟨by rw [List.length_drop, h1], by omega, by omega, fun hn => ?_⟩
  obtain ⟨b, off, rfl, hb, hc⟩ := h4 (by omega)
  rw [if_neg (by omega)]
  refine ⟨b, off + l, ?_, hb, fun i hi => ?_⟩
  · simp [Addr.add]
  · have := hc (l + i) (by omega)
    rw [← Nat.add_assoc] at this
    rw [this]
    simp [List.getD_eq_getElem?_getD, List.getElem?_drop]

/-- The words of labels, one behind the other. -/
def catW (R : List Sl) : List Int := (R.map fun s => wordsOf s.2.2.2).flatten
theorem catW_cons (s : Sl) (R : List Sl) : catW (s :: R) = wordsOf s.2.2.2 ++ catW R := rfl
theorem catW_snoc {R : List Sl} {k : Nat} {s : Sl} (h : R[k]? = some s) : catW (R.take (k + 1)) = catW (R.take k) ++ wordsOf s.2.2.2 := by
  rw [List.take_add_one, h]
  simp [catW]
theorem catW_drop {R : List Sl} {k : Nat} {s : Sl} (h : R[k]? = some s) : catW (R.drop k) = wordsOf s.2.2.2 ++ catW (R.drop (k + 1)) := by
  have hk := (List.getElem?_eq_some_iff.1 h)
  obtain ⟨hlt, he⟩ := hk
  rw [List.drop_eq_getElem_cons hlt, he, catW_cons]
def FewR (R : List Sl) : Prop := ∀ s ∈ R, fitB s.2.2.2 = true ∧ s.2.2.2.length ≤ 16 ∧ U64p s.2.2.2
theorem u64_flat : ∀ {L : List (Int × Int)}, (∀ p ∈ L, (0 ≤ p.1 ∧ p.1 < 18446744073709551616) ∧ 0 ≤ p.2 ∧ p.2 ≤ 5) → ∀ x ∈ flatW L, 0 ≤ x ∧ x < 18446744073709551616 := by
  intro L
  induction L with
  | nil => intro _ x hx; cases hx
  | cons p r ih =>
    intro h x hx
    have hp := h p (List.mem_cons_self ..)
    simp only [flatW, List.mem_cons] at hx
    rcases hx with rfl | rfl | hx
    · exact hp.1
    · omega
    · exact ih (fun q hq => h q (List.mem_cons_of_mem _ hq)) x hx
theorem u64_words {L : List (Int × Int)} (hf : fitB L = true) (h16 : L.length ≤ 16) (hU : U64p L) : ∀ x ∈ wordsOf L, 0 ≤ x ∧ x < 18446744073709551616 := by
  intro x hx
  rw [wordsOf_fit hf, List.mem_cons] at hx
  rcases hx with rfl | hx
  · omega
  · refine u64_flat (fun p hp => ?_) x hx
    obtain ⟨i, hi, rfl⟩ := List.getElem_of_mem hp
    have hu := hU i
    rw [List.getD_eq_getElem?_getD, List.getElem?_eq_getElem hi] at hu
    have hl := (fit_iff hf).2 L[i] (List.getElem_mem _)
    exact ⟨hu, hl.1, hl.2.1⟩
theorem u64s_of {W : List Int} (h : ∀ x ∈ W, 0 ≤ x ∧ x < 18446744073709551616) : U64s W := by
  intro i
  by_cases hi : i < W.length
  · rw [List.getD_eq_getElem?_getD, List.getElem?_eq_getElem hi]
    exact h _ (List.getElem_mem _)
  · rw [List.getD_eq_getElem?_getD, List.getElem?_eq_none (by omega)]
    simp
theorem u64_cat {R : List Sl} (h : FewR R) : U64s (catW R) := by
  refine u64s_of (fun x hx => ?_)
  unfold catW at hx
  obtain ⟨l, hl, hx⟩ := List.mem_flatten.1 hx
  obtain ⟨s, hs, rfl⟩ := List.mem_map.1 hl
  obtain ⟨h1, h2, h3⟩ := h s hs
  exact u64_words h1 h2 h3 x hx
theorem cat_len {R : List Sl} (h : FewR R) : (catW R).length ≤ 33 * R.length := by
  induction R with
  | nil => simp [catW]
  | cons s r ih =>
    have h1 := ih (fun q hq => h q (List.mem_cons_of_mem _ hq))
    obtain ⟨a, b, _⟩ := h s (List.mem_cons_self ..)
    rw [catW_cons, List.length_append, wordsOf_len a]
    simp
    omega
theorem cts_news {B : Nat} {w : World} {b off n cap : Nat} {C : List Int} (h : Cts B w (some ⟨b, off, none⟩) n cap C) (hn : 0 < n) : ∀ j u, (C.map (Value.int .u64))[j]? = some u → w.cell? ((⟨b, off, none⟩ : Addr).add j) = some u := by
  obtain ⟨h1, h2, h3, h4⟩ := h
  obtain ⟨b', off', e, _, hc⟩ := h4 hn
  simp only [Option.some.injEq, Addr.mk.injEq, and_true] at e
  obtain ⟨rfl, rfl⟩ := e
  intro j u hj
  rw [List.getElem?_map] at hj
  obtain ⟨x, hx, rfl⟩ := Option.map_eq_some_iff.1 hj
  have hlt := (List.getElem?_eq_some_iff.1 hx).1
  have hz := hc j (by omega)
  rw [List.getD_eq_getElem?_getD, hx] at hz
  have ha : (⟨b, off, none⟩ : Addr).add j = ⟨b, off + j, none⟩ := by unfold Addr.add; split <;> simp_all
  rw [ha]
  exact hz
theorem news_one (C : List Int) : ∀ u ∈ C.map (Value.int .u64), u.oneCell' = true := by intro u hu; obtain ⟨x, _, rfl⟩ := List.mem_map.1 hu; rfl
theorem cts_spot {B : Nat} {w : World} {ao : Option Addr} {n cap : Nat} {C : List Int} (h : Cts B w ao n cap C) (hn : 0 < n) : ∃ b off, ao = some ⟨b, off, none⟩ := by
  obtain ⟨b, off, e, _⟩ := h.2.2.2 hn
  exact ⟨b, off, e⟩
end Go.Proofs.YtpagpjidahaaeaaDoor
