/-
  PROVED HERE: codec.Read in one wording; the head of a slice of words; facts on what is read (over this translation).
-/
import Derived.Test.YtpagpjidahaaeaaDoorCod23
namespace Go.Proofs.YtpagpjidahaaeaaDoor
open Go.RowKit Go.Shelf
set_option linter.unusedVariables false

def rL (s : ByteArray) : List (Int × Int) := (readO s).getD []
def ReadR (w : World) (s : ByteArray) (e : Ending) (w' : World) : Prop := ∃ ao1 cap1, e = .returned (.tuple #[.slice ao1 (rL s).length cap1, .int .i64 (readE s)]) ∧ Lab w'.heap.size w' ao1 (rL s).length cap1 (rL s) ∧ Below w.heap.size w w'
theorem readE_cases (s : ByteArray) : (readE s = 0 ∧ ∃ L, readO s = some L ∧ readT s = some L ∧ fitB L = true ∧ L.length ≤ 16) ∨ (readE s ≠ 0 ∧ readO s = none) := by
  unfold readO
  by_cases h : readE s = 0
  · rw [if_pos h]
    refine .inl ⟨h, ?_⟩
    unfold readE at h
    split at h
    · cases h
    · rename_i L hL
      split at h
      · rename_i hf
        split at h
        · rename_i hl; exact ⟨L, hL, hL, hf, hl⟩
        · cases h
      · cases h
  · rw [if_neg h]
    exact .inr ⟨h, rfl⟩
theorem cread_any {w : World} (s : ByteArray) (hs : s.size ≤ 60000) (hv : Vars w) : Calls Tryd.prog 14 #[.string s] w (ReadR w s) := by
  rcases readE_cases s with ⟨h0, L, hO, _⟩ | ⟨_, hO⟩
  · have h1 : rL s = L := by unfold rL; rw [hO]; rfl
    exact (read_some s hs hv hO).mono fun e w' ⟨a, c, he, hl, hb⟩ => ⟨a, c, by rw [h1, h0]; exact he, by rw [h1]; exact hl, hb⟩
  · have h1 : rL s = [] := by unfold rL; rw [hO]; rfl
    exact (read_none s hs hv hO).mono fun e w' ⟨he, hb⟩ => ⟨none, 0, by rw [h1]; exact he, by rw [h1]; exact Lab.nil _ _, hb⟩
/-- What is read has just that text. -/
theorem rL_text {s : ByteArray} (h : readE s = 0) : textOf (rL s) = s ∧ U64p (rL s) ∧ (rL s).length ≤ 16 := by
  rcases readE_cases s with ⟨_, L, hO, hT, hf, hl⟩ | ⟨hn, _⟩
  · have h1 : rL s = L := by unfold rL; rw [hO]; rfl
    rw [h1]
    exact ⟨text_readT hT hf, u64_readT hT, hl⟩
  · exact absurd h hn
/-- A label's own text is read as it. -/
theorem rL_of {L : List (Int × Int)} (hf : fitB L = true) (hU : U64p L) (h16 : L.length ≤ 16) : readE (textOf L) = 0 ∧ rL (textOf L) = L := by
  have hT := readT_text hf hU
  have hE : readE (textOf L) = 0 := by unfold readE; rw [hT]; simp [hf, h16]
  refine ⟨hE, ?_⟩
  unfold rL readO
  rw [if_pos hE, hT]
  rfl
theorem pE_cases (W : List Int) : (pE W = 0 ∧ ∃ L, parseW W = some L ∧ pL W = L ∧ pN W = 1 + 2 * (L.length : Int)) ∨ (pE W = 11 ∧ parseW W = none) := by
  unfold pE pL pN
  cases h : parseW W with
  | none => exact .inr ⟨rfl, rfl⟩
  | some L => exact .inl ⟨rfl, L, rfl, rfl, rfl⟩
theorem pL_words {W : List Int} (hU : U64s W) (h : pE W = 0) : ∃ m : Nat, pN W = m ∧ m ≤ W.length ∧ wordsOf (pL W) = W.take m ∧ m = 1 + 2 * (pL W).length ∧ (pL W).length ≤ 16 := by
  rcases pE_cases W with ⟨_, L, hp, h1, h2⟩ | ⟨hn, _⟩
  · obtain ⟨q1, q2, q3⟩ := words_parseW hU hp
    exact ⟨1 + 2 * L.length, by rw [h2]; simp, q2, by rw [h1]; exact q1, by rw [h1], by rw [h1]; exact parseW_len hp⟩
  · rw [h] at hn; cases hn
theorem cts_take {B : Nat} {w : World} {ao : Option Addr} {n cap l : Nat} {C : List Int} (h : Cts B w ao n cap C) (hl : l ≤ n) : Cts B w ao l cap (C.take l) := by
  obtain ⟨h1, h2, h3, h4⟩ := h
  refine ⟨by rw [List.length_take]; omega, by omega, h3, fun hn => ?_⟩
  obtain ⟨b, off, e, hb, hc⟩ := h4 (by omega)
  refine ⟨b, off, e, hb, fun i hi => ?_⟩
  rw [hc i (by omega)]
  simp [List.getD_eq_getElem?_getD, hi]
/-- Words that are handed in: nil has no room. -/
def CtsV (w : World) (ao : Option Addr) (n cap : Nat) (C : List Int) : Prop := CtsU w ao n cap C ∧ (ao = none → n = 0 ∧ cap = 0)
theorem ctsV_of_trod {H : Type} {enc : TypeId × Value → H} {w : World} {ao : Option Addr} {n cap : Nat} {d : DataW H} {ps : List MemPlace}
    (h : DataW.Trod enc Tryd.prog w 0 (fun _ => true) true 24 (.slice ao n cap) d ps) : ∃ C, CtsV w ao n cap C := by
  obtain ⟨C, hC⟩ := cts_of_trod h
  refine ⟨C, hC, ?_⟩
  obtain ⟨fuel, hf⟩ := h
  rcases Go.ChangeShapes.open_ints Tryd.underlying24 Tryd.underlying45 (by kernel_rfl) hf with ⟨e, _⟩ | ⟨a, len, cap', zs, e, _⟩
  · simp [Value.cells] at e
    exact fun _ => e.2
  · simp [Value.cells] at e
    intro h0
    rw [h0] at e
    cases e.1
theorem cts_newsA {B : Nat} {w : World} {ad : Addr} {n cap : Nat} {C : List Int} (h : Cts B w (some ad) n cap C) : ∀ j u, (C.map (Value.int .u64))[j]? = some u → w.cell? (ad.add j) = some u := by
  by_cases hn : 0 < n
  · obtain ⟨b, off, e⟩ := cts_spot h hn
    cases e
    exact cts_news h hn
  · intro j u hj
    have : C = [] := List.eq_nil_of_length_eq_zero (by rw [h.1]; omega)
    subst this
    simp at hj
theorem ownsRow_empty (w : World) (e : TypeId) (size : Nat) : (w.alloc (.cells #[] e)).ownsRow w.heap.size e size (.slice (some ⟨w.heap.size, 0, none⟩) 0 0) 0 [] :=
  ⟨by simp, .inr ⟨w.heap.size, 0, #[], rfl, Nat.le_refl _, World.alloc_heap_new w _, Nat.le_refl _, by unfold maxLen; omega, by simp, by simp⟩⟩
theorem u64s_app {L : List (Int × Int)} {W : List Int} (hf : fitB L = true) (h16 : L.length ≤ 16) (hU : U64p L) (hW : U64s W) : U64s (wordsOf L ++ W) := by
  refine u64s_of (fun x hx => ?_)
  rcases List.mem_append.1 hx with hx | hx
  · exact u64_words hf h16 hU x hx
  · obtain ⟨i, hi, rfl⟩ := List.getElem_of_mem hx
    have := hW i
    rwa [List.getD_eq_getElem?_getD, List.getElem?_eq_getElem hi] at this
theorem textOf_size {L : List (Int × Int)} (hU : U64p L) (h16 : L.length ≤ 16) : (textOf L).size ≤ 60000 := by
  unfold textOf
  split
  · split
    · decide
    · rw [← size_list, joined_list]
      have key : ∀ (M : List (Int × Int)), (∀ p ∈ M, p.1.toNat < 18446744073709551616) → Lib.lens ((M.map itemT).map (·.data.toList)) ≤ 100 * M.length := by
        intro M
        induction M with
        | nil => intro _; simp [Lib.lens]
        | cons p r ih =>
          intro h
          have h1 := ih (fun q hq => h q (List.mem_cons_of_mem _ hq))
          have h2 : (itemT p).data.toList.length ≤ 100 := itemT_len p (h p (List.mem_cons_self ..))
          simp [Lib.lens] at *
          omega
      have hall : ∀ p ∈ L, p.1.toNat < 18446744073709551616 := by
        intro p hp
        obtain ⟨i, hi, rfl⟩ := List.getElem_of_mem hp
        have := hU i
        simp [List.getD_eq_getElem?_getD, List.getElem?_eq_getElem hi] at this
        omega
      unfold joinT
      cases L with
      | nil => exact Nat.zero_le _
      | cons p r =>
        have h1 := key (p :: r) hall
        simp only [List.map_cons] at h1 ⊢
        rw [Lib.join_length]
        simp only [List.length_cons, List.length_map, List.length_nil] at *
        omega
  · decide
theorem textOf_same {L M : List (Int × Int)} (hL : fitB L = true) (hM : fitB M = true) (uL : U64p L) (uM : U64p M) : ((textOf L).toList == (textOf M).toList) = sameB L M := by
  have hi := textOf_inj hL hM uL uM
  unfold sameB
  by_cases h : L = M
  · rw [h]; simp
  · rw [decide_eq_false h, beq_eq_false_iff_ne]
    intro e
    exact h (hi.1 (Lv.toList_inj e))
theorem wordsOf_same {L M : List (Int × Int)} (hL : fitB L = true) (hM : fitB M = true) (h16 : L.length ≤ 16) : sameI (wordsOf L) (wordsOf M) = sameB L M := by
  have hi := wordsOf_inj hL hM h16
  unfold sameI sameB
  exact decide_eq_decide.2 hi
end Go.Proofs.YtpagpjidahaaeaaDoor
