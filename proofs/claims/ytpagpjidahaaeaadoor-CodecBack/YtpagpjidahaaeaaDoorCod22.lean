/-
  PROVED HERE: plain facts on words as lists (no Go text): a label's words are read as it, whatever is behind; words that are read are just the label's.
-/
import Derived.Test.YtpagpjidahaaeaaDoorCod21
namespace Go.Proofs.YtpagpjidahaaeaaDoor
open Go.RowKit Go.Shelf
set_option linter.unusedVariables false

theorem flatW_at : ∀ (L : List (Int × Int)) (k : Nat) (more : List Int), k < L.length → (flatW L ++ more).getD (2 * k) 0 = (L.getD k (0, 0)).1 ∧ (flatW L ++ more).getD (2 * k + 1) 0 = (L.getD k (0, 0)).2 := by
  intro L
  induction L with
  | nil => intro k more h; simp at h
  | cons p r ih =>
    intro k more h
    cases k with
    | zero => simp [flatW]
    | succ k =>
      have := ih k more (by simpa using h)
      rw [show 2 * (k + 1) = 2 * k + 1 + 1 by omega]
      simp only [flatW, List.cons_append, List.getD_cons_succ]
      exact this
theorem wordsOf_fit {L : List (Int × Int)} (hf : fitB L = true) : wordsOf L = (L.length : Int) :: flatW L := by unfold wordsOf; rw [hf, if_pos rfl]
theorem wordsOf_len {L : List (Int × Int)} (hf : fitB L = true) : (wordsOf L).length = 1 + 2 * L.length := by rw [wordsOf_fit hf]; simp [flatW_len]; omega
/-- A label's words are read as it, whatever is behind. -/
theorem parseW_words {L : List (Int × Int)} (hf : fitB L = true) (h16 : L.length ≤ 16) (more : List Int) : parseW (wordsOf L ++ more) = some L := by
  have h0 : (wordsOf L ++ more).getD 0 0 = (L.length : Int) := by rw [wordsOf_fit hf]; simp
  have hc : wcount (wordsOf L ++ more) = L.length := by unfold wcount; rw [h0]; simp
  have hp : ∀ k, k < L.length → pairAt (wordsOf L ++ more) k = L.getD k (0, 0) := by
    intro k hk
    obtain ⟨a1, a2⟩ := flatW_at L k more hk
    unfold pairAt
    rw [wordsOf_fit hf, List.cons_append, show 1 + 2 * k = 2 * k + 1 by omega, show 2 + 2 * k = 2 * k + 1 + 1 by omega]
    simp only [List.getD_cons_succ]
    rw [a1, a2]
  have hK : pairsK (wordsOf L ++ more) L.length = L := by
    refine List.ext_getElem (by rw [pairsK_len]) (fun i h1 h2 => ?_)
    simp only [pairsK, List.getElem_map, List.getElem_range]
    rw [hp i h2]
    simp [List.getD_eq_getElem?_getD, List.getElem?_eq_getElem h2]
  have hl : levsOk (wordsOf L ++ more) L.length = true := levsOk_yes (fun i hi => by
    rw [hp i hi]
    have := (fit_iff hf).2 (L.getD i (0, 0)) (by rw [List.getD_eq_getElem?_getD, List.getElem?_eq_getElem hi]; exact List.getElem_mem _)
    exact this.2.1)
  have hlen : (wordsOf L ++ more).length = 1 + 2 * L.length + more.length := by rw [List.length_append, wordsOf_len hf]
  rw [parseW_some (by rw [hc, hK]; exact ⟨by omega, by rw [h0]; omega, by omega, hl, hf⟩), hc, hK]
theorem flatW_take : ∀ (k : Nat) (x : Int) (W : List Int), 2 * k ≤ W.length → flatW (pairsK (x :: W) k) = W.take (2 * k) := by
  intro k
  induction k with
  | zero => intro x W _; rfl
  | succ k ih =>
    intro x W h
    rw [pairsK_succ, flatW_append, ih x W (by omega), show 2 * (k + 1) = 2 * k + 1 + 1 by omega, List.take_succ_eq_append_getElem (by omega), List.take_succ_eq_append_getElem (by omega)]
    unfold pairAt
    rw [show 1 + 2 * k = 2 * k + 1 by omega, show 2 + 2 * k = 2 * k + 1 + 1 by omega]
    simp only [List.getD_cons_succ, flatW, List.append_assoc]
    congr 1
    simp [List.getD_eq_getElem?_getD, List.getElem?_eq_getElem (show 2 * k < W.length by omega), List.getElem?_eq_getElem (show 2 * k + 1 < W.length by omega)]
/-- Words that are read are just the label's. -/
theorem words_parseW {W : List Int} {L : List (Int × Int)} (hU : U64s W) (h : parseW W = some L) : wordsOf L = W.take (1 + 2 * L.length) ∧ 1 + 2 * L.length ≤ W.length ∧ fitB L = true := by
  unfold parseW at h
  split at h
  · rename_i hh
    cases h
    obtain ⟨h1, h2, h3, h4, h5⟩ := hh
    rw [pairsK_len]
    refine ⟨?_, h3, h5⟩
    rw [wordsOf_fit h5, pairsK_len]
    cases W with
    | nil => simp at h1
    | cons x W =>
      have hx : (wcount (x :: W) : Int) = x := by
        have := (hU 0).1
        unfold wcount
        simp at *
        omega
      rw [flatW_take _ x W (by simp at h3; omega), hx, show 1 + 2 * wcount (x :: W) = 2 * wcount (x :: W) + 1 by omega, List.take_succ_cons]
  · cases h
theorem wordsOf_inj {L M : List (Int × Int)} (hL : fitB L = true) (hM : fitB M = true) (h16 : L.length ≤ 16) : wordsOf L = wordsOf M ↔ L = M := by
  refine ⟨fun e => ?_, fun e => by rw [e]⟩
  have hl : L.length = M.length := by have := congrArg List.length e; rw [wordsOf_len hL, wordsOf_len hM] at this; omega
  have h1 := parseW_words hL h16 []
  have h2 := parseW_words hM (by omega) []
  rw [e, h2] at h1
  exact (Option.some.inj h1).symm
theorem textOf_inj {L M : List (Int × Int)} (hL : fitB L = true) (hM : fitB M = true) (uL : U64p L) (uM : U64p M) : textOf L = textOf M ↔ L = M := by
  refine ⟨fun e => ?_, fun e => by rw [e]⟩
  have h1 := readT_text hL uL
  rw [e, readT_text hM uM] at h1
  exact (Option.some.inj h1).symm
end Go.Proofs.YtpagpjidahaaeaaDoor
