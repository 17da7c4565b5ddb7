/-
  PROVED HERE: the codec's Words and Parse, and the document's own, in one wording each (contracts over this translation).
-/
import Derived.Test.YtpagpjidahaaeaaDoorCod14
import Derived.Test.YtpagpjidahaaeaaDoorCod15
import Derived.Test.YtpagpjidahaaeaaDoorCod16
import Derived.Test.YtpagpjidahaaeaaDoorCod17
namespace Go.Proofs.YtpagpjidahaaeaaDoor
open Go.RowKit Go.Shelf
set_option linter.unusedVariables false

theorem wordsOf_no {L : List (Int × Int)} (h : fitB L = false) : wordsOf L = [] := by unfold wordsOf; rw [h]; rfl
theorem Cts.none (B : Nat) (w : World) : Cts B w none 0 0 [] := ⟨rfl, Nat.le_refl _, by omega, fun h => absurd h (by omega)⟩
def WordsR (w : World) (L : List (Int × Int)) (e : Ending) (w' : World) : Prop := ∃ ao1 n1 cap1, e = .returned (.slice ao1 n1 cap1) ∧ Cts w'.heap.size w' ao1 n1 cap1 (wordsOf L) ∧ Below w.heap.size w w'
theorem words_any {w : World} {ao : Option Addr} {n cap : Nat} {L : List (Int × Int)} (hL : Lab w.heap.size w ao n cap L) (hn2 : n ≤ 65536) : Calls Tryd.prog 11 #[.slice ao n cap] w (WordsR w L) := by
  cases hf : fitB L with
  | false => exact (words_unfit hL hf).mono fun e w' ⟨he, hb⟩ => ⟨_, _, _, he, by rw [wordsOf_no hf]; exact Cts.none _ _, hb⟩
  | true => exact (words_fit hL hf hn2).mono fun e w' ⟨a, c, he, hc, hb⟩ => ⟨_, _, _, he, hc, hb⟩
theorem rwords_any {w : World} {ao : Option Addr} {n cap : Nat} {L : List (Int × Int)} (hL : Lab w.heap.size w ao n cap L) (hn2 : n ≤ 65536) : Calls Tryd.prog 12 #[.slice ao n cap] w (WordsR w L) := by
  cases hf : fitB L with
  | false => exact (rwords_unfit hL hf).mono fun e w' ⟨he, hb⟩ => ⟨_, _, _, he, by rw [wordsOf_no hf]; exact Cts.none _ _, hb⟩
  | true => exact (rwords_fit hL hf hn2).mono fun e w' ⟨a, c, he, hc, hb⟩ => ⟨_, _, _, he, hc, hb⟩

def pL (W : List Int) : List (Int × Int) := (parseW W).getD []
def pN (W : List Int) : Int := match parseW W with | some L => 1 + 2 * (L.length : Int) | none => 0
def pE (W : List Int) : Int := match parseW W with | some _ => 0 | none => 11
def ParseR (w : World) (W : List Int) (e : Ending) (w' : World) : Prop := ∃ ao1 cap1, e = .returned (.tuple #[.slice ao1 (pL W).length cap1, .int .i64 (pN W), .int .i64 (pE W)]) ∧ Lab w'.heap.size w' ao1 (pL W).length cap1 (pL W) ∧ Below w.heap.size w w'
theorem parseW_len {W : List Int} {L : List (Int × Int)} (h : parseW W = some L) : L.length ≤ 16 := by
  unfold parseW at h
  split at h
  · rename_i hh
    cases h
    rw [pairsK_len]
    have := hh.2.1
    unfold wcount
    omega
  · cases h
theorem cparse_any {w : World} {ao : Option Addr} {n cap : Nat} {W : List Int} (hC : Cts w.heap.size w ao n cap W) (hU : U64s W) : Calls Tryd.prog 8 #[.slice ao n cap] w (ParseR w W) := by
  cases hp : parseW W with
  | none =>
    have h1 : pL W = [] := by unfold pL; rw [hp]; rfl
    have h2 : pN W = 0 := by unfold pN; rw [hp]
    have h3 : pE W = 11 := by unfold pE; rw [hp]
    exact (parse_none hC hU hp).mono fun e w' ⟨he, hb⟩ => ⟨none, 0, by rw [h1, h2, h3]; exact he, by rw [h1]; exact Lab.nil _ _, hb⟩
  | some L =>
    have h1 : pL W = L := by unfold pL; rw [hp]; rfl
    have h2 : pN W = 1 + 2 * (L.length : Int) := by unfold pN; rw [hp]
    have h3 : pE W = 0 := by unfold pE; rw [hp]
    exact (parse_some hC hU hp (parseW_len hp)).mono fun e w' ⟨a, c, he, hl, hb⟩ => ⟨a, c, by rw [h1, h2, h3]; exact he, by rw [h1]; exact hl, hb⟩
theorem rcparse_any {w : World} {ao : Option Addr} {n cap : Nat} {W : List Int} (hC : Cts w.heap.size w ao n cap W) (hU : U64s W) : Calls Tryd.prog 9 #[.slice ao n cap] w (ParseR w W) := by
  cases hp : parseW W with
  | none =>
    have h1 : pL W = [] := by unfold pL; rw [hp]; rfl
    have h2 : pN W = 0 := by unfold pN; rw [hp]
    have h3 : pE W = 11 := by unfold pE; rw [hp]
    exact (rparse_any hC hU).mono fun e w' h => ⟨none, 0, by rw [h1, h2, h3]; exact h.2.1 hp, by rw [h1]; exact Lab.nil _ _, h.2.2⟩
  | some L =>
    have h1 : pL W = L := by unfold pL; rw [hp]; rfl
    have h2 : pN W = 1 + 2 * (L.length : Int) := by unfold pN; rw [hp]
    have h3 : pE W = 0 := by unfold pE; rw [hp]
    exact (rparse_any hC hU).mono fun e w' h => by
      obtain ⟨a, c, he, hl⟩ := h.1 L hp
      exact ⟨a, c, by rw [h1, h2, h3]; exact he, by rw [h1]; exact hl, h.2.2⟩
end Go.Proofs.YtpagpjidahaaeaaDoor
