/-
  PROVED HERE: frames that are taken, given and dropped stay fit (plain facts), and all frames that lie in memory in one word. No condition.
-/
import Derived.Test.YtjdjiooblfgmlaaFrm12
namespace Go.Proofs.Ytjdjiooblfgmlaa
open Go.RowKit
set_option linter.unusedVariables false

namespace Frm
theorem nf_iff {f : Fr} : nfB f = true ↔ f.1 ≠ 0 := by unfold nfB isF; simp
theorem wr_iff {f : Fr} : wrB f = false ↔ (0 ≤ f.2 ∧ f.2 ≤ 1048576) ∧ (f.1 = 0 → f.2 = 0) := by
  unfold wrB pgB isF
  by_cases h1 : 0 ≤ f.2 <;> by_cases h2 : f.2 ≤ 1048576 <;> by_cases h3 : f.1 = 0 <;> by_cases h4 : f.2 = 0 <;> simp [h1, h2, h3, h4]
theorem bad_iff {o p : Int} : badB o p = false ↔ o ≠ 0 ∧ 0 ≤ p ∧ p ≤ 1048576 := by
  unfold badB pgB
  by_cases h1 : 0 ≤ p <;> by_cases h2 : p ≤ 1048576 <;> by_cases h3 : o = 0 <;> simp [h1, h2, h3]
theorem fits_free {L : List Fr} (h : Fits L) (i : Nat) : Fits (L.set i (0, 0)) := by
  obtain ⟨h1, h2, h3⟩ := h
  refine ⟨by simpa using h1, fun a ha => ?_, fun a b ha hb hn e => ?_⟩
  · rw [List.length_set] at ha
    rw [fat_set ha]
    split
    · rfl
    · exact h2 a ha
  · rw [List.length_set] at ha hb
    rw [fat_set ha] at hn e
    rw [fat_set hb] at e
    by_cases ea : i = a
    · rw [if_pos ea] at hn; cases hn
    · rw [if_neg ea] at hn e
      by_cases eb : i = b
      · rw [if_pos eb] at e; rw [e] at hn; cases hn
      · rw [if_neg eb] at e; exact h3 a b ha hb hn e
theorem fits_take {L : List Fr} (h : Fits L) {i : Nat} {o p : Int} (hb : badB o p = false) (hf : fF (poB o p) L = false) : Fits (L.set i (o, p)) := by
  obtain ⟨h1, h2, h3⟩ := h
  obtain ⟨b1, b2, b3⟩ := bad_iff.1 hb
  have hf := fF_false.1 hf
  refine ⟨by simpa using h1, fun a ha => ?_, fun a b ha hb' hn e => ?_⟩
  · rw [List.length_set] at ha
    rw [fat_set ha]
    split
    · exact wr_iff.2 ⟨⟨b2, b3⟩, fun e => absurd e b1⟩
    · exact h2 a ha
  · rw [List.length_set] at ha hb'
    rw [fat_set ha] at hn e
    rw [fat_set hb'] at e
    have key : ∀ c, c < L.length → fat L c ≠ (o, p) := fun c hc e => by
      have := hf c hc
      rw [poB_iff.2 ⟨nf_iff.2 (by rw [e]; exact b1), e⟩] at this
      cases this
    by_cases ea : i = a
    · by_cases eb : i = b
      · omega
      · rw [if_pos ea, if_neg eb] at e
        exact absurd e.symm (key b hb')
    · rw [if_neg ea] at hn e
      by_cases eb : i = b
      · rw [if_pos eb] at e
        exact absurd e (key a ha)
      · rw [if_neg eb] at e; exact h3 a b ha hb' hn e
theorem fits_drop {L : List Fr} (h : Fits L) (o : Int) : Fits (dropL o L) := by
  obtain ⟨h1, h2, h3⟩ := h
  unfold dropL
  refine ⟨by simpa using h1, fun a ha => ?_, fun a b ha hb hn e => ?_⟩
  · rw [List.length_map] at ha
    rw [fat_map ha]
    split
    · rfl
    · exact h2 a ha
  · rw [List.length_map] at ha hb
    rw [fat_map ha] at hn e
    rw [fat_map hb] at e
    by_cases ea : hdB o (fat L a) = true
    · rw [if_pos ea] at hn; cases hn
    · rw [if_neg ea] at hn e
      by_cases eb : hdB o (fat L b) = true
      · rw [if_pos eb] at e; rw [e] at hn; cases hn
      · rw [if_neg eb] at e; exact h3 a b ha hb hn e
theorem fit_tk {L : List Fr} (h : fitB L = true) (o p : Int) : fitB (tkL L o p) = true := by
  unfold tkL
  split
  · rename_i hE
    unfold tkE at hE
    cases hb : badB o p with
    | true => rw [hb] at hE; simp at hE
    | false =>
      rw [hb] at hE
      cases hf : fF (poB o p) L with
      | true => rw [hf] at hE; simp at hE
      | false => exact fit_iff.2 (fits_take (fit_iff.1 h) hb hf)
  · exact h
theorem fit_gv {L : List Fr} (h : fitB L = true) (o p : Int) : fitB (gvL L o p) = true := by
  unfold gvL
  split
  · exact fit_iff.2 (fits_free (fit_iff.1 h) _)
  · exact h
theorem fit_dr {L : List Fr} (h : fitB L = true) (o : Int) : fitB (dropL o L) = true := fit_iff.2 (fits_drop (fit_iff.1 h) o)
end Frm
/-- All these frames lie in w. -/
def Labs (w : World) (ls : List (Option Addr × Nat × Nat × List (Int × Int))) : Prop := ∀ x ∈ ls, Lab w.heap.size w x.1 x.2.1 x.2.2.1 x.2.2.2
theorem Labs.nil (w : World) : Labs w [] := fun x hx => by cases hx
theorem Labs.push {w : World} {ls : List (Option Addr × Nat × Nat × List (Int × Int))} (h : Labs w ls) {ao : Option Addr} {n cap : Nat} {L : List (Int × Int)} (l : Lab w.heap.size w ao n cap L) : Labs w ((ao, n, cap, L) :: ls) := fun x hx => by
  rcases List.mem_cons.1 hx with rfl | hx
  · exact l
  · exact h x hx
theorem Labs.next {w w' : World} {ls : List (Option Addr × Nat × Nat × List (Int × Int))} (h : Labs w ls) (k : Below w.heap.size w w') : Labs w' ls := fun x hx => (h x hx).next k
theorem Labs.get {w : World} {ls : List (Option Addr × Nat × Nat × List (Int × Int))} (h : Labs w ls) {ao : Option Addr} {n cap : Nat} {L : List (Int × Int)} (hm : (ao, n, cap, L) ∈ ls) : Lab w.heap.size w ao n cap L := h _ hm
theorem nextB {w W W' : World} (h : Below w.heap.size w W) (k : Below W.heap.size W W') : Below w.heap.size w W' := h.trans (k.mono h.size)
end Go.Proofs.Ytjdjiooblfgmlaa
