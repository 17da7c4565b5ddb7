/-
  PROVED HERE: what label.fold returns when it is called with a function that answers whatever two levels by a level and leaves memory as it lay (a contract over this translation). The labels have fewer than 2^38 pairs.
-/
import Derived.Test.YtbmfehkahjeobaaDoorLabIter
import Derived.Test.YtbmfehkahjeobaaDoorRoundHeld
import Derived.WalkSpells
namespace Go.Proofs.YtbmfehkahjeobaaDoor
open Go.RowKit Go.Shelf
set_option linter.unusedVariables false
attribute [local go_sem] Oper.semAt_some

def foldP (op : Int → Int → Int) (pre : List (Int × (Int × Int))) : List (Int × Int) := pre.foldl (fun acc x => snoc acc x.1 (op x.2.1 x.2.2)) []
theorem foldP_snoc (op : Int → Int → Int) (pre : List (Int × (Int × Int))) (x : Int × (Int × Int)) : foldP op (pre ++ [x]) = snoc (foldP op pre) x.1 (op x.2.1 x.2.2) := by simp [foldP]
theorem foldP_len (op : Int → Int → Int) (pre : List (Int × (Int × Int))) : (foldP op pre).length ≤ pre.length := by
  have : ∀ (pre : List (Int × (Int × Int))) (acc : List (Int × Int)), (pre.foldl (fun acc x => snoc acc x.1 (op x.2.1 x.2.2)) acc).length ≤ acc.length + pre.length := by
    intro pre
    induction pre with
    | nil => intro acc; simp
    | cons x r ih => intro acc; have h1 := ih (snoc acc x.1 (op x.2.1 x.2.2)); have h2 := snoc_len acc x.1 (op x.2.1 x.2.2); simp only [List.foldl_cons, List.length_cons]; omega
  have h := this pre []
  simpa [foldP] using h
theorem bothN_len : ∀ (k : Nat) (A C : List (Int × Int)), (bothN k A C).length ≤ k := by
  intro k
  induction k with
  | zero => intro A C; simp [bothN]
  | succ k ih => intro A C; simp only [bothN]; split; simp; simpa using ih _ _
theorem both_len (A C : List (Int × Int)) : (both A C).length ≤ A.length + C.length := bothN_len _ _ _

theorem ownL_of {base : Nat} {W : World} {v : Value} {L : List (Int × Int)} (h : W.ownsRow base 35 2 v L.length (cellsOf L)) : ∃ ao cap, v = .slice ao L.length cap ∧ OwnL base W ao L.length cap L := by
  have h' := h
  rcases h.2 with ⟨rfl, h0⟩ | ⟨g, cap, _, rfl, _⟩
  · refine ⟨none, 0, by rw [h0], rfl, ?_⟩
    rw [h0] at h' ⊢
    exact h'
  · exact ⟨_, _, rfl, rfl, h'⟩
theorem ownL_base {b b' : Nat} {w : World} {ao : Option Addr} {n cap : Nat} {L : List (Int × Int)} (hb : b' ≤ b) (h : OwnL b w ao n cap L) : OwnL b' w ao n cap L := by
  refine ⟨h.1, h.2.1, ?_⟩
  rcases h.2.2 with h0 | ⟨g, c, cur, h1, h2, h3⟩
  · exact .inl h0
  · exact .inr ⟨g, c, cur, h1, Nat.le_trans hb h2, h3⟩
theorem below_grown {w w' : World} (h : Below w.heap.size w w') : w.grownBy w' none := ⟨h.os, h.tape, h.output, h.size, fun k hk _ => h.block k hk⟩
theorem OwnL.next {base : Nat} {w w' : World} {ao : Option Addr} {n cap : Nat} {L : List (Int × Int)} (h : OwnL base w ao n cap L) (k : Below w.heap.size w w') : OwnL base w' ao n cap L := by
  refine ⟨h.1, h.2.kept (below_grown k) ?_⟩
  cases ao with
  | none => exact .inl rfl
  | some a => exact .inr (by simp [Value.ownBlock])
theorem Boxed.next {W W' : World} {B : Nat} {t : TypeId} {v : Value} (h : Boxed W B t v) (k : Below W.heap.size W W') : Boxed W' B t v := h.kept (below_grown k) (by simp)

/-- Behind the callee that puts a pair to a label in a box, and the store back. -/
theorem put_back {W w1 w2 : World} {s r B : Nat} {ao ao' : Option Addr} {n n' cap cap' : Nat} {L L' : List (Int × Int)} (hv : Boxed W B 23 (.slice ao n cap)) (hrow : OwnL r W ao n cap L) (hs : s ≤ W.heap.size) (hsr : s ≤ r) (hB : s ≤ B)
    (hb : Below W.heap.size W w1) (hown : OwnL r w2 ao' n' cap' L') (hg : w1.grownBy w2 (Value.slice ao n cap).ownBlock) :
    Boxed w2 B 23 (.slice ao n cap) ∧ Boxed (w2.setCell ⟨B, 0, none⟩ (.slice ao' n' cap')) B 23 (.slice ao' n' cap') ∧ OwnL r (w2.setCell ⟨B, 0, none⟩ (.slice ao' n' cap')) ao' n' cap' L' ∧
    KeepsOthers W (w2.setCell ⟨B, 0, none⟩ (.slice ao' n' cap')) ∧ Below s W (w2.setCell ⟨B, 0, none⟩ (.slice ao' n' cap')) ∧ (∀ B' t u, Boxed W B' t u → t ≠ 35 → B' ≠ B → Boxed (w2.setCell ⟨B, 0, none⟩ (.slice ao' n' cap')) B' t u) ∧
    (∀ b, b < W.heap.size → b < r → b ≠ B → (w2.setCell ⟨B, 0, none⟩ (.slice ao' n' cap')).heap[b]? = W.heap[b]?) := by
  have hrow1 := hrow.next hb
  have hv1 := Boxed.next hv hb
  have hv2 : Boxed w2 B 23 (.slice ao n cap) := hv1.kept hg (hv1.not_row (by decide) hrow1.2)
  have hrw : ∀ j o, (Value.slice ao n cap).ownBlock = some j → w1.heap[j]? = some o → s ≤ j ∧ o.isCells = true := by
    intro j o ej hj
    rcases hrow1.2.2 with ⟨hn, _⟩ | ⟨g, cap, cur, hn, hsg, hgb, _⟩
    · rw [hn] at ej; simp [Value.ownBlock] at ej
    · rw [hn] at ej
      obtain rfl : g = j := by simpa [Value.ownBlock] using ej
      rw [hgb] at hj; cases hj; exact ⟨Nat.le_trans hsr hsg, rfl⟩
  refine ⟨hv2, hv2.set _, ⟨hown.1, hown.2.kept (grownBy_setCell' w2 B _) (.inr (hv2.not_row (by decide) hown.2).symm)⟩, ?_, ?_, ?_, ?_⟩
  · refine ((KeepsOthers.of_grownBy (below_grown hb) (fun j o e => by cases e)).trans (KeepsOthers.of_grownBy hg fun j o ej hj => (hrw j o ej hj).2)).trans (KeepsOthers.setCell _ _ _)
  · refine ((hb.mono hs).trans ((Below.refl s w1).grown hg (Nat.le_trans hs hb.size) fun j ej => ?_)).setCell (p := ⟨B, 0, none⟩) hB _
    have hlt := hrow1.2.lt j ej
    exact Nat.le_trans hsr hlt.1
  · intro B' t u hu ht hne
    have hu1 := Boxed.next hu hb
    exact (hu1.kept hg (hu1.not_row ht hrow1.2)).other hne _
  · intro b hbW hbr hne
    rw [Below.heap_setCell w2 ⟨B, 0, none⟩ _ b hne]
    refine (hg.block b (Nat.lt_of_lt_of_le hbW hb.size) (fun e => ?_)).trans (hb.block b hbW)
    have := (hrow1.2.lt b e.symm).1
    omega

theorem not_row {W : World} {b : Nat} {cs : Array Value} {t e : TypeId} {f : Nat × Nat} (h : W.heap[b]? = some (.cells cs t f)) (hte : t ≠ e) {base size k : Nat} {v : Value} {xs : List Value} (hr : W.ownsRow base e size v k xs) : some b ≠ v.ownBlock := by
  rcases hr.2 with ⟨rfl, _⟩ | ⟨g, cap, cur, rfl, _, hgb, _⟩
  · simp [Value.ownBlock]
  · intro e'
    obtain rfl : b = g := by simpa [Value.ownBlock] using e'
    have := h.symm.trans hgb
    simp at this
    exact hte this.2.1
/-- A cell of a block of another type is as it was behind the callee, and behind the store into the box. -/
theorem cell_aside {W w1 w2 : World} {s B b i : Nat} {ao : Option Addr} {n cap : Nat} {L : List (Int × Int)} {cs : Array Value} {t : TypeId} {f : Nat × Nat} {u : Value} (hrow : OwnL s W ao n cap L)
    (hb : Below W.heap.size W w1) (hg : w1.grownBy w2 (Value.slice ao n cap).ownBlock) (h : W.heap[b]? = some (.cells cs t f)) (ht : t ≠ 35) (hc : W.cell? ⟨b, i, none⟩ = some u) (hne : b ≠ B) :
    w2.cell? ⟨b, i, none⟩ = some u ∧ ∀ v, (w2.setCell ⟨B, 0, none⟩ v).cell? ⟨b, i, none⟩ = some u := by
  have hlt : b < W.heap.size := (Array.getElem?_eq_some_iff.1 h).1
  have h1 : w1.heap[b]? = some (.cells cs t f) := (hb.block b hlt).trans h
  have c1 : w1.cell? ⟨b, i, none⟩ = some u := (hb.cell (p := ⟨b, i, none⟩) hlt).trans hc
  have c2 := hg.cell c1 (not_row h1 ht (hrow.next hb).2)
  exact ⟨c2, fun v => (World.cell?_setCell_far w2 ⟨B, 0, none⟩ ⟨b, i, none⟩ v (Ne.symm hne)).trans c2⟩

end Go.Proofs.YtbmfehkahjeobaaDoor
