/-
  PROVED HERE: what it means that a slice of pairs lies in memory of the call's own (no Go text but the types' table). No condition.
-/
import Derived.Test.YtfpmkihlfhpgdaaRows
import Derived.Test.YtfpmkihlfhpgdaaLab
import Derived.WalkKit
import Derived.Below
import Derived.OwnWalk
import Derived.Laws.AppendOwn
import Derived.Laws.OwnMore
import Derived.Maps.AppendAt
namespace Go.Proofs.Ytfpmkihlfhpgdaa
open Go.RowKit

def cellsOf : List (Int × Int) → List Value
  | [] => []
  | p :: r => .int .u64 p.1 :: .int .i64 p.2 :: cellsOf r
theorem cellsOf_append (A C : List (Int × Int)) : cellsOf (A ++ C) = cellsOf A ++ cellsOf C := by
  induction A with
  | nil => rfl
  | cons p r ih => simp [cellsOf, ih]
theorem cellsOf_length (A : List (Int × Int)) : (cellsOf A).length = A.length * 2 := by
  induction A with
  | nil => rfl
  | cons p r ih => simp [cellsOf, ih]; omega
theorem cellsOf_at (A : List (Int × Int)) : ∀ i, i < A.length → (cellsOf A)[i * 2]? = some (.int .u64 (A.getD i (0, 0)).1) ∧ (cellsOf A)[i * 2 + 1]? = some (.int .i64 (A.getD i (0, 0)).2) := by
  induction A with
  | nil => intro i hi; exact absurd hi (by simp)
  | cons p r ih =>
    intro i hi
    cases i with
    | zero => simp [cellsOf]
    | succ j =>
      have h := ih j (by simpa using hi)
      have e1 : (j + 1) * 2 = j * 2 + 1 + 1 := by omega
      have e2 : (j + 1) * 2 + 1 = j * 2 + 1 + 1 + 1 := by omega
      rw [e1]
      simpa [cellsOf] using h

/-- The slice of n pairs at ao is the call's own (blocks from base on) and holds L. -/
def OwnL (base : Nat) (w : World) (ao : Option Addr) (n cap : Nat) (L : List (Int × Int)) : Prop :=
  L.length = n ∧ w.ownsRow base 61 2 (.slice ao n cap) n (cellsOf L)
theorem OwnL.nil (base : Nat) (w : World) : OwnL base w none 0 0 [] := ⟨rfl, World.ownsRow_nil _ _ _ _⟩
theorem OwnL.lab {base : Nat} {w : World} {ao : Option Addr} {n cap : Nat} {L : List (Int × Int)} (h : OwnL base w ao n cap L) : Lab w.heap.size w ao n cap L := by
  obtain ⟨hl, hr⟩ := h
  have hr' := hr
  obtain ⟨_, ⟨hv, hn⟩ | ⟨g, cap', cur, hv, hb, hh, hnc, hm, hs, ht⟩⟩ := hr
  · simp only [Value.slice.injEq] at hv
    obtain ⟨rfl, rfl, rfl⟩ := hv
    exact ⟨hl, by omega, ⟨by omega, fun _ => rfl⟩, fun h => absurd h (by omega)⟩
  · simp only [Value.slice.injEq] at hv
    obtain ⟨rfl, _, rfl⟩ := hv
    refine ⟨hl, hnc, ⟨by unfold maxLen at hm; omega, fun hz => by cases hz⟩, fun _ => ⟨g, 0, rfl, (Array.getElem?_eq_some_iff.1 hh).1, fun i hi => ?_⟩⟩
    have hc := cellsOf_at L i (by omega)
    rw [Nat.zero_add]
    exact ⟨(hr'.cellAt (i * 2) (by omega)).trans hc.1, (hr'.cellAt (i * 2 + 1) (by omega)).trans hc.2⟩
theorem cell_two_new (w : World) (x y : Value) (t : TypeId) : ∀ j u, [x, y][j]? = some u → (w.alloc (.cells #[x, y] t)).cell? ((⟨w.heap.size, 0, none⟩ : Addr).add j) = some u := by
  intro j u hj
  match j, hj with
  | 0, hj => simp at hj; subst hj; simp [Addr.add]
  | 1, hj => simp at hj; subst hj; simp [Addr.add]
theorem ownsRow_two {W : World} {base : Nat} {e : TypeId} {size : Nat} {v : Value} {k : Nat} {xs : List Value} (h : W.ownsRow base e size v (k + 1) xs) : ∃ g cap, v = .slice (some ⟨g, 0, none⟩) (k + 1) cap := by
  rcases h.2 with ⟨_, h0⟩ | ⟨g, cap, _, rfl, _⟩
  · omega
  · exact ⟨g, cap, rfl⟩
/-- A label and one pair more, if it has something to say. -/
def snoc (L : List (Int × Int)) (c l : Int) : List (Int × Int) := if l = 2 then L else L ++ [(c, l)]
theorem snoc_two {L : List (Int × Int)} {c l : Int} (h : l = 2) : snoc L c l = L := by unfold snoc; rw [if_pos h]
theorem snoc_new {L : List (Int × Int)} {c l : Int} (h : ¬ l = 2) : snoc L c l = L ++ [(c, l)] := by unfold snoc; rw [if_neg h]
theorem snoc_len (L : List (Int × Int)) (c l : Int) : (snoc L c l).length ≤ L.length + 1 := by unfold snoc; split <;> simp
end Go.Proofs.Ytfpmkihlfhpgdaa
