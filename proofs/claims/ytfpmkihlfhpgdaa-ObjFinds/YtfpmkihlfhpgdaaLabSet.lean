/-
  PROVED HERE: what put, copied and Set of package label return when they are called (contracts over this translation). The label has fewer than 2^38 pairs.
-/
import Derived.Test.YtfpmkihlfhpgdaaLabFold
import Derived.Laws.AppendOwnNone
namespace Go.Proofs.Ytfpmkihlfhpgdaa
open Go.RowKit Go.Shelf
set_option linter.unusedVariables false
attribute [local go_sem] Oper.semAt_some

/-- The level that put gives a category of which both labels speak. -/
def putV (c : Int) (x : Int × (Int × Int)) : Int := if x.1 = c then x.2.2 else x.2.1
theorem putV_hit {c : Int} {x : Int × (Int × Int)} (h : x.1 = c) : putV c x = x.2.2 := by unfold putV; rw [if_pos h]
theorem putV_miss {c : Int} {x : Int × (Int × Int)} (h : ¬ x.1 = c) : putV c x = x.2.1 := by unfold putV; rw [if_neg h]
def putP (c : Int) (pre : List (Int × (Int × Int))) : List (Int × Int) := pre.foldl (fun acc x => snoc acc x.1 (putV c x)) []
theorem putP_snoc (c : Int) (pre : List (Int × (Int × Int))) (x : Int × (Int × Int)) : putP c (pre ++ [x]) = snoc (putP c pre) x.1 (putV c x) := by simp [putP]
theorem putP_len (c : Int) (pre : List (Int × (Int × Int))) : (putP c pre).length ≤ pre.length := by
  have : ∀ (pre : List (Int × (Int × Int))) (acc : List (Int × Int)), (pre.foldl (fun acc x => snoc acc x.1 (putV c x)) acc).length ≤ acc.length + pre.length := by
    intro pre
    induction pre with
    | nil => intro acc; simp
    | cons x r ih => intro acc; have h1 := ih (snoc acc x.1 (putV c x)); have h2 := snoc_len acc x.1 (putV c x); simp only [List.foldl_cons, List.length_cons]; omega
  have h := this pre []
  simpa [putP] using h

theorem ownsRow_pos {W : World} {base : Nat} {e : TypeId} {size : Nat} {v : Value} {k : Nat} {xs : List Value} (hk : 0 < k) (h : W.ownsRow base e size v k xs) : ∃ g cap, v = .slice (some ⟨g, 0, none⟩) k cap := by
  rcases h.2 with ⟨_, h0⟩ | ⟨g, cap, _, rfl, _⟩
  · omega
  · exact ⟨g, cap, rfl⟩
theorem cellsOf_one (A : List (Int × Int)) : ∀ u ∈ cellsOf A, u.oneCell' = true := by
  induction A with
  | nil => intro u hu; cases hu
  | cons p r ih =>
    intro u hu
    simp only [cellsOf, List.mem_cons] at hu
    rcases hu with rfl | rfl | hu
    · rfl
    · rfl
    · exact ih u hu

def setE (A : List (Int × Int)) (c l : Int) : Int := if Lv.fit l = true then (if (putP c (both A [(c, l)])).length ≤ 16 then 0 else 6) else 4
def setL (A : List (Int × Int)) (c l : Int) : List (Int × Int) := if Lv.fit l = true then (if (putP c (both A [(c, l)])).length ≤ 16 then putP c (both A [(c, l)]) else A) else A

end Go.Proofs.Ytfpmkihlfhpgdaa
