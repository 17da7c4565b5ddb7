/-
 PROVED HERE: what it means that a slice of pairs lies in memory of the call's own (no Go text but the types' table); what l. What is asked stands at each.
-/
import Derived.Test.YtfghigibjdncbaaGreatRows
import Derived.WalkKit
import Derived.Below
import Derived.OwnWalk
import Derived.Laws.AppendOwn
import Derived.Laws.OwnMore
import Derived.Maps.AppendAt
import Derived.ProofKit
import Derived.OpenShut
import Derived.WalkSmall
import Derived.Deep.QuietTactic
import Derived.BigQuiet
import Derived.Test.YtfghigibjdncbaaGreatZ1
import Derived.Test.YtfghigibjdncbaaGreatZ2
namespace Go.Proofs.YtfghigibjdncbaaGreat
set_option maxRecDepth 100000
set_option maxHeartbeats 8000000
open Go.RowKit

def cellsOf : List (Int × Int) → List Value
 | [] => []
 | p :: r => .int .u64 p.1 :: .int .i64 p.2 :: cellsOf r
theorem cellsOf_at (A : List (Int × Int)) : ∀ i, i < A.length → (cellsOf A)[i * 2]? = some (.int .u64 (A.getD i (0, 0)).1) ∧ (cellsOf A)[i * 2 + 1]? = some (.int .i64 (A.getD i (0, 0)).2) := by
 induction A with
 | nil => intro i hi; exact absurd hi (by simp)
 | cons p r ih =>
  intro i hi
  cases i with
  | zero => simp [cellsOf]
  | succ j =>
   have h := ih j (by simpa using hi)
   have e1 : (j + 1) * 2 = j * 2 + 1 + 1 := by omega
   have e2 : (j + 1) * 2 + 1 = j * 2 + 1 + 1 + 1 := by omega
   rw [e1]
   simpa [cellsOf] using h

def OwnL (base : Nat) (w : World) (ao : Option Addr) (n cap : Nat) (L : List (Int × Int)) : Prop :=
 L.length = n ∧ w.ownsRow base 112 2 (.slice ao n cap) n (cellsOf L)
theorem OwnL.nil (base : Nat) (w : World) : OwnL base w none 0 0 [] := ⟨rfl, World.ownsRow_nil _ _ _ _⟩
theorem OwnL.lab {base : Nat} {w : World} {ao : Option Addr} {n cap : Nat} {L : List (Int × Int)} (h : OwnL base w ao n cap L) : Lab w.heap.size w ao n cap L := by
 obtain ⟨hl, hr⟩ := h
 have hr' := hr
 obtain ⟨_, ⟨hv, hn⟩ | ⟨g, cap', cur, hv, hb, hh, hnc, hm, hs, ht⟩⟩ := hr
 ·simp only [Value.slice.injEq] at hv
  obtain ⟨rfl, rfl, rfl⟩ := hv
  exact ⟨hl, by omega, ⟨by omega, fun _ => rfl⟩, fun h => absurd h (by omega)⟩
 ·simp only [Value.slice.injEq] at hv
  obtain ⟨rfl, _, rfl⟩ := hv
  refine ⟨hl, hnc, ⟨by unfold maxLen at hm; omega, fun hz => by cases hz⟩, fun _ => ⟨g, 0, rfl, (Array.getElem?_eq_some_iff.1 hh).1, fun i hi => ?_⟩⟩
  have hc := cellsOf_at L i (by omega)
  rw [Nat.zero_add]
  exact ⟨(hr'.cellAt (i * 2) (by omega)).trans hc.1, (hr'.cellAt (i * 2 + 1) (by omega)).trans hc.2⟩
def snoc (L : List (Int × Int)) (c l : Int) : List (Int × Int) := if l = 2 then L else L ++ [(c, l)]
end Go.Proofs.YtfghigibjdncbaaGreat
namespace Go.Proofs.YtfghigibjdncbaaGreat
set_option maxRecDepth 100000
set_option maxHeartbeats 8000000
open Go.ChangeShapes Go.WideShapes Go.ChangeAt Go.RowKit
set_option linter.unusedVariables false

def Cts (B : Nat) (w : World) (ao : Option Addr) (n cap : Nat) (C : List Int) : Prop :=
 C.length = n ∧ n ≤ cap ∧ cap ≤ 9223372036854775807 ∧
 (0 < n → ∃ b off, ao = some ⟨b, off, none⟩ ∧ b < B ∧ ∀ i, i < n → w.cell? ⟨b, off + i, none⟩ = some (.int .u64 (C.getD i 0)))
theorem Cts.later {w w' : World} {ao : Option Addr} {n cap : Nat} {L : List Int} {B : Nat} (h : Cts B w ao n cap L) (k : Below B w w') : Cts B w' ao n cap L := by
 obtain ⟨h1, h2, h3, h4⟩ := h
 refine ⟨h1, h2, h3, fun hn => ?_⟩
 obtain ⟨b, off, e, hb, hc⟩ := h4 hn
 exact ⟨b, off, e, hb, fun i hi => (k.cell (p := ⟨b, off + i, none⟩) hb).trans (hc i hi)⟩
theorem Cts.next {w w' : World} {ao : Option Addr} {n cap : Nat} {L : List Int} (h : Cts w.heap.size w ao n cap L) (k : Below w.heap.size w w') : Cts w'.heap.size w' ao n cap L := by
 obtain ⟨h1, h2, h3, h4⟩ := h.later k
 refine ⟨h1, h2, h3, fun hn => ?_⟩
 obtain ⟨b, off, e, hb, hc⟩ := h4 hn
 exact ⟨b, off, e, Nat.lt_of_lt_of_le hb k.size, hc⟩
def owned (L : List (Int × Int)) : List Int := (L.filter fun p => decide (p.2 = 0)).map Prod.fst
end Go.Proofs.YtfghigibjdncbaaGreat
