/-
 PROVED HERE: plain facts on rows of spans (no Go text): whoever takes and parts numbers, all that have some have none in co. What is asked stands at each.
-/
import Derived.WalkKit
namespace Go.Proofs.YtloghnpfplljgaaGreat
set_option maxRecDepth 100000
set_option maxHeartbeats 8000000
set_option linter.unusedVariables false
namespace Sr
abbrev Sp := Nat × Nat
def inS (p : Sp) (x : Nat) : Prop := p.1 ≤ x ∧ x < p.2
abbrev nth (H : List Sp) (i : Nat) : Sp := H.getD i (0, 0)
abbrev nthN (T : List Nat) (i : Nat) : Nat := T.getD i 0
end Sr
end Go.Proofs.YtloghnpfplljgaaGreat
