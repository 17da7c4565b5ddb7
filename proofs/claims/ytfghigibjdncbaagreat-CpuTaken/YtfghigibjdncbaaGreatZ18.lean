/-
 PROVED HERE: what a view's keeps returns when it is called (a contract over this translation); a range over a function whos. What is asked stands at each.
-/
import Derived.Deep.RegionHeld3
import Derived.Laws.EntriesVeiled
import Derived.Test.YtfghigibjdncbaaGreatZ7
import Derived.Test.YtfghigibjdncbaaGreatZ15
import Derived.Test.YtfghigibjdncbaaGreatZ17
namespace Go.Proofs.YtfghigibjdncbaaGreat
set_option maxRecDepth 100000
set_option maxHeartbeats 8000000
open Go.RowKit Go.Shelf
set_option linter.unusedVariables false
attribute [local go_sem] Oper.semAt_some

def plcB (D O : Lb) : Bool := leqB D (joinL (raiseL O) [])
end Go.Proofs.YtfghigibjdncbaaGreat
namespace Go.Proofs.YtfghigibjdncbaaGreat
set_option maxRecDepth 100000
set_option maxHeartbeats 8000000
open Go.RowKit Go.Shelf
set_option linter.unusedVariables false

def KT (D : Nat → Prop) (t : TypeId) (B : Nat) (W W' : World) : Prop := Keeps D W W' ∧ ∀ b C, B ≤ b → W.heap[b]? = some (.cells C t) → W'.heap[b]? = some (.cells C t)
theorem KT.trans {D : Nat → Prop} {t : TypeId} {B : Nat} {X Y Z : World} (h : KT D t B X Y) (k : KT D t B Y Z) : KT D t B X Z := ⟨h.1.trans k.1, fun b C hb hc => k.2 b C hb (h.2 b C hb hc)⟩
end Go.Proofs.YtfghigibjdncbaaGreat
namespace Go.Proofs.YtfghigibjdncbaaGreat
set_option maxRecDepth 100000
set_option maxHeartbeats 8000000
open Go.RowKit Go.Shelf
set_option linter.unusedVariables false
attribute [local go_sem] Oper.semAt_some

theorem Oth.grown {B : Nat} {w W : World} (h : Oth B w W) : w.grownBy W (some B) :=
 have b := h.below B w (Nat.le_refl _) (Below.refl _ _)
 ⟨b.os, b.tape, b.output, b.size, fun k _ hk => h.block k (fun e => hk (by rw [e]))⟩
end Go.Proofs.YtfghigibjdncbaaGreat
