/-
 PROVED HERE: what law 16's brief and awake and the document's FitLabel return when they are called (contracts over this tra. What is asked stands at each.
-/
import Derived.Deep.DeepCutAuto
import Derived.Test.YtfghigibjdncbaaGreatZ10
import Derived.Test.YtfghigibjdncbaaGreatZ15
import Derived.Test.YtfghigibjdncbaaGreatZ16
namespace Go.Proofs.YtfghigibjdncbaaGreat
set_option maxRecDepth 100000
set_option maxHeartbeats 8000000
open Go.RowKit Go.Shelf
set_option linter.unusedVariables false
attribute [local go_sem] Oper.semAt_some

def brP (x : Ob) : Prop := x.label.length ≤ 20 ∧ x.data.length ≤ 200 ∧ x.links.length ≤ 70 ∧ x.maps.length ≤ 20 ∧ soundB x = true
theorem brP.quota {x : Ob} (h : brP x) : 1 ≤ x.quota ∧ x.quota ≤ 4096 := by
 have hc := com_iff.1 (sound_iff.1 h.2.2.2.2).1
 exact ⟨hc.2.1, hc.2.2.1⟩
end Go.Proofs.YtfghigibjdncbaaGreat
