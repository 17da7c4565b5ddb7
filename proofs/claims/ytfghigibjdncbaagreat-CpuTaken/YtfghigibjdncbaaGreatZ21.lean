/-
 PROVED HERE: what serial's Take and Split return when they are called (contracts over this translation). What is asked stands at each.
-/
import Derived.Test.YtfghigibjdncbaaGreatRows
import Derived.RegionTactic
import Derived.ChangeAlike
import Derived.Deep.RegionHeld3
import Derived.Deep.DeepCutAuto
import Derived.Test.YtfghigibjdncbaaGreatZ19
import Derived.Test.YtfghigibjdncbaaGreatZ20
namespace Go.Proofs.YtfghigibjdncbaaGreat.SrM
set_option maxRecDepth 100000
set_option maxHeartbeats 8000000
open Go.ChangeShapes Go.WideShapes Go.ChangeAt Go.RowKit
set_option linter.unusedVariables false

structure Giver (w : World) (a b : Nat) (w3 : World) : Prop where
 s : Two w3 w.heap.size 43 (.int .u64 (a : Int)) (.int .u64 (b : Int))
 r : Two w3 (w.heap.size + 1) 43 (.int .u64 0) (.int .u64 0)
 g : Two w3 (w.heap.size + 1 + 1) 999 (.int .u64 (a : Int)) (.int .u64 (b : Int))
 bel : Below w.heap.size w w3
theorem Giver.next {w w3 w4 : World} {a b : Nat} (h : Giver w a b w3) (k : Below w3.heap.size w3 w4) : Giver w a b w4 :=
 ⟨h.s.next k, h.r.next k, h.g.next k, h.bel.trans (k.mono h.bel.size)⟩
structure Giver2 (w : World) (a b : Nat) (w3 : World) : Prop where
 s : Two w3 w.heap.size 43 (.int .u64 (a : Int)) (.int .u64 (b : Int))
 r : Two w3 (w.heap.size + 1) 43 (.int .u64 0) (.int .u64 0)
 t : Two w3 (w.heap.size + 1 + 1) 43 (.int .u64 0) (.int .u64 0)
 g : Two w3 (w.heap.size + 1 + 1 + 1) 999 (.int .u64 (a : Int)) (.int .u64 (b : Int))
 bel : Below w.heap.size w w3
theorem Giver2.next {w w3 w4 : World} {a b : Nat} (h : Giver2 w a b w3) (k : Below w3.heap.size w3 w4) : Giver2 w a b w4 :=
 ⟨h.s.next k, h.r.next k, h.t.next k, h.g.next k, h.bel.trans (k.mono h.bel.size)⟩
end Go.Proofs.YtfghigibjdncbaaGreat.SrM
