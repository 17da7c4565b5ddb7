/-
 PROVED HERE: what each function of package serial that has no call of perm, and its like of the document's answer, returns . What is asked stands at each.
-/
import Derived.Test.YtcmcakandbpjfaaRows
import Derived.RegionTactic
import Derived.ChangeAlike
import Derived.Deep.RegionHeld3
import Derived.Deep.DeepCutAuto
import Derived.Deep.QuietTactic
import Derived.BigQuiet
import Derived.Test.YtcmcakandbpjfaaY12
import Derived.Test.YtcmcakandbpjfaaY13
namespace Go.Proofs.Ytcmcakandbpjfaa.SrM
set_option maxRecDepth 100000
set_option maxHeartbeats 8000000
open Go.ChangeShapes Go.WideShapes Go.ChangeAt Go.RowKit
set_option linter.unusedVariables false

def hasB (a b n : Nat) : Bool := decide (a ≤ n) && decide (n < b)
end Go.Proofs.Ytcmcakandbpjfaa.SrM
namespace Go.Proofs.Ytcmcakandbpjfaa.SrM
set_option maxRecDepth 100000
set_option maxHeartbeats 8000000
open Go.ChangeShapes Go.WideShapes Go.ChangeAt Go.RowKit
set_option linter.unusedVariables false

structure Giver (w : World) (a b : Nat) (w3 : World) : Prop where
 s : Two w3 w.heap.size 47 (.int .u64 (a : Int)) (.int .u64 (b : Int))
 r : Two w3 (w.heap.size + 1) 47 (.int .u64 0) (.int .u64 0)
 g : Two w3 (w.heap.size + 1 + 1) 999 (.int .u64 (a : Int)) (.int .u64 (b : Int))
 bel : Below w.heap.size w w3
theorem Giver.next {w w3 w4 : World} {a b : Nat} (h : Giver w a b w3) (k : Below w3.heap.size w3 w4) : Giver w a b w4 :=
 ⟨h.s.next k, h.r.next k, h.g.next k, h.bel.trans (k.mono h.bel.size)⟩
structure Giver2 (w : World) (a b : Nat) (w3 : World) : Prop where
 s : Two w3 w.heap.size 47 (.int .u64 (a : Int)) (.int .u64 (b : Int))
 r : Two w3 (w.heap.size + 1) 47 (.int .u64 0) (.int .u64 0)
 t : Two w3 (w.heap.size + 1 + 1) 47 (.int .u64 0) (.int .u64 0)
 g : Two w3 (w.heap.size + 1 + 1 + 1) 999 (.int .u64 (a : Int)) (.int .u64 (b : Int))
 bel : Below w.heap.size w w3
theorem Giver2.next {w w3 w4 : World} {a b : Nat} (h : Giver2 w a b w3) (k : Below w3.heap.size w3 w4) : Giver2 w a b w4 :=
 ⟨h.s.next k, h.r.next k, h.t.next k, h.g.next k, h.bel.trans (k.mono h.bel.size)⟩
end Go.Proofs.Ytcmcakandbpjfaa.SrM
namespace Go.Proofs.Ytcmcakandbpjfaa.SrM
set_option maxRecDepth 100000
set_option maxHeartbeats 8000000
open Go.ChangeShapes Go.WideShapes Go.ChangeAt Go.RowKit
set_option linter.unusedVariables false

def hasK (k a b m : Nat) : Bool := (decide (1 ≤ m) && decide (m ≤ 2305843009213693952)) && hasB a b (Pm.numN k m)
end Go.Proofs.Ytcmcakandbpjfaa.SrM
