/-
 PROVED HERE: plain facts on levels as integers (no Go text): the level that a number stands for, the order, the greater and. What is asked stands at each.
-/
import Derived.WalkKit
namespace Go.Proofs.YtfghigibjdncbaaGreat
set_option maxRecDepth 100000
set_option maxHeartbeats 8000000
abbrev pt (b o : Nat) : Value := .pointer (some ⟨b, o, none⟩)
abbrev ud : Value := undef
end Go.Proofs.YtfghigibjdncbaaGreat
namespace Go.Proofs.YtfghigibjdncbaaGreat.Lv
set_option maxRecDepth 100000
set_option maxHeartbeats 8000000

def lv (n : Int) : Int := if 0 ≤ n ∧ n ≤ 5 then n else 2
def fit (n : Int) : Bool := decide (0 ≤ n ∧ n ≤ 5)
def leq (a b : Int) : Bool := decide (lv a ≤ lv b)
def join (a b : Int) : Int := if lv a < lv b then lv b else lv a
def raise (n : Int) : Int := if lv n = 0 then 5 else lv n
end Go.Proofs.YtfghigibjdncbaaGreat.Lv
