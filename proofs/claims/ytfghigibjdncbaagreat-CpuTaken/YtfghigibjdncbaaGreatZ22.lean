/-
 PROVED HERE: plain facts on who holds what: the table of holdings against the containers that have a link, and the ways up . What is asked stands at each.
-/
import Derived.Deep.QuietTactic
import Derived.BigQuiet
import Derived.Test.YtfghigibjdncbaaGreatZ15
import Derived.Test.YtfghigibjdncbaaGreatZ17
import Derived.Test.YtfghigibjdncbaaGreatZ18
import Derived.Test.YtfghigibjdncbaaGreatZ21
namespace Go.Proofs.YtfghigibjdncbaaGreat
set_option maxRecDepth 100000
set_option maxHeartbeats 8000000

def upB (X : List Ob) (ro i : Int) : Bool := (decide (i = ro) && decide ((rabv X i).length = 0)) || (decide (0 < (rabv X i).length) && decide ((rabv X i).getLast?.getD 0 = ro))
end Go.Proofs.YtfghigibjdncbaaGreat
namespace Go.Proofs.YtfghigibjdncbaaGreat
set_option maxRecDepth 100000
set_option maxHeartbeats 8000000

structure Kin (x y : Ob) : Prop where
 id : y.id = x.id
 kind : y.kind = x.kind
 label : y.label = x.label
 quota : y.quota = x.quota
 fixed : y.fixed = x.fixed
 links : y.links = x.links
 dlen : y.data.length = x.data.length
 lo : y.th.lo = x.th.lo
 hi : y.th.hi = x.th.hi
theorem Kin.refl (x : Ob) : Kin x x := ⟨rfl, rfl, rfl, rfl, rfl, rfl, rfl, rfl, rfl⟩
end Go.Proofs.YtfghigibjdncbaaGreat
