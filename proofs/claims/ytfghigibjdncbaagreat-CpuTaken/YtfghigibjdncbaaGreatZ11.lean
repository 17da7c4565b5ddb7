/-
 PROVED HERE: plain facts on what a fault and an alert leave of a thread, and a thread's cells that are overwritten (no Go t. What is asked stands at each.
-/
import Derived.Test.YtfghigibjdncbaaGreatZ10
namespace Go.Proofs.YtfghigibjdncbaaGreat
set_option maxRecDepth 100000
set_option maxHeartbeats 8000000

def dvT (t : Th) (g why : Int) : Th := { t with regs := (t.regs.set 14 t.pc).set 15 why, pc := g }
def flT (t : Th) (why : Int) : Th := if t.handler = 0 then { t with state := 2 } else { dvT t t.handler why with handler := 0 }
def alB (t : Th) : Bool := !(decide (t.alerts.length = 0) || decide (t.vector = 0))
def alT (t : Th) : Th := if alB t then { dvT t t.vector (t.alerts.getD 0 0) with vector := 0, alerts := t.alerts.drop 1 } else t
theorem set_getD {l : List Int} {k i : Nat} {v : Int} (hk : k < l.length) : (l.set k v).getD i 0 = if k = i then v else l.getD i 0 := by
 simp only [List.getD_eq_getElem?_getD, List.getElem?_set]
 by_cases e : k = i
 ·subst e; simp [hk]
 ·simp [e]
structure SmT (t : Th) : Prop where
 c : t.clear.length < 8796093022208
 al : t.alerts.length < 4294967296
 l0 : t.l0.length < 8796093022208
 l1 : t.l1.length < 8796093022208
 l2 : t.l2.length < 8796093022208
 l3 : t.l3.length < 8796093022208
def thO (t : Th) : Ob := { zOb with kind := 4, th := t }
theorem SmT.ob {t : Th} (h : SmT t) : Small (thO t) := ⟨show (0 : Nat) < _ by decide, show (0 : Nat) < _ by decide, show (0 : Nat) < _ by decide, show (0 : Nat) < _ by decide, h.c, h.al, h.l0, h.l1, h.l2, h.l3, show (0 : Nat) < _ by decide, show (0 : Nat) < _ by decide, show (0 : Nat) < _ by decide, show (0 : Nat) < _ by decide⟩
theorem SmT.of {x : Ob} (h : Small x) : SmT x.th := ⟨h.c25, h.c36, h.c39, h.c40, h.c41, h.c42⟩
theorem SmT.fl {t : Th} (h : SmT t) (why : Int) : SmT (flT t why) := by
 unfold flT
 split <;> exact ⟨h.c, h.al, h.l0, h.l1, h.l2, h.l3⟩
theorem SmT.alt {t : Th} (h : SmT t) : SmT (alT t) := by
 unfold alT
 split
 ·exact ⟨h.c, by have := h.al; show (t.alerts.drop 1).length < _; rw [List.length_drop]; omega, h.l0, h.l1, h.l2, h.l3⟩
 ·exact h
section
variable {D : Nat → Prop} {w : World} {T : Array Value} {t t' : Th} {f : Nat → Option Value}
theorem ThF.setpc (h : ThF D w f t) (v : Int) : ThF D w (fun i => if 16 = i then some (.int .u64 v) else f i) { t with pc := v } :=
 ⟨h.rlen, fun i hi => (if_neg (by omega)).trans (h.regs i hi), rfl, h.clear, h.sc, h.si, h.handler, h.vector, h.state, h.wc, h.wi, h.wx, h.wv, h.wd, h.alerts, h.lo, h.hi, h.l0, h.l1, h.l2, h.l3⟩
theorem ThF.sethandler (h : ThF D w f t) (v : Int) : ThF D w (fun i => if 20 = i then some (.int .u64 v) else f i) { t with handler := v } :=
 ⟨h.rlen, fun i hi => (if_neg (by omega)).trans (h.regs i hi), h.pc, h.clear, h.sc, h.si, rfl, h.vector, h.state, h.wc, h.wi, h.wx, h.wv, h.wd, h.alerts, h.lo, h.hi, h.l0, h.l1, h.l2, h.l3⟩
theorem ThF.setvector (h : ThF D w f t) (v : Int) : ThF D w (fun i => if 21 = i then some (.int .u64 v) else f i) { t with vector := v } :=
 ⟨h.rlen, fun i hi => (if_neg (by omega)).trans (h.regs i hi), h.pc, h.clear, h.sc, h.si, h.handler, rfl, h.state, h.wc, h.wi, h.wx, h.wv, h.wd, h.alerts, h.lo, h.hi, h.l0, h.l1, h.l2, h.l3⟩
theorem ThF.setstate (h : ThF D w f t) (v : Int) : ThF D w (fun i => if 22 = i then some (.int .i64 v) else f i) { t with state := v } :=
 ⟨h.rlen, fun i hi => (if_neg (by omega)).trans (h.regs i hi), h.pc, h.clear, h.sc, h.si, h.handler, h.vector, rfl, h.wc, h.wi, h.wx, h.wv, h.wd, h.alerts, h.lo, h.hi, h.l0, h.l1, h.l2, h.l3⟩
theorem ThF.setalerts (h : ThF D w f t) {L : List Int} {a : Option Addr} {n c : Nat} (k : CtD D w a n c L) : ThF D w (fun i => if 28 = i then some (.slice a n c) else f i) { t with alerts := L } :=
 ⟨h.rlen, fun i hi => (if_neg (by omega)).trans (h.regs i hi), h.pc, h.clear, h.sc, h.si, h.handler, h.vector, h.state, h.wc, h.wi, h.wx, h.wv, h.wd, ⟨a, n, c, rfl, k⟩, h.lo, h.hi, h.l0, h.l1, h.l2, h.l3⟩
theorem ThF.setreg (h : ThF D w f t) {k : Nat} (hk : k < 16) (v : Int) : ThF D w (fun i => if k = i then some (.int .u64 v) else f i) { t with regs := t.regs.set k v } :=
 ⟨by simp [h.rlen], fun i hi => by rw [set_getD (by rw [h.rlen]; exact hk)]; show (if k = i then _ else _) = _; split <;> first | rfl | exact h.regs i hi, (if_neg (by omega)).trans h.pc, by show LbV D w (if k = 17 then _ else _) _; rw [if_neg (by omega)]; exact h.clear, (if_neg (by omega)).trans h.sc, (if_neg (by omega)).trans h.si, (if_neg (by omega)).trans h.handler, (if_neg (by omega)).trans h.vector, (if_neg (by omega)).trans h.state, (if_neg (by omega)).trans h.wc, (if_neg (by omega)).trans h.wi, (if_neg (by omega)).trans h.wx, (if_neg (by omega)).trans h.wv, (if_neg (by omega)).trans h.wd, by show CtV D w (if k = 28 then _ else _) _; rw [if_neg (by omega)]; exact h.alerts, (if_neg (by omega)).trans h.lo, (if_neg (by omega)).trans h.hi, by show LbV D w (if k = 31 then _ else _) _; rw [if_neg (by omega)]; exact h.l0, by show LbV D w (if k = 32 then _ else _) _; rw [if_neg (by omega)]; exact h.l1, by show LbV D w (if k = 33 then _ else _) _; rw [if_neg (by omega)]; exact h.l2, by show LbV D w (if k = 34 then _ else _) _; rw [if_neg (by omega)]; exact h.l3⟩
theorem ThD.put (h : ThD D w T t) {j : Nat} (hj : j < 35) {v : Value} (hv : v.oneCell' = true) (k : ThF D w (fun i => if j = i then some v else T[i]?) t') : ThD D w (T.setIfInBounds j v) t' :=
 ⟨by simp [h.size], set_one h.one hv, k.congr fun i _ => (set_at (by rw [h.size]; exact hj)).symm⟩
end
end Go.Proofs.YtfghigibjdncbaaGreat
