/-
  PROVED HERE: what the iterator of package label over the categories of two labels hands out, for every loop body (a contract over this translation). No condition.
-/
import Derived.RangeFuncNested
import Derived.RangeFuncBound
import Derived.RangeFuncCalls
import Derived.RangeFuncLeaves
import Derived.Shelf.Abstract
import Derived.Shelf.RegionOpen
import Derived.WalkKit
import Derived.OwnWalkIn
import Derived.TacticsInMore
import Derived.LoopNIn
import Derived.LoopIn
import Derived.RegionIn
import Derived.WalkSmall
import Derived.Test.YtfpmkihlfhpgdaaLabCon3
import Derived.Test.YtfpmkihlfhpgdaaLabPure
namespace Go.Proofs.Ytfpmkihlfhpgdaa
open Go.RowKit Go.Shelf
set_option linter.unusedVariables false
attribute [local go_sem] Oper.semAt_some

def encP (x : Int × (Int × Int)) : Array Value := #[.int .u64 x.1, .agg #[.int .i64 x.2.1, .int .i64 x.2.2]]

set_option maxRecDepth 100000 in
set_option maxHeartbeats 1000000 in
theorem both1_in (n : Nat) (hn : 1 ≤ n) (l Ba Bb : Nat) (D : Nat → Prop) {ao ao' : Option Addr} {k k' cap cap' : Nat} {A C : List (Int × Int)} (J Jx : List (Int × (Int × Int)) → World → Prop)
    (hY : ∀ pre x W, J pre W → pre.length < (both A C).length → YieldAt Fence.wide (n - 1) Try.prog l (encP x) W fun e W' =>
      (e = .returned (.bool true) ∧ J (pre ++ [x]) W' ∧ Keeps D W W') ∨ (e = .returned (.bool false) ∧ Jx (pre ++ [x]) W'))
    (W : World) (hJ : AbidesFrom W.heap.size J) (hD : ∀ b, D b → b < W.heap.size) (hBa : W.cell? ⟨Ba, 0, none⟩ = some (.slice ao k cap)) (hBb : W.cell? ⟨Bb, 0, none⟩ = some (.slice ao' k' cap'))
    (hA : LabD D W ao k cap A) (hC : LabD D W ao' k' cap' C) (h0 : J [] W) :
    CallsIn Fence.wide n Try.prog 111 #[.func (.yield l) #[] #[], .pointer (some ⟨Ba, 0, none⟩), .pointer (some ⟨Bb, 0, none⟩)] W fun e W' => (∃ v, e = .returned v) ∧
      ((∃ ys, ys = both A C ∧ J ys W') ∨ (∃ pre, pre <+: both A C ∧ Jx pre W')) := by
  have hsd : ∀ (w : World) (m : Nat) (a : Addr) (v : Value), (w.drewN m).setCell a v = (w.setCell a v).drewN m := fun _ _ _ _ => rfl
  refine callsIn_of_wp Try.func111 rfl trivial ?_ rfl
  simp only [Try.ntmps111, List.size_toArray, List.length_cons, List.length_nil, Nat.reduceAdd, Nat.reduceSub, Array.replicate_succ, Array.replicate_zero, List.push_toArray, List.append_toArray, List.nil_append, List.cons_append]
  gi_wp2
  gi_region
  gi_wp2
  gi_loopw [4, 5] (fun va vb wr => ∃ (pre : List (Int × (Int × Int))) (ra rb : List (Int × Int)) (a1 : Option Addr) (n1 c1 : Nat) (a2 : Option Addr) (n2 c2 : Nat), va = .slice a1 n1 c1 ∧ vb = .slice a2 n2 c2 ∧ both A C = pre ++ both ra rb ∧ LabD D wr a1 n1 c1 ra ∧ LabD D wr a2 n2 c2 rb ∧ J pre wr ∧ W.heap.size ≤ wr.heap.size)
    (fun va vb _ => lenOf va + lenOf vb)
  case atStart => exact ⟨[], A, C, _, _, _, _, _, _, rfl, rfl, rfl, hA, hC, hJ _ W _ none h0 (show W.grownBy W.drew none from ⟨rfl, rfl, rfl, Nat.le_refl _, fun _ _ _ => rfl⟩) (fun r e => by cases e), Nat.le_refl _⟩
  case round =>
    obtain ⟨pre, ra, rb, a1, n1, c1, a2, n2, c2, rfl, rfl, hx, hla, hlb, hJs, hsz⟩ := hrel
    by_cases h0 : n1 + n2 = 0
    · have h1 : n1 = 0 := by omega
      have h2 : n2 = 0 := by omega
      subst h1 h2
      have hb : Hid (both ra rb = []) := both_nil (by have := hla.1; have := hlb.1; omega)
      gi_wp2
      go_end0
      exact ⟨⟨_, rfl⟩, .inl (by rw [hb.out]; simpa using hJs)⟩
    · have hl1 := hla.1
      have hl2 := hlb.1
      have hbc : Hid (both ra rb = _) := both_cons (A := ra) (C := rb) (by omega)
      have HLA : Hid (LabD D wr a1 n1 c1 ra) := hla
      have hDr : ∀ b, D b → b < wr.heap.size := fun b hb => Nat.lt_of_lt_of_le (hD b hb) hsz
      have hka : ∀ o, Keeps D wr (wr.alloc o) := fun o => ⟨by simp, fun b hb => Below.heap_alloc wr o b (hDr b hb)⟩
      have hkd : ∀ o m, Keeps D wr ((wr.alloc o).drewN m) := fun o m => hka o
      have HLB : Hid (LabD D wr a2 n2 c2 rb) := hlb
      by_cases hp1 : 0 < n1
      · gi_wp2_with (first | (refine ⟨trivial, ?_⟩; gi_at_call 112; refine (callsIn_wide.2 (foremost_any ((hla.later (hka _)).lab hDr) ((hlb.later (hka _)).lab hDr) (by omega))).mono ?_; rintro e w' ⟨rfl, m1, rfl⟩) | (refine ⟨trivial, ?_⟩; gi_at_call 113; refine (callsIn_wide.2 (take_any _ ((hla.later (hkd _ _)).lab hDr))).mono ?_; clear hla; rintro e w' ⟨a1', n1', c1', rfl, hla', m2, rfl⟩) | (refine ⟨trivial, ?_⟩; gi_at_call 113; refine (callsIn_wide.2 (take_any _ ((hlb.later (hkd _ _)).lab hDr))).mono ?_; clear hlb; rintro e w' ⟨a2', n2', c2', rfl, hlb', m3, rfl⟩))
        obtain ⟨fn, tmps, assign, body, hy, hR⟩ := hY pre (fore ra rb, (takeV ra (fore ra rb), takeV rb (fore ra rb))) ((wr.alloc (.cells #[.int .i64 (takeV ra (fore ra rb)), .int .i64 (takeV rb (fore ra rb))] 118)).drewN (m1 + m2 + m3))
          (hJ pre wr _ none hJs (show wr.grownBy _ none from (World.grownBy_alloc wr _ none).trans ⟨rfl, rfl, rfl, Nat.le_refl _, fun _ _ _ => rfl⟩) (fun r e => by cases e)) (by rw [hx, hbc.out]; simp)
        dsimp only [encP] at hy
        rw [hy]
        gi_wp2
        refine hR.mono ?_
        rintro e W3 (⟨rfl, hJ3, hk3⟩ | ⟨rfl, hJx3⟩)
        · gi_wp2
          go_roundw
          case rel =>
            have hk := (hkd (.cells #[.int .i64 (takeV ra (fore ra rb)), .int .i64 (takeV rb (fore ra rb))] 118) (m1 + m2 + m3)).trans hk3
            exact ⟨_, takeR ra (fore ra rb), takeR rb (fore ra rb), _, _, _, _, _, _, rfl, rfl, by rw [hx, hbc.out]; simp, hla' _ _ (HLA.out.later hk), hlb' _ _ (HLB.out.later hk), hJ3, Nat.le_trans hsz hk.1⟩
          case measure =>
            have e1 := (hla' _ _ HLA.out).1
            have e2 := (hlb' _ _ HLB.out).1
            have e3 := take_less (A := ra) (C := rb) (by omega)
            simp [lenOf]; omega
        · gi_wp2
          refine bodyPost_ret (results_none rfl _ _ _) rfl ?_
          exact ⟨⟨_, rfl⟩, .inr ⟨_, ⟨both (takeR ra (fore ra rb)) (takeR rb (fore ra rb)), by rw [hx, hbc.out]; simp⟩, hJx3⟩⟩
      · have hp0 : n1 = 0 := by omega
        have hp2 : 0 < n2 := by omega
        subst hp0
        gi_wp2_with (first | (refine ⟨trivial, ?_⟩; gi_at_call 112; refine (callsIn_wide.2 (foremost_any ((hla.later (hka _)).lab hDr) ((hlb.later (hka _)).lab hDr) (by omega))).mono ?_; rintro e w' ⟨rfl, m1, rfl⟩) | (refine ⟨trivial, ?_⟩; gi_at_call 113; refine (callsIn_wide.2 (take_any _ ((hla.later (hkd _ _)).lab hDr))).mono ?_; clear hla; rintro e w' ⟨a1', n1', c1', rfl, hla', m2, rfl⟩) | (refine ⟨trivial, ?_⟩; gi_at_call 113; refine (callsIn_wide.2 (take_any _ ((hlb.later (hkd _ _)).lab hDr))).mono ?_; clear hlb; rintro e w' ⟨a2', n2', c2', rfl, hlb', m3, rfl⟩))
        obtain ⟨fn, tmps, assign, body, hy, hR⟩ := hY pre (fore ra rb, (takeV ra (fore ra rb), takeV rb (fore ra rb))) ((wr.alloc (.cells #[.int .i64 (takeV ra (fore ra rb)), .int .i64 (takeV rb (fore ra rb))] 118)).drewN (m1 + m2 + m3))
          (hJ pre wr _ none hJs (show wr.grownBy _ none from (World.grownBy_alloc wr _ none).trans ⟨rfl, rfl, rfl, Nat.le_refl _, fun _ _ _ => rfl⟩) (fun r e => by cases e)) (by rw [hx, hbc.out]; simp)
        dsimp only [encP] at hy
        rw [hy]
        gi_wp2
        refine hR.mono ?_
        rintro e W3 (⟨rfl, hJ3, hk3⟩ | ⟨rfl, hJx3⟩)
        · gi_wp2
          go_roundw
          case rel =>
            have hk := (hkd (.cells #[.int .i64 (takeV ra (fore ra rb)), .int .i64 (takeV rb (fore ra rb))] 118) (m1 + m2 + m3)).trans hk3
            exact ⟨_, takeR ra (fore ra rb), takeR rb (fore ra rb), _, _, _, _, _, _, rfl, rfl, by rw [hx, hbc.out]; simp, hla' _ _ (HLA.out.later hk), hlb' _ _ (HLB.out.later hk), hJ3, Nat.le_trans hsz hk.1⟩
          case measure =>
            have e1 := (hla' _ _ HLA.out).1
            have e2 := (hlb' _ _ HLB.out).1
            have e3 := take_less (A := ra) (C := rb) (by omega)
            simp [lenOf]; omega
        · gi_wp2
          refine bodyPost_ret (results_none rfl _ _ _) rfl ?_
          exact ⟨⟨_, rfl⟩, .inr ⟨_, ⟨both (takeR ra (fore ra rb)) (takeR rb (fore ra rb)), by rw [hx, hbc.out]; simp⟩, hJx3⟩⟩


/-- The iterator's maker: both labels are boxed, the function captures the boxes. -/
theorem both_any (ao ao' : Option Addr) (n n' cap cap' : Nat) (w : World) :
    Calls Try.prog 107 #[.slice ao n cap, .slice ao' n' cap'] w fun e w' => e = .returned (.func (.func 111) #[] #[.pointer (some ⟨w.heap.size, 0, none⟩), .pointer (some ⟨w.heap.size + 1, 0, none⟩)]) ∧
      w' = (w.alloc (.cells #[.slice ao n cap] 24)).alloc (.cells #[.slice ao' n' cap'] 24) := by
  go_enter Try.func107, Try.ntmps107
  go_wp2
  go_ret
  exact ⟨rfl, rfl⟩

theorem both_stops (n : Nat) (hn : 1 ≤ n) (Ba Bb : Nat) (D : Nat → Prop) {ao ao' : Option Addr} {k k' cap cap' : Nat} {A C : List (Int × Int)} (w : World) (hba : Ba < w.heap.size) (hbb : Bb < w.heap.size) (hD : ∀ b, D b → b < w.heap.size)
    (hBa : w.cell? ⟨Ba, 0, none⟩ = some (.slice ao k cap)) (hBb : w.cell? ⟨Bb, 0, none⟩ = some (.slice ao' k' cap')) (hA : LabD D w ao k cap A) (hC : LabD D w ao' k' cap' C) :
    SeqStopsK Fence.wide n Try.prog 111 #[.pointer (some ⟨Ba, 0, none⟩), .pointer (some ⟨Bb, 0, none⟩)] encP (Keeps D) (fun ys => ys = both A C) (fun pre => pre <+: both A C) (both A C).length w := fun l J Jx W hW hJ _ hY h0 =>
  have hk : Keeps D w W := ⟨hW.size, fun b hb => hW.block b (hD b hb)⟩
  both1_in n hn l Ba Bb D J Jx hY W hJ (fun b hb => Nat.lt_of_lt_of_le (hD b hb) hW.size) ((hW.cell (p := ⟨Ba, 0, none⟩) hba).trans hBa) ((hW.cell (p := ⟨Bb, 0, none⟩) hbb).trans hBb) (hA.later hk) (hC.later hk) h0
theorem keepsK_b {D : Nat → Prop} {w : World} (hD : ∀ b, D b → b < w.heap.size) (W : World) (l : Nat) (o o' : Obj) (hl : w.heap.size ≤ l) (h : W.heap[l]? = some o) (_ : o.isCells = false) (_ : o.isWalk = false) : Keeps D W (W.putObj l o') :=
  ⟨(grownBy_putObj' W l o').size, fun b hb => World.putObj_heap_other (fun e => by have := hD b hb; omega)⟩
theorem keepsK_t {D : Nat → Prop} {A B C : World} (h : Keeps D A B) (k : Keeps D B C) : Keeps D A C := h.trans k

/-- A block of two cells. -/
def Two (W : World) (B : Nat) (t : TypeId) (u v : Value) : Prop := W.heap[B]? = some (.cells #[u, v] t (0, 0))
theorem Two.lt {W : World} {B : Nat} {t : TypeId} {u v : Value} (h : Two W B t u v) : B < W.heap.size := (Array.getElem?_eq_some_iff.1 h).1
theorem Two.cell0 {W : World} {B : Nat} {t : TypeId} {u v : Value} (h : Two W B t u v) : W.cell? ⟨B, 0, none⟩ = some u := by simp [World.cell?, show W.heap[B]? = _ from h]
theorem Two.cell1 {W : World} {B : Nat} {t : TypeId} {u v : Value} (h : Two W B t u v) : W.cell? ⟨B, 1, none⟩ = some v := by simp [World.cell?, show W.heap[B]? = _ from h]
theorem Two.new (W : World) (t : TypeId) (u v : Value) : Two (W.alloc (.cells #[u, v] t)) W.heap.size t u v := World.alloc_heap_new W _
theorem Two.kept {W W' : World} {row : Option Nat} {B : Nat} {t : TypeId} {u v : Value} (h : Two W B t u v) (hg : W.grownBy W' row) (hne : some B ≠ row) : Two W' B t u v := (hg.block B h.lt hne).trans h
theorem two_own {β : Type} (B : Nat) (t : TypeId) (f g : β → Value) : Own (fun s W => Two W B t (f s) (g s)) := fun s X Y row hs hg hrow =>
  hs.kept hg (fun e' => by obtain ⟨o, ho, hc⟩ := hrow B e'.symm; rw [show X.heap[B]? = _ from hs] at ho; cases ho; cases hc)

end Go.Proofs.Ytfpmkihlfhpgdaa
