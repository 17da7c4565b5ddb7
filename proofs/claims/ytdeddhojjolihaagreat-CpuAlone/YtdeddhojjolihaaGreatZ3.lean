/-
 PROVED HERE: plain facts on labels as lists of pairs of integers (no Go text), the second part: the categories of two label. What is asked stands at each.
-/
import Derived.RangeFuncNested
import Derived.RangeFuncBound
import Derived.RangeFuncCalls
import Derived.RangeFuncLeaves
import Derived.Shelf.Abstract
import Derived.Shelf.RegionOpen
import Derived.WalkKit
import Derived.OwnWalkIn
import Derived.TacticsInMore
import Derived.LoopNIn
import Derived.LoopIn
import Derived.RegionIn
import Derived.WalkSmall
import Derived.Test.YtdeddhojjolihaaGreatZ1
import Derived.Test.YtdeddhojjolihaaGreatZ2
namespace Go.Proofs.YtdeddhojjolihaaGreat
set_option maxRecDepth 100000
set_option maxHeartbeats 8000000
set_option linter.unusedVariables false
open Go.Proofs.Tryz
section
theorem jNz (L : List (Int × Int)) (c : Int) : (q3z L c).length ≤ L.length := by
 cases L with
 | nil => simp [q3z]
 | cons p r => simp only [q3z]; split <;> simp
variable {A C : List (Int × Int)}
theorem wWz (h : 0 < A.length + C.length) : (q3z A (fore A C)).length + (q3z C (fore A C)).length < A.length + C.length := by
 have hA := jNz A (fore A C)
 have hC := jNz C (fore A C)
 cases A with
 | nil =>
  cases C with
  | nil => simp at h
  | cons q s => simp [fore, q3z]
 | cons p r =>
  cases C with
  | nil => simp [fore, q3z]
  | cons q s =>
   by_cases hpq : p.1 < q.1
   ·have hf : fore (p :: r) (q :: s) = p.1 := by simp [fore, hpq]
    rw [hf] at hC ⊢
    have : q3z (p :: r) p.1 = r := by simp [q3z]
    rw [this]; simp at hC ⊢; omega
   ·have hf : fore (p :: r) (q :: s) = q.1 := by simp [fore, hpq]
    rw [hf] at hA ⊢
    have : q3z (q :: s) q.1 = s := by simp [q3z]
    rw [this]; simp at hA ⊢; omega
def x7z : Nat → List (Int × Int) → List (Int × Int) → List (Int × (Int × Int))
 | 0, _, _ => []
 | k + 1, A, C => if A.length + C.length = 0 then [] else (fore A C, (wBz A (fore A C), wBz C (fore A C))) :: x7z k (q3z A (fore A C)) (q3z C (fore A C))
def both (A C : List (Int × Int)) : List (Int × (Int × Int)) := x7z (A.length + C.length) A C
theorem yVz : ∀ (k m : Nat) (A C : List (Int × Int)), A.length + C.length ≤ k → A.length + C.length ≤ m → x7z k A C = x7z m A C := by
 intro k
 induction k with
 | zero =>
  intro m A C h _
  have h0 : A.length + C.length = 0 := by omega
  cases m with
  | zero => rfl
  | succ m => simp only [x7z]; rw [if_pos h0]
 | succ k ih =>
  intro m A C h hm
  by_cases h0 : A.length + C.length = 0
  ·cases m with
   | zero => simp only [x7z]; rw [if_pos h0]
   | succ m => simp only [x7z]; rw [if_pos h0, if_pos h0]
  ·cases m with
   | zero => omega
   | succ m =>
    have hl := wWz (A := A) (C := C) (by omega)
    simp only [x7z]
    rw [if_neg h0, if_neg h0, ih m _ _ (by omega) (by omega)]
theorem both_nil (h : A.length + C.length = 0) : both A C = [] := by unfold both; rw [h]; rfl
theorem kOz (h : 0 < A.length + C.length) : both A C = (fore A C, (wBz A (fore A C), wBz C (fore A C))) :: both (q3z A (fore A C)) (q3z C (fore A C)) := by
 have hl := wWz h
 unfold both
 obtain ⟨j, hj⟩ : ∃ j, A.length + C.length = j + 1 := ⟨A.length + C.length - 1, by omega⟩
 rw [hj]
 simp only [x7z]
 rw [if_neg (by omega), yVz j _ _ _ (by omega) (Nat.le_refl _)]
end
section
open Go.RowKit Go.Shelf
attribute [local go_sem] Oper.semAt_some
def encP (x : Int × (Int × Int)) : Array Value := #[.int .u64 x.1, .agg #[.int .i64 x.2.1, .int .i64 x.2.2]]
variable {A C : List (Int × Int)} {ao ao' : Option Addr} {k k' cap cap' : Nat}
theorem both1_in (n : Nat) (hn : 1 ≤ n) (l Ba Bb : Nat) (D : Nat → Prop) (J Jx : List (Int × (Int × Int)) → World → Prop)
  (hY : ∀ pre x W, J pre W → pre.length < (both A C).length → YieldAt Fence.wide (n - 1) prog l (encP x) W fun e W' =>
   (e = .returned (.bool true) ∧ J (pre ++ [x]) W' ∧ Keeps D W W') ∨ (e = .returned (.bool false) ∧ Jx (pre ++ [x]) W'))
  (W : World) (hJ : AbidesFrom W.heap.size J) (hD : ∀ b, D b → b < W.heap.size) (hBa : W.cell? ⟨Ba, 0, none⟩ = some (.slice ao k cap)) (hBb : W.cell? ⟨Bb, 0, none⟩ = some (.slice ao' k' cap'))
  (hA : LabD D W ao k cap A) (hC : LabD D W ao' k' cap' C) (h0 : J [] W) :
  CallsIn Fence.wide n prog 169 #[.func (.yield l) #[] #[], .pointer (some ⟨Ba, 0, none⟩), .pointer (some ⟨Bb, 0, none⟩)] W fun e W' => (∃ v, e = .returned v) ∧
   ((∃ ys, ys = both A C ∧ J ys W') ∨ (∃ pre, pre <+: both A C ∧ Jx pre W')) := by
 have hsd : ∀ (w : World) (m : Nat) (a : Addr) (v : Value), (w.drewN m).setCell a v = (w.setCell a v).drewN m := fun _ _ _ _ => rfl
 refine callsIn_of_wp func169 rfl trivial ?_ rfl
 simp only [ntmps169, List.size_toArray, List.length_cons, List.length_nil, Nat.reduceAdd, Nat.reduceSub, Array.replicate_succ, Array.replicate_zero, List.push_toArray, List.append_toArray, List.nil_append, List.cons_append]
 gi_wp2
 gi_region
 gi_wp2
 gi_loopw [4, 5] (fun va vb wr => ∃ (pre : List (Int × (Int × Int))) (ra rb : List (Int × Int)) (a1 : Option Addr) (n1 c1 : Nat) (a2 : Option Addr) (n2 c2 : Nat), va = .slice a1 n1 c1 ∧ vb = .slice a2 n2 c2 ∧ both A C = pre ++ both ra rb ∧ LabD D wr a1 n1 c1 ra ∧ LabD D wr a2 n2 c2 rb ∧ J pre wr ∧ W.heap.size ≤ wr.heap.size)
  (fun va vb _ => lenOf va + lenOf vb)
 case atStart => exact ⟨[], A, C, _, _, _, _, _, _, rfl, rfl, rfl, hA, hC, hJ _ W _ none h0 (show W.grownBy W.drew none from ⟨rfl, rfl, rfl, Nat.le_refl _, fun _ _ _ => rfl⟩) (fun r e => by cases e), Nat.le_refl _⟩
 case round =>
  obtain ⟨pre, ra, rb, a1, n1, c1, a2, n2, c2, rfl, rfl, hx, hla, hlb, hJs, hsz⟩ := hrel
  by_cases h0 : n1 + n2 = 0
  ·have h1 : n1 = 0 := by omega
   have h2 : n2 = 0 := by omega
   subst h1 h2
   have hb : Hid (both ra rb = []) := both_nil (by have := hla.1; have := hlb.1; omega)
   gi_wp2
   go_end0
   exact ⟨⟨_, rfl⟩, .inl (by rw [hb.out]; simpa using hJs)⟩
  ·have hl1 := hla.1
   have hl2 := hlb.1
   have hbc : Hid (both ra rb = _) := kOz (A := ra) (C := rb) (by omega)
   have HLA : Hid (LabD D wr a1 n1 c1 ra) := hla
   have hDr : ∀ b, D b → b < wr.heap.size := fun b hb => Nat.lt_of_lt_of_le (hD b hb) hsz
   have hka : ∀ o, Keeps D wr (wr.alloc o) := fun o => ⟨by simp, fun b hb => Below.heap_alloc wr o b (hDr b hb)⟩
   have hkd : ∀ o m, Keeps D wr ((wr.alloc o).drewN m) := fun o m => hka o
   have HLB : Hid (LabD D wr a2 n2 c2 rb) := hlb
   by_cases hp1 : 0 < n1
   ·gi_wp2_with (first | (refine ⟨trivial, ?_⟩; gi_at_call 170; refine (callsIn_wide.2 (x3z ((hla.later (hka _)).lab hDr) ((hlb.later (hka _)).lab hDr) (by omega))).mono ?_; rintro e w' ⟨rfl, m1, rfl⟩) | (refine ⟨trivial, ?_⟩; gi_at_call 171; refine (callsIn_wide.2 (x8z _ ((hla.later (hkd _ _)).lab hDr))).mono ?_; clear hla; rintro e w' ⟨a1', n1', c1', rfl, hla', m2, rfl⟩) | (refine ⟨trivial, ?_⟩; gi_at_call 171; refine (callsIn_wide.2 (x8z _ ((hlb.later (hkd _ _)).lab hDr))).mono ?_; clear hlb; rintro e w' ⟨a2', n2', c2', rfl, hlb', m3, rfl⟩))
    obtain ⟨fn, tmps, assign, body, hy, hR⟩ := hY pre (fore ra rb, (wBz ra (fore ra rb), wBz rb (fore ra rb))) ((wr.alloc (.cells #[.int .i64 (wBz ra (fore ra rb)), .int .i64 (wBz rb (fore ra rb))] 197)).drewN (m1 + m2 + m3))
     (hJ pre wr _ none hJs (show wr.grownBy _ none from (World.grownBy_alloc wr _ none).trans ⟨rfl, rfl, rfl, Nat.le_refl _, fun _ _ _ => rfl⟩) (fun r e => by cases e)) (by rw [hx, hbc.out]; simp)
    dsimp only [encP] at hy
    rw [hy]
    gi_wp2
    refine hR.mono ?_
    rintro e W3 (⟨rfl, hJ3, hk3⟩ | ⟨rfl, hJx3⟩)
    ·gi_wp2
     go_roundw
     case rel =>
      have hk := (hkd (.cells #[.int .i64 (wBz ra (fore ra rb)), .int .i64 (wBz rb (fore ra rb))] 197) (m1 + m2 + m3)).trans hk3
      exact ⟨_, q3z ra (fore ra rb), q3z rb (fore ra rb), _, _, _, _, _, _, rfl, rfl, by rw [hx, hbc.out]; simp, hla' _ _ (HLA.out.later hk), hlb' _ _ (HLB.out.later hk), hJ3, Nat.le_trans hsz hk.1⟩
     case measure =>
      have e1 := (hla' _ _ HLA.out).1
      have e2 := (hlb' _ _ HLB.out).1
      have e3 := wWz (A := ra) (C := rb) (by omega)
      simp [lenOf]; omega
    ·gi_wp2
     refine bodyPost_ret (results_none rfl _ _ _) rfl ?_
     exact ⟨⟨_, rfl⟩, .inr ⟨_, ⟨both (q3z ra (fore ra rb)) (q3z rb (fore ra rb)), by rw [hx, hbc.out]; simp⟩, hJx3⟩⟩
   ·have hp0 : n1 = 0 := by omega
    have hp2 : 0 < n2 := by omega
    subst hp0
    gi_wp2_with (first | (refine ⟨trivial, ?_⟩; gi_at_call 170; refine (callsIn_wide.2 (x3z ((hla.later (hka _)).lab hDr) ((hlb.later (hka _)).lab hDr) (by omega))).mono ?_; rintro e w' ⟨rfl, m1, rfl⟩) | (refine ⟨trivial, ?_⟩; gi_at_call 171; refine (callsIn_wide.2 (x8z _ ((hla.later (hkd _ _)).lab hDr))).mono ?_; clear hla; rintro e w' ⟨a1', n1', c1', rfl, hla', m2, rfl⟩) | (refine ⟨trivial, ?_⟩; gi_at_call 171; refine (callsIn_wide.2 (x8z _ ((hlb.later (hkd _ _)).lab hDr))).mono ?_; clear hlb; rintro e w' ⟨a2', n2', c2', rfl, hlb', m3, rfl⟩))
    obtain ⟨fn, tmps, assign, body, hy, hR⟩ := hY pre (fore ra rb, (wBz ra (fore ra rb), wBz rb (fore ra rb))) ((wr.alloc (.cells #[.int .i64 (wBz ra (fore ra rb)), .int .i64 (wBz rb (fore ra rb))] 197)).drewN (m1 + m2 + m3))
     (hJ pre wr _ none hJs (show wr.grownBy _ none from (World.grownBy_alloc wr _ none).trans ⟨rfl, rfl, rfl, Nat.le_refl _, fun _ _ _ => rfl⟩) (fun r e => by cases e)) (by rw [hx, hbc.out]; simp)
    dsimp only [encP] at hy
    rw [hy]
    gi_wp2
    refine hR.mono ?_
    rintro e W3 (⟨rfl, hJ3, hk3⟩ | ⟨rfl, hJx3⟩)
    ·gi_wp2
     go_roundw
     case rel =>
      have hk := (hkd (.cells #[.int .i64 (wBz ra (fore ra rb)), .int .i64 (wBz rb (fore ra rb))] 197) (m1 + m2 + m3)).trans hk3
      exact ⟨_, q3z ra (fore ra rb), q3z rb (fore ra rb), _, _, _, _, _, _, rfl, rfl, by rw [hx, hbc.out]; simp, hla' _ _ (HLA.out.later hk), hlb' _ _ (HLB.out.later hk), hJ3, Nat.le_trans hsz hk.1⟩
     case measure =>
      have e1 := (hla' _ _ HLA.out).1
      have e2 := (hlb' _ _ HLB.out).1
      have e3 := wWz (A := ra) (C := rb) (by omega)
      simp [lenOf]; omega
    ·gi_wp2
     refine bodyPost_ret (results_none rfl _ _ _) rfl ?_
     exact ⟨⟨_, rfl⟩, .inr ⟨_, ⟨both (q3z ra (fore ra rb)) (q3z rb (fore ra rb)), by rw [hx, hbc.out]; simp⟩, hJx3⟩⟩
theorem yiz (ao ao' : Option Addr) (n n' cap cap' : Nat) (w : World) :
  Calls prog 155 #[.slice ao n cap, .slice ao' n' cap'] w fun e w' => e = .returned (.func (.func 169) #[] #[.pointer (some ⟨w.heap.size, 0, none⟩), .pointer (some ⟨w.heap.size + 1, 0, none⟩)]) ∧
   w' = (w.alloc (.cells #[.slice ao n cap] 34)).alloc (.cells #[.slice ao' n' cap'] 34) := by
 go_enter func155, ntmps155
 go_wp2
 go_ret
 exact ⟨rfl, rfl⟩
theorem jez (n : Nat) (hn : 1 ≤ n) (Ba Bb : Nat) (D : Nat → Prop) (w : World) (hba : Ba < w.heap.size) (hbb : Bb < w.heap.size) (hD : ∀ b, D b → b < w.heap.size)
  (hBa : w.cell? ⟨Ba, 0, none⟩ = some (.slice ao k cap)) (hBb : w.cell? ⟨Bb, 0, none⟩ = some (.slice ao' k' cap')) (hA : LabD D w ao k cap A) (hC : LabD D w ao' k' cap' C) :
  SeqStopsK Fence.wide n prog 169 #[.pointer (some ⟨Ba, 0, none⟩), .pointer (some ⟨Bb, 0, none⟩)] encP (Keeps D) (fun ys => ys = both A C) (fun pre => pre <+: both A C) (both A C).length w := fun l J Jx W hW hJ _ hY h0 =>
 have hk : Keeps D w W := ⟨hW.size, fun b hb => hW.block b (hD b hb)⟩
 both1_in n hn l Ba Bb D J Jx hY W hJ (fun b hb => Nat.lt_of_lt_of_le (hD b hb) hW.size) ((hW.cell (p := ⟨Ba, 0, none⟩) hba).trans hBa) ((hW.cell (p := ⟨Bb, 0, none⟩) hbb).trans hBb) (hA.later hk) (hC.later hk) h0
theorem keepsK_b {D : Nat → Prop} {w : World} (hD : ∀ b, D b → b < w.heap.size) (W : World) (l : Nat) (o o' : Obj) (hl : w.heap.size ≤ l) (h : W.heap[l]? = some o) (_ : o.isCells = false) (_ : o.isWalk = false) : Keeps D W (W.putObj l o') :=
 ⟨(grownBy_putObj' W l o').size, fun b hb => World.putObj_heap_other (fun e => by have := hD b hb; omega)⟩
theorem keepsK_t {D : Nat → Prop} {A B C : World} (h : Keeps D A B) (k : Keeps D B C) : Keeps D A C := h.trans k
def Two (W : World) (B : Nat) (t : TypeId) (u v : Value) : Prop := W.heap[B]? = some (.cells #[u, v] t (0, 0))
variable {u v : Value} {t : TypeId} {B : Nat} {W : World}
theorem Two.lt (h : Two W B t u v) : B < W.heap.size := (Array.getElem?_eq_some_iff.1 h).1
theorem Two.cell0 (h : Two W B t u v) : W.cell? ⟨B, 0, none⟩ = some u := by simp [World.cell?, show W.heap[B]? = _ from h]
theorem Two.cell1 (h : Two W B t u v) : W.cell? ⟨B, 1, none⟩ = some v := by simp [World.cell?, show W.heap[B]? = _ from h]
theorem Two.new (W : World) (t : TypeId) (u v : Value) : Two (W.alloc (.cells #[u, v] t)) W.heap.size t u v := World.alloc_heap_new W _
theorem Two.kept {W W' : World} {row : Option Nat} (h : Two W B t u v) (hg : W.grownBy W' row) (hne : some B ≠ row) : Two W' B t u v := (hg.block B h.lt hne).trans h
theorem y2z {β : Type} (B : Nat) (t : TypeId) (f g : β → Value) : Own (fun s W => Two W B t (f s) (g s)) := fun s X Y row hs hg hrow =>
 hs.kept hg (fun e' => by obtain ⟨o, ho, hc⟩ := hrow B e'.symm; rw [show X.heap[B]? = _ from hs] at ho; cases ho; cases hc)
end
section
open Go.RowKit Go.Shelf
attribute [local go_sem] Oper.semAt_some
def leqB (A C : List (Int × Int)) : Bool := (both A C).all fun x => Lv.leq x.2.1 x.2.2
theorem kiz {B : Nat} {w : World} {ao ao' : Option Addr} {k k' cap cap' : Nat} {A C : List (Int × Int)} (hA : Lab w.heap.size w ao k cap A) (hC : Lab w.heap.size w ao' k' cap' C) :
  Calls prog 142 #[.slice ao k cap, .slice ao' k' cap'] w fun e w' => e = .returned (.bool (leqB A C)) ∧ Below w.heap.size w w' := by
 refine (callsIn_wide (n := 5)).1 ?_
 refine callsIn_of_wp_marks func142 rfl trivial ?_ rfl
 simp only [ntmps142, List.size_toArray, List.length_cons, List.length_nil, Nat.reduceAdd, Nat.reduceSub, Array.replicate_succ, Array.replicate_zero, List.push_toArray, List.append_toArray, List.nil_append, List.cons_append]
 gi_wp2_with (refine ⟨trivial, ?_⟩; gi_at_call 155; refine (callsIn_wide.2 (yiz _ _ _ _ _ _ _)).mono ?_; rintro e w' ⟨rfl, rfl⟩)
 have bR := ((Boxed.new w 4 (.bool false)).alloc (.cells #[.slice ao k cap] 34)).alloc (.cells #[.slice ao' k' cap'] 34)
 have bA := (Boxed.new (w.alloc (.cells #[.bool false] 4)) 34 (.slice ao k cap)).alloc (.cells #[.slice ao' k' cap'] 34)
 have bC := Boxed.new ((w.alloc (.cells #[.bool false] 4)).alloc (.cells #[.slice ao k cap] 34)) 34 (.slice ao' k' cap')
 simp only [World.size_alloc] at bA bC
 have hB0 : Below w.heap.size w (((w.alloc (.cells #[.bool false] 4)).alloc (.cells #[.slice ao k cap] 34)).alloc (.cells #[.slice ao' k' cap'] 34)) := (((Below.refl _ w).alloc (Nat.le_refl _) _).alloc (by simp) _).alloc (by simp; omega) _
 have hsz : (((w.alloc (.cells #[.bool false] 4)).alloc (.cells #[.slice ao k cap] 34)).alloc (.cells #[.slice ao' k' cap'] 34)).heap.size = w.heap.size + 3 := by simp
 obtain ⟨W0, hW0⟩ : ∃ W0, ((w.alloc (.cells #[.bool false] 4)).alloc (.cells #[.slice ao k cap] 34)).alloc (.cells #[.slice ao' k' cap'] 34) = W0 := ⟨_, rfl⟩
 rw [hW0] at bR bA bC hB0 hsz ⊢
 clear hW0
 refine wpIn_rangeFunc_ownH rfl (by omega) (gf := 169) (lb := #[.pointer (some ⟨w.heap.size + 1, 0, none⟩), .pointer (some ⟨w.heap.size + 1 + 1, 0, none⟩)]) rfl trivial (enters_of func169 (by kernel_rfl) rfl)
  (jez _ (by omega) (w.heap.size + 1) (w.heap.size + 1 + 1) (fun b => b < w.heap.size) W0 (by omega) (by omega) (fun b hb => by omega) bA.cell bC.cell (hA.later hB0) (hC.later hB0)) keepsK_t (keepsK_b (fun b hb => by omega)) (Below.refl _ _) (fun _ => rfl)
  (fun pre W => ((pre.all fun x => Lv.leq x.2.1 x.2.2) = true ∧ Boxed W w.heap.size 4 (.bool false)) ∧ Below w.heap.size w W)
  (fun c pre W => (c = .ret ∧ (pre.all fun x => Lv.leq x.2.1 x.2.2) = false ∧ Boxed W w.heap.size 4 (.bool false)) ∧ Below w.heap.size w W)
  (OwnFrom.and (OwnFrom.and (ownFrom_pure _ _) (Own.from (boxed_own _ _ _) _)) (ownFrom_below (Nat.le_refl _) (by omega)))
  (fun c => OwnFrom.and (OwnFrom.and (ownFrom_pure _ _) (OwnFrom.and (ownFrom_pure _ _) (Own.from (boxed_own _ _ _) _))) (ownFrom_below (Nat.le_refl _) (by omega)))
  ⟨⟨rfl, bR⟩, hB0⟩
  (fun x a' W => ∃ Bx, w.heap.size < Bx ∧ Two W Bx 197 (.int .i64 x.2.1) (.int .i64 x.2.2) ∧ a' = { tmps := #[.slice ao k cap, .slice ao' k' cap', undef, undef, .pointer (some ⟨w.heap.size, 0, none⟩), undef, .pointer (some ⟨Bx, 0, none⟩), .slice ao k cap, .slice ao' k' cap', .func (.func 169) #[] #[.pointer (some ⟨w.heap.size + 1, 0, none⟩), .pointer (some ⟨w.heap.size + 1 + 1, 0, none⟩)], .int .u64 x.1, .agg #[.int .i64 x.2.1, .int .i64 x.2.2], undef, undef, undef, undef, undef, undef], defers := [] })
  (fun x a' _ X Y row hs hg hr => by obtain ⟨Bx, h1, h2, h3⟩ := hs; exact ⟨Bx, h1, y2z Bx _ (fun (_ : Unit) => Value.int .i64 x.2.1) (fun _ => Value.int .i64 x.2.2) () X Y row h2 hg (fun r e => (hr r e).2), h3⟩)
  ?assign ?body ?done ?stop
 case assign =>
  rintro l pre x W K ⟨⟨hp, bR1⟩, hB1⟩ hK
  dsimp only [encP]
  gi_wp2
  exact hK _ _ ((KeepsOthers.alloc _ _).from _) (wsz ((Below.refl _ W).alloc hB1.size _)) ⟨⟨hp, bR1.alloc _⟩, hB1.alloc hB1.size _⟩ ⟨W.heap.size, bR1.lt, Two.new W _ _ _, rfl⟩
 case body =>
  rintro l pre x a' W hl ⟨r, hr⟩ ⟨⟨hp, bR1⟩, hB1⟩ ⟨Bx, hBx, bX, rfl⟩ hlt
  have c0 := bX.cell0
  have c1 := bX.cell1
  have cR := bR1.cell
  have fR := bR1.frozen
  cases hq : Lv.leq x.2.1 x.2.2 with
  | false =>
   have hP : Hid (((pre ++ [x]).all fun x => Lv.leq x.2.1 x.2.2) = false) := by show ((pre ++ [x]).all fun x => Lv.leq x.2.1 x.2.2) = false; simp [hq]
   clear hp
   gi_wp2_with (refine ⟨trivial, ?_⟩; gi_at_call 156; refine (CallsIn.inRound l (callsIn_wide.2 (uVz _ _ _))).mono ?_; rintro e w' ⟨rfl, rfl⟩)
   exact ⟨(KeepsOthers.setCell _ _ _).from _, ⟨rfl, hP.out, bR1.set _⟩, hB1.setCell (p := ⟨w.heap.size, 0, none⟩) (Nat.le_refl _) _⟩
  | true =>
   have hP : Hid (((pre ++ [x]).all fun x => Lv.leq x.2.1 x.2.2) = true) := by show ((pre ++ [x]).all fun x => Lv.leq x.2.1 x.2.2) = true; simp [hq]; simpa using hp
   clear hp
   gi_wp2_with (refine ⟨trivial, ?_⟩; gi_at_call 156; refine (CallsIn.inRound l (callsIn_wide.2 (uVz _ _ _))).mono ?_; rintro e w' ⟨rfl, rfl⟩)
   exact ⟨KeepsFrom.refl _ _, Keeps.refl _ _, ⟨hP.out, bR1⟩, hB1⟩
 case done =>
  rintro D ys W hD rfl ⟨⟨hp, bR1⟩, hB⟩ hK
  have hr : Hid (leqB A C = true) := hp
  have cR := bR1.cell
  have fR := bR1.frozen
  clear hp
  gi_wp2
  have hK' := (KeepsOthers.setCell W ⟨w.heap.size, 0, none⟩ (.bool true)).same D _ hK rfl
  refine ⟨by simp, .inl ⟨_, _, rfl, run_takeDeferred hK', ?_⟩⟩
  have hc5 := cell_kept (bR1.set (.bool true)).cell (grownBy_putObj' _ D (.deferred none)) (fun r e => by cases e; exact ⟨_, hK', rfl⟩)
  refine ⟨.bool true, ?_, by rw [hr.out], (hB.setCell (p := ⟨w.heap.size, 0, none⟩) (Nat.le_refl _) _).trans (belowK_b (w := w) (Nat.le_refl _) _ D _ _ (by omega) hK' rfl rfl)⟩
  simp [results, Tryz.f142, go_sem, hc5]
 case stop =>
  rintro D c pre W hD hpre ⟨⟨rfl, hin, bR1⟩, hB⟩ hK
  have hr : Hid (leqB A C = false) := by
   show (both A C).all _ = false
   rw [List.all_eq_false] at hin ⊢
   obtain ⟨x, hx, hy⟩ := hin
   exact ⟨x, hpre.subset hx, hy⟩
  clear hin
  gi_wp2
  refine ⟨by simp, .inl ⟨_, _, rfl, run_takeDeferred hK, ?_⟩⟩
  have hc5 := cell_kept bR1.cell (grownBy_putObj' _ D (.deferred none)) (fun r e => by cases e; exact ⟨_, hK, rfl⟩)
  refine ⟨.bool false, ?_, by rw [hr.out], hB.trans (belowK_b (w := w) (Nat.le_refl _) W D _ _ (by omega) hK rfl rfl)⟩
  simp [results, Tryz.f142, go_sem, hc5]
end
end Go.Proofs.YtdeddhojjolihaaGreat
