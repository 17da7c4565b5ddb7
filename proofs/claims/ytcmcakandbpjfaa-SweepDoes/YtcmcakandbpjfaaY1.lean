/-
 PROVED HERE: plain facts on labels as lists of pairs of integers (no Go text), and what it means that a slice in memory hol. What is asked stands at each.
-/
import Derived.WalkKit
import Derived.Below
import Derived.OwnWalk
import Derived.Test.YtcmcakandbpjfaaRows
import Derived.ProofKit
import Derived.OpenShut
import Derived.WalkSmall
import Derived.Deep.QuietTactic
import Derived.BigQuiet
import Derived.Laws.AppendOwn
import Derived.Laws.OwnMore
import Derived.Maps.AppendAt
import Derived.RangeFuncNested
import Derived.RangeFuncBound
import Derived.RangeFuncCalls
import Derived.RangeFuncLeaves
import Derived.Shelf.Abstract
import Derived.Shelf.RegionOpen
import Derived.OwnWalkIn
import Derived.TacticsInMore
import Derived.LoopNIn
import Derived.LoopIn
import Derived.RegionIn
import Derived.OrdersHeld
import Derived.OrdersIn
import Derived.Deep.RegionHeld
import Derived.WalkSpells
import Derived.Laws.AppendOwnNone
import Derived.Deep.SlicePairs
import Derived.Deep.RegionHeld3
import Derived.Deep.AppendLies
import Derived.Test.YtcmcakandbpjfaaY0
namespace Go.Proofs.Ytcmcakandbpjfaa
set_option maxRecDepth 100000
set_option maxHeartbeats 8000000
open Go.RowKit

def LabD (D : Nat → Prop) (w : World) (ao : Option Addr) (n cap : Nat) (L : List (Int × Int)) : Prop :=
 L.length = n ∧ n ≤ cap ∧ (cap ≤ 9223372036854775807 ∧ (ao = none → cap = 0)) ∧
 (0 < n → ∃ b off, ao = some ⟨b, off, none⟩ ∧ D b ∧
  ∀ i, i < n → w.cell? ⟨b, off + i * 2, none⟩ = some (.int .u64 (L.getD i (0, 0)).1) ∧ w.cell? ⟨b, off + i * 2 + 1, none⟩ = some (.int .i64 (L.getD i (0, 0)).2))
def Lab (B : Nat) (w : World) (ao : Option Addr) (n cap : Nat) (L : List (Int × Int)) : Prop := LabD (fun b => b < B) w ao n cap L
def Keeps (D : Nat → Prop) (W W' : World) : Prop := W.heap.size ≤ W'.heap.size ∧ ∀ b, D b → W'.heap[b]? = W.heap[b]?
theorem Keeps.refl (D : Nat → Prop) (W : World) : Keeps D W W := ⟨Nat.le_refl _, fun _ _ => rfl⟩
theorem Keeps.trans {D : Nat → Prop} {A B C : World} (h : Keeps D A B) (k : Keeps D B C) : Keeps D A C := ⟨Nat.le_trans h.1 k.1, fun b hb => (k.2 b hb).trans (h.2 b hb)⟩
theorem LabD.later {D : Nat → Prop} {w w' : World} {ao : Option Addr} {n cap : Nat} {L : List (Int × Int)} (h : LabD D w ao n cap L) (k : Keeps D w w') : LabD D w' ao n cap L := by
 obtain ⟨h1, h2, h3, h4⟩ := h
 refine ⟨h1, h2, h3, fun hn => ?_⟩
 obtain ⟨b, off, e, hb, hc⟩ := h4 hn
 refine ⟨b, off, e, hb, fun i hi => ?_⟩
 obtain ⟨c0, c1⟩ := hc i hi
 exact ⟨(World.cell?_of_block (w := w) (a := ⟨b, off + i * 2, none⟩) (k.2 b hb)).trans c0, (World.cell?_of_block (w := w) (a := ⟨b, off + i * 2 + 1, none⟩) (k.2 b hb)).trans c1⟩
theorem LabD.lab {D : Nat → Prop} {w : World} {ao : Option Addr} {n cap : Nat} {L : List (Int × Int)} {B : Nat} (h : LabD D w ao n cap L) (hD : ∀ b, D b → b < B) : Lab B w ao n cap L := by
 obtain ⟨h1, h2, h3, h4⟩ := h
 refine ⟨h1, h2, h3, fun hn => ?_⟩
 obtain ⟨b, off, e, hb, hc⟩ := h4 hn
 exact ⟨b, off, e, hD b hb, hc⟩
theorem Lab.later {w w' : World} {ao : Option Addr} {n cap : Nat} {L : List (Int × Int)} {B : Nat} (h : Lab B w ao n cap L) (k : Below B w w') : Lab B w' ao n cap L := by
 obtain ⟨h1, h2, h3, h4⟩ := h
 refine ⟨h1, h2, h3, fun hn => ?_⟩
 obtain ⟨b, off, e, hb, hc⟩ := h4 hn
 refine ⟨b, off, e, hb, fun i hi => ?_⟩
 obtain ⟨c0, c1⟩ := hc i hi
 exact ⟨(k.cell (p := ⟨b, off + i * 2, none⟩) hb).trans c0, (k.cell (p := ⟨b, off + i * 2 + 1, none⟩) hb).trans c1⟩
theorem Lab.wide {w : World} {ao : Option Addr} {n cap : Nat} {L : List (Int × Int)} {B B' : Nat} (h : Lab B w ao n cap L) (k : B ≤ B') : Lab B' w ao n cap L := by
 obtain ⟨h1, h2, h3, h4⟩ := h
 refine ⟨h1, h2, h3, fun hn => ?_⟩
 obtain ⟨b, off, e, hb, hc⟩ := h4 hn
 exact ⟨b, off, e, Nat.lt_of_lt_of_le hb k, hc⟩
theorem Lab.next {w w' : World} {ao : Option Addr} {n cap : Nat} {L : List (Int × Int)} (h : Lab w.heap.size w ao n cap L) (k : Below w.heap.size w w') : Lab w'.heap.size w' ao n cap L := (h.later k).wide k.size
theorem Lab.len {w : World} {ao : Option Addr} {n cap : Nat} {L : List (Int × Int)} {B : Nat} (h : Lab B w ao n cap L) : L.length = n := h.1
theorem Lab.nil (B : Nat) (w : World) : Lab B w none 0 0 [] := ⟨rfl, Nat.le_refl _, ⟨by omega, fun _ => rfl⟩, fun h => absurd h (by omega)⟩

theorem Lab.at {w wr : World} {ao : Option Addr} {n cap : Nat} {L : List (Int × Int)} {B : Nat} (h : Lab B w ao n cap L) (k : Below B w wr) {i : Nat} (hi : i < n) :
  ∃ (b off : Nat) (x y : Int), ao = some ⟨b, off, none⟩ ∧ b < B ∧ wr.cell? ⟨b, off + i * 2, none⟩ = some (.int .u64 x) ∧ wr.cell? ⟨b, off + i * 2 + 1, none⟩ = some (.int .i64 y) ∧ Hid (L.getD i (0, 0) = (x, y)) := by
 obtain ⟨h1, h2, h3, h4⟩ := h.later k
 obtain ⟨b, off, e, hb, hc⟩ := h4 (by omega)
 exact ⟨b, off, _, _, e, hb, (hc i hi).1, (hc i hi).2, rfl⟩

theorem cellLater {w : World} {a : Addr} {v : Value} (h : w.cell? a = some v) (o : Obj) : (w.alloc o).cell? a = some v := by
 by_cases hb : a.block < w.heap.size
 ·exact (((Below.refl w.heap.size w).alloc (Nat.le_refl _) o).cell hb).trans h
 ·exfalso
  have hn : w.heap[a.block]? = none := by simp; omega
  simp [World.cell?, hn] at h
theorem wrapN {m : Nat} (h : m < 9223372036854775807) : IntKind.i64.wrap (m : Int) = m := by rw [IntKind.wrap_i64]; omega

def get : List (Int × Int) → Int → Int
 | [], _ => 2
 | p :: r, c => if p.1 = c then p.2 else get r c
theorem get_drop {L : List (Int × Int)} {k : Nat} (h : k < L.length) (c : Int) : get (L.drop k) c = if (L.getD k (0, 0)).1 = c then (L.getD k (0, 0)).2 else get (L.drop (k + 1)) c := by
 rw [List.drop_eq_getElem_cons h]
 simp [get, List.getD_eq_getElem?_getD, List.getElem?_eq_getElem h]
theorem get_hit {L : List (Int × Int)} {k : Nat} {x y c : Int} (h : k < L.length) (e : L.getD k (0, 0) = (x, y)) (hx : x = c) : get (L.drop k) c = y := by
 rw [get_drop h, e, if_pos hx]
theorem get_miss {L : List (Int × Int)} {k : Nat} {x y c : Int} (h : k < L.length) (e : L.getD k (0, 0) = (x, y)) (hx : ¬ x = c) : get (L.drop k) c = get (L.drop (k + 1)) c := by
 rw [get_drop h, e, if_neg hx]
theorem get_end {L : List (Int × Int)} {k : Nat} (h : L.length ≤ k) (c : Int) : get (L.drop k) c = 2 := by
 rw [List.drop_eq_nil_of_le h]; rfl

def okAt (L : List (Int × Int)) (k : Nat) : Bool := Lv.fit (L.getD k (0, 0)).2 && (!decide ((L.getD k (0, 0)).2 = 2) && (decide (k = 0) || decide ((L.getD (k - 1) (0, 0)).1 < (L.getD k (0, 0)).1)))
def fitB (L : List (Int × Int)) : Bool := (List.range L.length).all (okAt L)
theorem fitB_no {L : List (Int × Int)} {k : Nat} (h : k < L.length) (e : okAt L k = false) : fitB L = false := by
 unfold fitB
 rw [List.all_eq_false]
 exact ⟨k, List.mem_range.2 h, by simp [e]⟩
theorem fitB_yes {L : List (Int × Int)} (h : ∀ k, k < L.length → okAt L k = true) : fitB L = true := by
 unfold fitB
 rw [List.all_eq_true]
 exact fun k hk => h k (List.mem_range.1 hk)
theorem okAt_lev {L : List (Int × Int)} {k : Nat} {x y : Int} (e : L.getD k (0, 0) = (x, y)) (h : Lv.fit y = false) : okAt L k = false := by
 unfold okAt; rw [e]; simp [h]
theorem okAt_two {L : List (Int × Int)} {k : Nat} {x y : Int} (e : L.getD k (0, 0) = (x, y)) (h : y = 2) : okAt L k = false := by
 unfold okAt; rw [e]; simp [h]
theorem okAt_cat {L : List (Int × Int)} {k : Nat} {x y x' y' : Int} (e : L.getD k (0, 0) = (x, y)) (e' : L.getD (k - 1) (0, 0) = (x', y')) (hk : 0 < k) (h : x ≤ x') : okAt L k = false := by
 unfold okAt; rw [e, e']
 have h1 : decide (k = 0) = false := by simp; omega
 have h2 : decide (x' < x) = false := by simp; omega
 simp [h1, h2]
theorem okAt_yes {L : List (Int × Int)} {k : Nat} {x y x' y' : Int} (e : L.getD k (0, 0) = (x, y)) (hf : Lv.fit y = true) (h2 : ¬ y = 2) (e' : L.getD (k - 1) (0, 0) = (x', y')) (h : x' < x) : okAt L k = true := by
 unfold okAt; rw [e, e']; simp [hf, h2, h]
theorem okAt_yes0 {L : List (Int × Int)} {x y : Int} (e : L.getD 0 (0, 0) = (x, y)) (hf : Lv.fit y = true) (h2 : ¬ y = 2) : okAt L 0 = true := by
 unfold okAt; rw [e]; simp [hf, h2]
theorem all_succ {p : Nat → Bool} {k : Nat} (h : ∀ i, i < k → p i = true) (hk : p k = true) : ∀ i, i < k + 1 → p i = true := fun i hi => by
 rcases Nat.lt_or_ge i k with h' | h'
 ·exact h i h'
 ·have : i = k := by omega
  rw [this]; exact hk

theorem eq_succ {p q : Nat → Int × Int} {k : Nat} (h : ∀ i, i < k → p i = q i) (hk : p k = q k) : ∀ i, i < k + 1 → p i = q i := fun i hi => by
 rcases Nat.lt_or_ge i k with h' | h'
 ·exact h i h'
 ·have : i = k := by omega
  rw [this]; exact hk

def sameB (A C : List (Int × Int)) : Bool := decide (A = C)
theorem sameB_len {A C : List (Int × Int)} (h : A.length ≠ C.length) : sameB A C = false := by
 unfold sameB; rw [decide_eq_false_iff_not]; exact fun e => h (by rw [e])
theorem sameB_at {A C : List (Int × Int)} {k : Nat} {p q : Int × Int} (e : A.getD k (0, 0) = p) (f : C.getD k (0, 0) = q) (h : p ≠ q) : sameB A C = false := by
 unfold sameB; rw [decide_eq_false_iff_not]; intro x; rw [x] at e; exact h (e.symm.trans f)
theorem sameB_all {A C : List (Int × Int)} (h : A.length = C.length) (k : ∀ i, i < A.length → A.getD i (0, 0) = C.getD i (0, 0)) : sameB A C = true := by
 unfold sameB; rw [decide_eq_true_iff]
 apply List.ext_getElem h
 intro i h1 h2
 have := k i h1
 simpa [List.getD_eq_getElem?_getD, List.getElem?_eq_getElem h1, List.getElem?_eq_getElem h2] using this
theorem sameB_refl (A : List (Int × Int)) : sameB A A = true := by unfold sameB; simp

def takeV : List (Int × Int) → Int → Int
 | [], _ => 2
 | p :: _, c => if p.1 = c then p.2 else 2
def takeR : List (Int × Int) → Int → List (Int × Int)
 | [], _ => []
 | p :: r, c => if p.1 = c then r else p :: r
def fore : List (Int × Int) → List (Int × Int) → Int
 | [], [] => 0
 | p :: _, [] => p.1
 | [], q :: _ => q.1
 | p :: _, q :: _ => if p.1 < q.1 then p.1 else q.1

end Go.Proofs.Ytcmcakandbpjfaa
namespace Go.Proofs.Ytcmcakandbpjfaa
set_option maxRecDepth 100000
set_option maxHeartbeats 8000000
open Go.ChangeShapes Go.WideShapes Go.ChangeAt Go.RowKit
set_option linter.unusedVariables false

theorem next {w a b : World} (h : Below w.heap.size w a) (k : Below a.heap.size a b) : Below w.heap.size w b := h.trans (k.mono h.size)



theorem of_any (n : Int) (w : World) : Calls Try.prog 93 #[.int .i64 n] w fun e w' => e = .returned (.int .i64 (Lv.lv n)) ∧ w' = w := by
 by_cases h0 : n < 0
 ·have hl : Lv.lv n = 2 := Lv.lv_no (by omega)
  rw [hl]
  clear hl
  go_enter Try.func93, Try.ntmps93
  go_wp2
  go_ret
  exact ⟨rfl, rfl⟩
 ·by_cases h5 : 5 < n
  ·have hl : Lv.lv n = 2 := Lv.lv_no (by omega)
   rw [hl]
   clear hl
   go_enter Try.func93, Try.ntmps93
   go_wp2
   go_ret
   exact ⟨rfl, rfl⟩
  ·have hl : Lv.lv n = n := Lv.lv_of (by omega) (by omega)
   rw [hl]
   clear hl
   go_enter Try.func93, Try.ntmps93
   go_wp2
   go_ret
   exact ⟨rfl, rfl⟩

theorem rfit_any (n : Int) (w : World) : Calls Try.prog 92 #[.int .i64 n] w fun e w' => e = .returned (.bool (Lv.fit n)) ∧ w' = w := by
 by_cases h0 : 0 ≤ n
 ·by_cases h5 : n ≤ 5
  ·have hf : Lv.fit n = true := by simp [Lv.fit, h0, h5]
   rw [hf]
   go_enter Try.func92, Try.ntmps92
   go_wp2
   go_ret
   exact ⟨rfl, rfl⟩
  ·have hf : Lv.fit n = false := by simp [Lv.fit, h0, h5]
   rw [hf]
   go_enter Try.func92, Try.ntmps92
   go_wp2
   go_ret
   exact ⟨rfl, rfl⟩
 ·have hf : Lv.fit n = false := by simp [Lv.fit, h0]
  rw [hf]
  go_enter Try.func92, Try.ntmps92
  go_wp2
  go_ret
  exact ⟨rfl, rfl⟩

theorem rleq_any (a b : Int) (w : World) : Calls Try.prog 86 #[.int .i64 a, .int .i64 b] w fun e w' => e = .returned (.bool (Lv.leq a b)) ∧ w' = w := by
 unfold Lv.leq
 go_enter Try.func86, Try.ntmps86
 go_wp2_with (go_at_call 93; refine (of_any _ _).mono ?_; rintro e w' ⟨rfl, rfl⟩)
 go_ret
 exact ⟨rfl, rfl⟩

theorem rjoin_any (a b : Int) (w : World) : Calls Try.prog 89 #[.int .i64 a, .int .i64 b] w fun e w' => e = .returned (.int .i64 (Lv.join a b)) ∧ w' = w := by
 by_cases h : Lv.lv b < Lv.lv a
 ·have hj : Lv.join a b = Lv.lv a := by unfold Lv.join; rw [if_neg (by omega)]
  rw [hj]
  clear hj
  go_enter Try.func89, Try.ntmps89
  go_wp2_with (go_at_call 93; refine (of_any _ _).mono ?_; rintro e w' ⟨rfl, rfl⟩)
  go_ret
  exact ⟨rfl, rfl⟩
 ·have hj : Lv.join a b = Lv.lv b := by unfold Lv.join; split <;> omega
  rw [hj]
  clear hj
  go_enter Try.func89, Try.ntmps89
  go_wp2_with (go_at_call 93; refine (of_any _ _).mono ?_; rintro e w' ⟨rfl, rfl⟩)
  go_ret
  exact ⟨rfl, rfl⟩

theorem rraise_any (n : Int) (w : World) : Calls Try.prog 90 #[.int .i64 n] w fun e w' => e = .returned (.int .i64 (Lv.raise n)) ∧ w' = w := by
 by_cases h : Lv.lv n = 0
 ·have hr : Lv.raise n = 5 := by unfold Lv.raise; rw [if_pos h]
  have hn : (Lv.lv n == 0) = true := by simpa using h
  rw [hr]
  clear h hr
  go_enter Try.func90, Try.ntmps90
  go_wp2_with (go_at_call 93; refine (of_any _ _).mono ?_; rintro e w' ⟨rfl, rfl⟩)
  go_ret
  exact ⟨rfl, rfl⟩
 ·have hr : Lv.raise n = Lv.lv n := by unfold Lv.raise; rw [if_neg h]
  have hn : (Lv.lv n == 0) = false := by simpa using h
  rw [hr]
  clear h hr
  go_enter Try.func90, Try.ntmps90
  go_wp2_with (go_at_call 93; refine (of_any _ _).mono ?_; rintro e w' ⟨rfl, rfl⟩)
  go_ret
  exact ⟨rfl, rfl⟩

end Go.Proofs.Ytcmcakandbpjfaa
namespace Go.Proofs.Ytcmcakandbpjfaa
set_option maxRecDepth 100000
set_option maxHeartbeats 8000000
open Go.ChangeShapes Go.WideShapes Go.ChangeAt Go.RowKit
set_option linter.unusedVariables false

theorem rget_any {B : Nat} {w : World} {ao : Option Addr} {n cap : Nat} {L : List (Int × Int)} (c : Int) (hL : Lab B w ao n cap L) :
  Calls Try.prog 87 #[.slice ao n cap, .int .u64 c] w fun e w' => e = .returned (.int .i64 (get L c)) ∧ w' = w := by
 have hn := hL.1
 have hnc := hL.2.1
 have hcm := hL.2.2.1.1
 go_enter Try.func87, Try.ntmps87
 go_wp2
 go_loop [5] (fun i => ∃ k : Nat, k ≤ n ∧ i = .int .i64 k ∧ get (L.drop k) c = get L c) (fun i => n - (intOf i).toNat)
 case atStart => exact ⟨0, Nat.zero_le _, rfl, by simp⟩
 case round =>
  obtain ⟨k, hk, rfl, hg⟩ := hrel
  by_cases hkn : k < n
  ·obtain ⟨b, off, x, y, rfl, hbB, d0, d1, hxy⟩ := hL.at (Below.refl _ _) hkn
   clear hL
   by_cases hxc : x = c
   ·have hr : Hid (get L c = y) := hg.symm.trans (get_hit (by omega) hxy.out hxc)
    clear hg
    go_wp2
    go_ret
    exact ⟨by rw [hr.out]; rfl, rfl⟩
   ·have hr : Hid (get (L.drop (k + 1)) c = get L c) := (get_miss (by omega) hxy.out hxc).symm.trans hg
    clear hg
    go_wp2
    go_round
    case rel => exact ⟨k + 1, by omega, by go_num, hr.out⟩
    case measure => simp [intOf]; omega
  ·have hr : Hid (get L c = 2) := hg.symm.trans (get_end (by omega) c)
   clear hg hL
   go_wp2
   go_ret
   exact ⟨by rw [hr.out]; rfl, rfl⟩

end Go.Proofs.Ytcmcakandbpjfaa
namespace Go.Proofs.Ytcmcakandbpjfaa
set_option maxRecDepth 100000
set_option maxHeartbeats 8000000
open Go.RowKit

def cellsOf : List (Int × Int) → List Value
 | [] => []
 | p :: r => .int .u64 p.1 :: .int .i64 p.2 :: cellsOf r
theorem cellsOf_append (A C : List (Int × Int)) : cellsOf (A ++ C) = cellsOf A ++ cellsOf C := by
 induction A with
 | nil => rfl
 | cons p r ih => simp [cellsOf, ih]
theorem cellsOf_at (A : List (Int × Int)) : ∀ i, i < A.length → (cellsOf A)[i * 2]? = some (.int .u64 (A.getD i (0, 0)).1) ∧ (cellsOf A)[i * 2 + 1]? = some (.int .i64 (A.getD i (0, 0)).2) := by
 induction A with
 | nil => intro i hi; exact absurd hi (by simp)
 | cons p r ih =>
  intro i hi
  cases i with
  | zero => simp [cellsOf]
  | succ j =>
   have h := ih j (by simpa using hi)
   have e1 : (j + 1) * 2 = j * 2 + 1 + 1 := by omega
   have e2 : (j + 1) * 2 + 1 = j * 2 + 1 + 1 + 1 := by omega
   rw [e1]
   simpa [cellsOf] using h

def OwnL (base : Nat) (w : World) (ao : Option Addr) (n cap : Nat) (L : List (Int × Int)) : Prop :=
 L.length = n ∧ w.ownsRow base 103 2 (.slice ao n cap) n (cellsOf L)
theorem OwnL.nil (base : Nat) (w : World) : OwnL base w none 0 0 [] := ⟨rfl, World.ownsRow_nil _ _ _ _⟩
theorem OwnL.lab {base : Nat} {w : World} {ao : Option Addr} {n cap : Nat} {L : List (Int × Int)} (h : OwnL base w ao n cap L) : Lab w.heap.size w ao n cap L := by
 obtain ⟨hl, hr⟩ := h
 have hr' := hr
 obtain ⟨_, ⟨hv, hn⟩ | ⟨g, cap', cur, hv, hb, hh, hnc, hm, hs, ht⟩⟩ := hr
 ·simp only [Value.slice.injEq] at hv
  obtain ⟨rfl, rfl, rfl⟩ := hv
  exact ⟨hl, by omega, ⟨by omega, fun _ => rfl⟩, fun h => absurd h (by omega)⟩
 ·simp only [Value.slice.injEq] at hv
  obtain ⟨rfl, _, rfl⟩ := hv
  refine ⟨hl, hnc, ⟨by unfold maxLen at hm; omega, fun hz => by cases hz⟩, fun _ => ⟨g, 0, rfl, (Array.getElem?_eq_some_iff.1 hh).1, fun i hi => ?_⟩⟩
  have hc := cellsOf_at L i (by omega)
  rw [Nat.zero_add]
  exact ⟨(hr'.cellAt (i * 2) (by omega)).trans hc.1, (hr'.cellAt (i * 2 + 1) (by omega)).trans hc.2⟩
theorem cell_two_new (w : World) (x y : Value) (t : TypeId) : ∀ j u, [x, y][j]? = some u → (w.alloc (.cells #[x, y] t)).cell? ((⟨w.heap.size, 0, none⟩ : Addr).add j) = some u := by
 intro j u hj
 match j, hj with
 | 0, hj => simp at hj; subst hj; simp [Addr.add]
 | 1, hj => simp at hj; subst hj; simp [Addr.add]
theorem ownsRow_two {W : World} {base : Nat} {e : TypeId} {size : Nat} {v : Value} {k : Nat} {xs : List Value} (h : W.ownsRow base e size v (k + 1) xs) : ∃ g cap, v = .slice (some ⟨g, 0, none⟩) (k + 1) cap := by
 rcases h.2 with ⟨_, h0⟩ | ⟨g, cap, _, rfl, _⟩
 ·omega
 ·exact ⟨g, cap, rfl⟩
def snoc (L : List (Int × Int)) (c l : Int) : List (Int × Int) := if l = 2 then L else L ++ [(c, l)]
theorem snoc_two {L : List (Int × Int)} {c l : Int} (h : l = 2) : snoc L c l = L := by unfold snoc; rw [if_pos h]
theorem snoc_new {L : List (Int × Int)} {c l : Int} (h : ¬ l = 2) : snoc L c l = L ++ [(c, l)] := by unfold snoc; rw [if_neg h]
end Go.Proofs.Ytcmcakandbpjfaa
namespace Go.Proofs.Ytcmcakandbpjfaa
set_option maxRecDepth 100000
set_option maxHeartbeats 8000000
open Go.ChangeShapes Go.WideShapes Go.ChangeAt Go.RowKit
set_option linter.unusedVariables false

theorem infoU64 : (Try.prog.info? 22).map (fun i => (i.zero, i.size, i.bytes)) = some (some (.int .u64 0), 1, 8) := by kernel_rfl

def Cts (B : Nat) (w : World) (ao : Option Addr) (n cap : Nat) (C : List Int) : Prop :=
 C.length = n ∧ n ≤ cap ∧ cap ≤ 9223372036854775807 ∧
 (0 < n → ∃ b off, ao = some ⟨b, off, none⟩ ∧ b < B ∧ ∀ i, i < n → w.cell? ⟨b, off + i, none⟩ = some (.int .u64 (C.getD i 0)))
theorem Cts.later {w w' : World} {ao : Option Addr} {n cap : Nat} {L : List Int} {B : Nat} (h : Cts B w ao n cap L) (k : Below B w w') : Cts B w' ao n cap L := by
 obtain ⟨h1, h2, h3, h4⟩ := h
 refine ⟨h1, h2, h3, fun hn => ?_⟩
 obtain ⟨b, off, e, hb, hc⟩ := h4 hn
 exact ⟨b, off, e, hb, fun i hi => (k.cell (p := ⟨b, off + i, none⟩) hb).trans (hc i hi)⟩
theorem Cts.next {w w' : World} {ao : Option Addr} {n cap : Nat} {L : List Int} (h : Cts w.heap.size w ao n cap L) (k : Below w.heap.size w w') : Cts w'.heap.size w' ao n cap L := by
 obtain ⟨h1, h2, h3, h4⟩ := h.later k
 refine ⟨h1, h2, h3, fun hn => ?_⟩
 obtain ⟨b, off, e, hb, hc⟩ := h4 hn
 exact ⟨b, off, e, Nat.lt_of_lt_of_le hb k.size, hc⟩
theorem Cts.of_row {base : Nat} {w : World} {v : Value} {C : List Int} (h : w.ownsRow base 22 1 v C.length (C.map (Value.int .u64))) : ∃ ao cap, v = .slice ao C.length cap ∧ Cts w.heap.size w ao C.length cap C := by
 have h' := h
 rcases h.2 with ⟨rfl, h0⟩ | ⟨g, cap, cur, rfl, hb, hh, hnc, hm, hs, ht⟩
 ·exact ⟨none, 0, by rw [h0], rfl, by omega, by omega, fun hn => absurd hn (by omega)⟩
 ·refine ⟨_, _, rfl, rfl, hnc, by unfold maxLen at hm; omega, fun _ => ⟨g, 0, rfl, (Array.getElem?_eq_some_iff.1 hh).1, fun i hi => ?_⟩⟩
  rw [Nat.zero_add, h'.cellAt i (by omega)]
  simp [List.getD_eq_getElem?_getD, List.getElem?_eq_getElem hi]

def ownK (L : List (Int × Int)) (k : Nat) : List Int := ((L.take k).filter fun p => decide (p.2 = 0)).map Prod.fst
def owned (L : List (Int × Int)) : List Int := (L.filter fun p => decide (p.2 = 0)).map Prod.fst
theorem ownK_all {L : List (Int × Int)} {k : Nat} (h : L.length ≤ k) : ownK L k = owned L := by unfold ownK owned; rw [List.take_of_length_le h]
theorem ownK_succ {L : List (Int × Int)} {k : Nat} {x y : Int} (h : k < L.length) (e : L.getD k (0, 0) = (x, y)) : ownK L (k + 1) = ownK L k ++ (if y = 0 then [x] else []) := by
 have e' : L[k] = (x, y) := by simpa [List.getD_eq_getElem?_getD, List.getElem?_eq_getElem h] using e
 unfold ownK
 rw [List.take_succ_eq_append_getElem h, e', List.filter_append, List.map_append]
 by_cases hy : y = 0 <;> simp [hy]
theorem ownK_hit {L : List (Int × Int)} {k : Nat} {x y : Int} (h : k < L.length) (e : L.getD k (0, 0) = (x, y)) (hy : y = 0) : ownK L (k + 1) = ownK L k ++ [x] := by rw [ownK_succ h e, if_pos hy]
theorem ownK_miss {L : List (Int × Int)} {k : Nat} {x y : Int} (h : k < L.length) (e : L.getD k (0, 0) = (x, y)) (hy : ¬ y = 0) : ownK L (k + 1) = ownK L k := by rw [ownK_succ h e, if_neg hy]; simp
theorem ownK_len (L : List (Int × Int)) (k : Nat) : (ownK L k).length ≤ k := by
 unfold ownK
 rw [List.length_map]
 exact Nat.le_trans (List.length_filter_le _ _) (by rw [List.length_take]; omega)

end Go.Proofs.Ytcmcakandbpjfaa
namespace Go.Proofs.Ytcmcakandbpjfaa
set_option maxRecDepth 100000
set_option maxHeartbeats 8000000
open Go.ChangeShapes Go.WideShapes Go.ChangeAt Go.RowKit
set_option linter.unusedVariables false

theorem infoPair : (Try.prog.info? 103).map (fun i => (i.zero, i.size, i.bytes)) = some (some (.agg #[.int .u64 0, .int .i64 0]), 2, 16) := by kernel_rfl

end Go.Proofs.Ytcmcakandbpjfaa
namespace Go.Proofs.Ytcmcakandbpjfaa
set_option maxRecDepth 100000
set_option maxHeartbeats 8000000

theorem takeR_len (L : List (Int × Int)) (c : Int) : (takeR L c).length ≤ L.length := by
 cases L with
 | nil => simp [takeR]
 | cons p r => simp only [takeR]; split <;> simp
theorem take_less {A C : List (Int × Int)} (h : 0 < A.length + C.length) : (takeR A (fore A C)).length + (takeR C (fore A C)).length < A.length + C.length := by
 have hA := takeR_len A (fore A C)
 have hC := takeR_len C (fore A C)
 cases A with
 | nil =>
  cases C with
  | nil => simp at h
  | cons q s => simp [fore, takeR]
 | cons p r =>
  cases C with
  | nil => simp [fore, takeR]
  | cons q s =>
   by_cases hpq : p.1 < q.1
   ·have hf : fore (p :: r) (q :: s) = p.1 := by simp [fore, hpq]
    rw [hf] at hC ⊢
    have : takeR (p :: r) p.1 = r := by simp [takeR]
    rw [this]; simp at hC ⊢; omega
   ·have hf : fore (p :: r) (q :: s) = q.1 := by simp [fore, hpq]
    rw [hf] at hA ⊢
    have : takeR (q :: s) q.1 = s := by simp [takeR]
    rw [this]; simp at hA ⊢; omega

def bothN : Nat → List (Int × Int) → List (Int × Int) → List (Int × (Int × Int))
 | 0, _, _ => []
 | k + 1, A, C => if A.length + C.length = 0 then [] else (fore A C, (takeV A (fore A C), takeV C (fore A C))) :: bothN k (takeR A (fore A C)) (takeR C (fore A C))
def both (A C : List (Int × Int)) : List (Int × (Int × Int)) := bothN (A.length + C.length) A C
theorem bothN_fuel : ∀ (k m : Nat) (A C : List (Int × Int)), A.length + C.length ≤ k → A.length + C.length ≤ m → bothN k A C = bothN m A C := by
 intro k
 induction k with
 | zero =>
  intro m A C h _
  have h0 : A.length + C.length = 0 := by omega
  cases m with
  | zero => rfl
  | succ m => simp only [bothN]; rw [if_pos h0]
 | succ k ih =>
  intro m A C h hm
  by_cases h0 : A.length + C.length = 0
  ·cases m with
   | zero => simp only [bothN]; rw [if_pos h0]
   | succ m => simp only [bothN]; rw [if_pos h0, if_pos h0]
  ·cases m with
   | zero => omega
   | succ m =>
    have hl := take_less (A := A) (C := C) (by omega)
    simp only [bothN]
    rw [if_neg h0, if_neg h0, ih m _ _ (by omega) (by omega)]
theorem both_cons {A C : List (Int × Int)} (h : 0 < A.length + C.length) : both A C = (fore A C, (takeV A (fore A C), takeV C (fore A C))) :: both (takeR A (fore A C)) (takeR C (fore A C)) := by
 have hl := take_less h
 unfold both
 obtain ⟨j, hj⟩ : ∃ j, A.length + C.length = j + 1 := ⟨A.length + C.length - 1, by omega⟩
 rw [hj]
 simp only [bothN]
 rw [if_neg (by omega), bothN_fuel j _ _ _ (by omega) (Nat.le_refl _)]
end Go.Proofs.Ytcmcakandbpjfaa
namespace Go.Proofs.Ytcmcakandbpjfaa
set_option maxRecDepth 100000
set_option maxHeartbeats 8000000
open Go.RowKit Go.Shelf
set_option linter.unusedVariables false
attribute [local go_sem] Oper.semAt_some

theorem keepsK_b {D : Nat → Prop} {w : World} (hD : ∀ b, D b → b < w.heap.size) (W : World) (l : Nat) (o o' : Obj) (hl : w.heap.size ≤ l) (h : W.heap[l]? = some o) (_ : o.isCells = false) (_ : o.isWalk = false) : Keeps D W (W.putObj l o') :=
 ⟨(grownBy_putObj' W l o').size, fun b hb => World.putObj_heap_other (fun e => by have := hD b hb; omega)⟩
theorem keepsK_t {D : Nat → Prop} {A B C : World} (h : Keeps D A B) (k : Keeps D B C) : Keeps D A C := h.trans k

def Two (W : World) (B : Nat) (t : TypeId) (u v : Value) : Prop := W.heap[B]? = some (.cells #[u, v] t (0, 0))
theorem Two.lt {W : World} {B : Nat} {t : TypeId} {u v : Value} (h : Two W B t u v) : B < W.heap.size := (Array.getElem?_eq_some_iff.1 h).1
theorem Two.new (W : World) (t : TypeId) (u v : Value) : Two (W.alloc (.cells #[u, v] t)) W.heap.size t u v := World.alloc_heap_new W _
theorem Two.kept {W W' : World} {row : Option Nat} {B : Nat} {t : TypeId} {u v : Value} (h : Two W B t u v) (hg : W.grownBy W' row) (hne : some B ≠ row) : Two W' B t u v := (hg.block B h.lt hne).trans h
end Go.Proofs.Ytcmcakandbpjfaa
namespace Go.Proofs.Ytcmcakandbpjfaa
set_option maxRecDepth 100000
set_option maxHeartbeats 8000000
open Go.RowKit Go.Shelf
set_option linter.unusedVariables false
attribute [local go_sem] Oper.semAt_some

def leqB (A C : List (Int × Int)) : Bool := (both A C).all fun x => Lv.leq x.2.1 x.2.2

end Go.Proofs.Ytcmcakandbpjfaa
namespace Go.Proofs.Ytcmcakandbpjfaa
set_option maxRecDepth 100000
set_option maxHeartbeats 8000000
open Go.ChangeShapes Go.WideShapes Go.ChangeAt Go.RowKit
set_option linter.unusedVariables false

theorem rlfit_any {B : Nat} {w : World} {ao : Option Addr} {n cap : Nat} {L : List (Int × Int)} (hL : Lab B w ao n cap L) (hB : B ≤ w.heap.size) :
  Calls Try.prog 83 #[.slice ao n cap] w fun e w' => e = .returned (.bool (fitB L)) ∧ Below w.heap.size w w' := by
 have hn := hL.1
 have hnc := hL.2.1
 have hcm := hL.2.2.1.1
 go_enter Try.func83, Try.ntmps83
 go_wp2
 go_loopw [3] (fun i wr => ∃ k : Nat, k ≤ n ∧ i = .int .i64 k ∧ (∀ j, j < k → okAt L j = true) ∧ Below w.heap.size w wr) (fun i _ => n - (intOf i).toNat)
 case atStart => exact ⟨0, Nat.zero_le _, rfl, fun j hj => absurd hj (by omega), Below.refl _ _⟩
 case round =>
  obtain ⟨k, hk, rfl, hg, hb⟩ := hrel
  by_cases hkn : k < n
  ·obtain ⟨b, off, x, y, rfl, hbB, d0, d1, hxy⟩ := hL.at (hb.mono hB) hkn
   have hG : Hid (∀ j, j < k → okAt L j = true) := hg
   have hkn' : (k : Int) < n := by omega
   clear hg
   cases hf : Lv.fit y with
   | false =>
    have hr : Hid (fitB L = false) := fitB_no (k := k) (by omega) (okAt_lev hxy.out hf)
    clear hL
    go_wp2
    go_quiet (first | (go_at_call 92; refine Calls.quiet_of_same (rfit_any _ _)))
    go_wp2
    go_ret
    exact ⟨by rw [hr.out]; rfl, below_drewN hb _⟩
   | true =>
    by_cases h2 : y = 2
    ·have hr : Hid (fitB L = false) := fitB_no (k := k) (by omega) (okAt_two hxy.out h2)
     clear hL
     subst h2
     go_wp2
     go_quiet (first | (go_at_call 92; refine Calls.quiet_of_same (rfit_any _ _)))
     go_wp2
     go_ret
     exact ⟨by rw [hr.out]; rfl, below_drewN hb _⟩
    ·have h2' : (y == 2) = false := by simpa using h2
     by_cases h0 : k = 0
     ·subst h0
      have ho : Hid (okAt L 0 = true) := okAt_yes0 hxy.out hf h2
      simp only [Nat.zero_mul, Nat.add_zero] at d0 d1
      clear hL
      go_wp2
      go_quiet (first | (go_at_call 92; refine Calls.quiet_of_same (rfit_any _ _)))
      go_wp2
      go_roundw
      case rel => exact ⟨1, by omega, by go_num, all_succ hG.out ho.out, below_drewN hb _⟩
      case measure => simp [intOf]; omega
     ·obtain ⟨m, rfl⟩ : ∃ m, k = m + 1 := ⟨k - 1, by omega⟩
      obtain ⟨b', off', x', y', hbo, _, d2, _, hxy'⟩ := hL.at (hb.mono hB) (i := m) (by omega)
      simp only [Option.some.injEq, Addr.mk.injEq, and_true] at hbo
      obtain ⟨rfl, rfl⟩ := hbo
      have hwm : IntKind.i64.wrap (m : Int) = m := wrapN (by omega)
      have hmn : (m : Int) < n := by omega
      by_cases hxx : x ≤ x'
      ·have hr : Hid (fitB L = false) := fitB_no (k := m + 1) (by omega) (okAt_cat hxy.out hxy'.out (by omega) hxx)
       clear hL
       go_wp2
       go_quiet (first | (go_at_call 92; refine Calls.quiet_of_same (rfit_any _ _)))
       go_wp2
       go_ret
       exact ⟨by rw [hr.out]; rfl, below_drewN hb _⟩
      ·have ho : Hid (okAt L (m + 1) = true) := okAt_yes hxy.out hf h2 hxy'.out (by omega)
       clear hL
       go_wp2
       go_quiet (first | (go_at_call 92; refine Calls.quiet_of_same (rfit_any _ _)))
       go_wp2
       go_roundw
       case rel => exact ⟨m + 1 + 1, by omega, by go_num, all_succ hG.out ho.out, below_drewN hb _⟩
       case measure => simp [intOf]; omega
  ·have hr : Hid (fitB L = true) := fitB_yes (fun j hj => hg j (by omega))
   clear hg hL
   go_wp2
   go_ret
   exact ⟨by rw [hr.out]; rfl, hb⟩

theorem rsame_any {B B' : Nat} {w : World} {ao ao' : Option Addr} {n n' cap cap' : Nat} {L L' : List (Int × Int)} (hL : Lab B w ao n cap L) (hB : B ≤ w.heap.size) (hL' : Lab B' w ao' n' cap' L') (hB' : B' ≤ w.heap.size) :
  Calls Try.prog 41 #[.slice ao n cap, .slice ao' n' cap'] w fun e w' => e = .returned (.bool (sameB L L')) ∧ Below w.heap.size w w' := by
 have hn := hL.1
 have hnc := hL.2.1
 have hcm := hL.2.2.1.1
 have hn' := hL'.1
 by_cases hnn : n = n'
 ·subst hnn
  go_enter Try.func41, Try.ntmps41
  go_wp2
  go_loopw [5] (fun i wr => ∃ k : Nat, k ≤ n ∧ i = .int .i64 k ∧ (∀ j, j < k → L.getD j (0, 0) = L'.getD j (0, 0)) ∧ Below w.heap.size w wr) (fun i _ => n - (intOf i).toNat)
  case atStart => exact ⟨0, Nat.zero_le _, rfl, fun j hj => absurd hj (by omega), Below.refl _ _⟩
  case round =>
   obtain ⟨k, hk, rfl, hg, hb⟩ := hrel
   by_cases hkn : k < n
   ·obtain ⟨b, off, x, y, rfl, hbB, d0, d1, hxy⟩ := hL.at (hb.mono hB) hkn
    obtain ⟨b', off', x', y', rfl, hbB', d0', d1', hxy'⟩ := hL'.at (hb.mono hB') hkn
    have hG : Hid (∀ j, j < k → L.getD j (0, 0) = L'.getD j (0, 0)) := hg
    clear hg hL hL'
    have hkn' : (k : Int) < n := by omega
    by_cases hx : x = x'
    ·by_cases hy : y = y'
     ·subst hx hy
      have ho : Hid (L.getD k (0, 0) = L'.getD k (0, 0)) := hxy.out.trans hxy'.out.symm
      go_wp2
      go_quiet (fail)
      go_wp2
      go_roundw
      case rel => exact ⟨k + 1, by omega, by go_num, eq_succ hG.out ho.out, below_drewN hb _⟩
      case measure => simp [intOf]; omega
     ·subst hx
      have hr : Hid (sameB L L' = false) := sameB_at hxy.out hxy'.out (fun e => hy (by simpa using e))
      go_wp2
      go_quiet (fail)
      go_wp2
      go_ret
      exact ⟨by rw [hr.out]; rfl, below_drewN hb _⟩
    ·have hr : Hid (sameB L L' = false) := sameB_at hxy.out hxy'.out (fun e => hx (by simp at e; exact e.1))
     go_wp2
     go_quiet (fail)
     go_wp2
     go_ret
     exact ⟨by rw [hr.out]; rfl, below_drewN hb _⟩
   ·have hr : Hid (sameB L L' = true) := sameB_all (by omega) (fun j hj => hg j (by omega))
    clear hg hL hL'
    go_wp2
    go_ret
    exact ⟨by rw [hr.out]; rfl, hb⟩
 ·have hr : Hid (sameB L L' = false) := sameB_len (by omega)
  have hnz : ((n : Int) == n') = false := by rw [beq_eq_false_iff_ne]; omega
  clear hL hL'
  go_enter Try.func41, Try.ntmps41
  go_wp2
  go_ret
  exact ⟨by rw [hr.out]; rfl, Below.refl _ _⟩
end Go.Proofs.Ytcmcakandbpjfaa
namespace Go.Proofs.Ytcmcakandbpjfaa
set_option maxRecDepth 100000
set_option maxHeartbeats 8000000
open Go.ChangeShapes Go.WideShapes Go.ChangeAt Go.RowKit
set_option linter.unusedVariables false

def wl (c l : Int) : Bool → List (Int × Int) → List (Int × Int)
 | d, [] => if d then [] else [(c, l)]
 | d, p :: r => (if !d && decide (c < p.1) then [(c, l)] else []) ++ ((if p.1 = c then [] else [p]) ++ wl c l (d || decide (c < p.1)) r)
def rwithL (L : List (Int × Int)) (c l : Int) : List (Int × Int) := wl c l (l == 2) L
theorem wl_drop {L : List (Int × Int)} {k : Nat} {x y : Int} (h : k < L.length) (e : L.getD k (0, 0) = (x, y)) (c l : Int) (d : Bool) :
  wl c l d (L.drop k) = (if !d && decide (c < x) then [(c, l)] else []) ++ ((if x = c then [] else [(x, y)]) ++ wl c l (d || decide (c < x)) (L.drop (k + 1))) := by
 have e' : L[k] = (x, y) := by simpa [List.getD_eq_getElem?_getD, List.getElem?_eq_getElem h] using e
 rw [List.drop_eq_getElem_cons h, e']
 rfl
theorem wl_len (c l : Int) : ∀ (L : List (Int × Int)) (d : Bool), (wl c l d L).length ≤ L.length + (if d then 0 else 1) := by
 intro L
 induction L with
 | nil => intro d; cases d <;> simp [wl]
 | cons p r ih =>
  intro d
  have h := ih (d || decide (c < p.1))
  simp only [wl, List.length_append, List.length_cons]
  cases d <;> by_cases h1 : c < p.1 <;> by_cases h2 : p.1 = c <;> simp [h1, h2] at h ⊢ <;> omega
theorem rwithL_len (L : List (Int × Int)) (c l : Int) : (rwithL L c l).length ≤ L.length + 1 := by
 have h := wl_len c l L (l == 2)
 unfold rwithL
 split at h <;> omega

theorem app_below {s : Nat} {w wr w1 : World} {e : TypeId} {size n : Nat} {v : Value} {xs : List Value} {o : Obj} (hb : Below s w wr) (hrow : wr.ownsRow s e size v n xs) (hg : (wr.alloc o).grownBy w1 v.ownBlock) (hs : s ≤ wr.heap.size) : Below s w w1 :=
 (hb.alloc hs o).grown hg (by simp; omega) (fun j e => (hrow.lt j e).1)

theorem rwith_any {B : Nat} {w : World} {ao : Option Addr} {n cap : Nat} {L : List (Int × Int)} (c l : Int) (hL : Lab B w ao n cap L) (hB : B ≤ w.heap.size) (hn : n < 549755813888) :
  Calls Try.prog 88 #[.slice ao n cap, .int .u64 c, .int .i64 l] w fun e w' => ∃ ao1 n1 cap1, e = .returned (.slice ao1 n1 cap1) ∧ OwnL w.heap.size w' ao1 n1 cap1 (rwithL L c l) ∧ Below w.heap.size w w' := by
 obtain ⟨i0, hi, hz0, hz1, hz2⟩ := info_parts infoPair
 have hll := hL.1
 have hnc := hL.2.1
 have hcm := hL.2.2.1.1
 go_enter Try.func88, Try.ntmps88
 go_wp2
 go_loopw [7, 8, 9] (fun v dv i wr => ∃ (k : Nat) (d : Bool) (O : List (Int × Int)) (ao1 : Option Addr) (cap1 : Nat), k ≤ n ∧ i = .int .i64 k ∧ dv = .bool d ∧ v = .slice ao1 O.length cap1 ∧ Hid (rwithL L c l = O ++ wl c l d (L.drop k)) ∧ O.length ≤ 2 * k ∧ OwnL w.heap.size wr ao1 O.length cap1 O ∧ Below w.heap.size w wr) (fun _ _ i _ => n - (intOf i).toNat)
 case atStart => exact ⟨0, _, [], none, 0, Nat.zero_le _, rfl, rfl, rfl, rfl, Nat.le_refl _, OwnL.nil _ _, Below.refl _ _⟩
 case round =>
  obtain ⟨k, d, O, ao1, cap1, hk, rfl, rfl, rfl, hO, hOl, ⟨_, hrow⟩, hb⟩ := hrel
  have hbs := hb.size
  by_cases hkn : k < n
  ·obtain ⟨b, off, x, y, rfl, hbB, d0, d1, hxy⟩ := hL.at (hb.mono hB) hkn
   have hbw : b < wr.heap.size := by omega
   have hkn' : (k : Int) < n := by omega
   have hw := wl_drop (by omega) hxy.out c l d
   obtain ⟨b', off', x', y', hao, _, c0, c1, hxy'⟩ := hL.at (Below.refl _ _) hkn
   simp only [Option.some.injEq, Addr.mk.injEq, and_true] at hao
   obtain ⟨rfl, rfl⟩ := hao
   have hee := hxy.out.symm.trans hxy'.out
   simp only [Prod.mk.injEq] at hee
   obtain ⟨rfl, rfl⟩ := hee
   have HW : Hid (wl c l d (L.drop k) = _) := hw
   clear hL hw
   cases d with
   | true =>
    by_cases hxc : x = c
    ·subst hxc
     go_wp2
     go_roundw
     case rel => exact ⟨k + 1, true, O, _, _, by omega, by go_num, rfl, rfl, hO.out.trans (by rw [HW.out]; simp), by omega, ⟨rfl, hrow⟩, hb⟩
     case measure => simp [intOf]; omega
    ·have hxb : (x == c) = false := by simpa using hxc
     go_wp2_with (at_builtin; refine wpList_append_own _ rfl (.tmp 42) (.tmp 47) 39 rfl w.heap.size 103 i0 (.agg #[.int .u64 0, .int .i64 0]) 2 16 Try.underlying39 hi hz0 hz1 hz2 rfl (by decide) _ _ _ rfl (hrow.alloc _) ⟨wr.heap.size, 0, none⟩ 1 1 [.int .u64 x, .int .i64 y] rfl rfl (cell_two_new _ _ _ _) (by simp [Value.oneCell']) (by unfold maxLen; omega) (by omega) (by simp; omega) ?_; intro v1 w1 hown1 hgrow1 _; obtain ⟨g1, cp1, rfl⟩ := ownsRow_two hown1; have hb1 := app_below hb hrow hgrow1 hbs)
     go_roundw
     case rel => exact ⟨k + 1, true, O ++ [(x, y)], some ⟨g1, 0, none⟩, cp1, by omega, by go_num, rfl, by simp, hO.out.trans (by rw [HW.out]; simp [hxc]), by simp; omega, ⟨by simp, by rw [cellsOf_append]; simpa [cellsOf] using hown1⟩, hb1⟩
     case measure => simp [intOf]; omega
   | false =>
    by_cases hcx : c < x
    ·have hxc : ¬ x = c := by omega
     have hxb : (x == c) = false := by simpa using hxc
     go_wp2_with (first | (at_builtin; refine wpList_append_own _ rfl (.tmp 29) (.tmp 33) 39 rfl w.heap.size 103 i0 (.agg #[.int .u64 0, .int .i64 0]) 2 16 Try.underlying39 hi hz0 hz1 hz2 rfl (by decide) _ _ _ rfl (hrow.alloc _) ⟨wr.heap.size, 0, none⟩ 1 1 [.int .u64 c, .int .i64 l] rfl rfl (cell_two_new _ _ _ _) (by simp [Value.oneCell']) (by unfold maxLen; omega) (by omega) (by simp; omega) ?_; intro v1 w1 hown1 hgrow1 _; obtain ⟨g1, cp1, rfl⟩ := ownsRow_two hown1; have hb1 := app_below hb hrow hgrow1 hbs; have hbs1 := hb1.size; have hbw1 : b < w1.heap.size := (by omega); have e0 := (hb1.cell (p := ⟨b, off + k * 2, none⟩) (by show b < _; omega)).trans c0; have e1 := (hb1.cell (p := ⟨b, off + k * 2 + 1, none⟩) (by show b < _; omega)).trans c1) | (at_builtin; refine wpList_append_own _ rfl (.tmp 42) (.tmp 47) 39 rfl w.heap.size 103 i0 (.agg #[.int .u64 0, .int .i64 0]) 2 16 Try.underlying39 hi hz0 hz1 hz2 rfl (by decide) _ _ _ rfl (hown1.alloc _) ⟨w1.heap.size, 0, none⟩ 1 1 [.int .u64 x, .int .i64 y] rfl rfl (cell_two_new _ _ _ _) (by simp [Value.oneCell']) (by unfold maxLen; omega) (by omega) (by simp; omega) ?_; intro v2 w2 hown2 hgrow2 _; obtain ⟨g2, cp2, rfl⟩ := ownsRow_two hown2; have hb2 := app_below hb1 hown1 hgrow2 hbs1))
     go_roundw
     case rel => exact ⟨k + 1, true, O ++ [(c, l)] ++ [(x, y)], some ⟨g2, 0, none⟩, cp2, by omega, by go_num, rfl, by simp, hO.out.trans (by rw [HW.out]; simp [hxc, hcx]), by simp; omega, ⟨by simp, by rw [cellsOf_append, cellsOf_append]; simpa [cellsOf] using hown2⟩, hb2⟩
     case measure => simp [intOf]; omega
    ·by_cases hxc : x = c
     ·subst hxc
      go_wp2
      go_roundw
      case rel => exact ⟨k + 1, false, O, _, _, by omega, by go_num, rfl, rfl, hO.out.trans (by rw [HW.out]; simp), by omega, ⟨rfl, hrow⟩, hb⟩
      case measure => simp [intOf]; omega
     ·have hxb : (x == c) = false := by simpa using hxc
      go_wp2_with (at_builtin; refine wpList_append_own _ rfl (.tmp 42) (.tmp 47) 39 rfl w.heap.size 103 i0 (.agg #[.int .u64 0, .int .i64 0]) 2 16 Try.underlying39 hi hz0 hz1 hz2 rfl (by decide) _ _ _ rfl (hrow.alloc _) ⟨wr.heap.size, 0, none⟩ 1 1 [.int .u64 x, .int .i64 y] rfl rfl (cell_two_new _ _ _ _) (by simp [Value.oneCell']) (by unfold maxLen; omega) (by omega) (by simp; omega) ?_; intro v1 w1 hown1 hgrow1 _; obtain ⟨g1, cp1, rfl⟩ := ownsRow_two hown1; have hb1 := app_below hb hrow hgrow1 hbs)
      go_roundw
      case rel => exact ⟨k + 1, false, O ++ [(x, y)], some ⟨g1, 0, none⟩, cp1, by omega, by go_num, rfl, by simp, hO.out.trans (by rw [HW.out]; simp [hxc, hcx]), by simp; omega, ⟨by simp, by rw [cellsOf_append]; simpa [cellsOf] using hown1⟩, hb1⟩
      case measure => simp [intOf]; omega
  ·have hO' : Hid (rwithL L c l = O ++ wl c l d []) := by
    have h2 : L.drop k = [] := List.drop_eq_nil_of_le (by omega)
    have h3 := hO.out
    rw [h2] at h3
    exact h3
   clear hL hO
   cases d with
   | true =>
    go_wp2
    go_ret
    exact ⟨_, _, _, rfl, by rw [hO'.out]; simp [wl]; exact ⟨rfl, hrow⟩, hb⟩
   | false =>
    go_wp2_with (at_builtin; refine wpList_append_own _ rfl (.tmp 51) (.tmp 55) 39 rfl w.heap.size 103 i0 (.agg #[.int .u64 0, .int .i64 0]) 2 16 Try.underlying39 hi hz0 hz1 hz2 rfl (by decide) _ _ _ rfl (hrow.alloc _) ⟨wr.heap.size, 0, none⟩ 1 1 [.int .u64 c, .int .i64 l] rfl rfl (cell_two_new _ _ _ _) (by simp [Value.oneCell']) (by unfold maxLen; omega) (by omega) (by simp; omega) ?_; intro v1 w1 hown1 hgrow1 _; obtain ⟨g1, cp1, rfl⟩ := ownsRow_two hown1; have hb1 := app_below hb hrow hgrow1 hbs)
    go_ret
    exact ⟨_, _, _, rfl, by rw [hO'.out]; exact ⟨by simp [wl], by rw [cellsOf_append]; simpa [cellsOf, wl] using hown1⟩, hb1⟩
end Go.Proofs.Ytcmcakandbpjfaa
namespace Go.Proofs.Ytcmcakandbpjfaa
set_option maxRecDepth 100000
set_option maxHeartbeats 8000000
open Go.ChangeShapes Go.WideShapes Go.ChangeAt Go.RowKit
set_option linter.unusedVariables false

def rleqB (A C : List (Int × Int)) : Bool := (A.all fun p => Lv.leq p.2 (get C p.1)) && (C.all fun q => Lv.leq (get A q.1) q.2)
theorem all_no {A : List (Int × Int)} {f : Int × Int → Bool} {k : Nat} {p : Int × Int} (h : k < A.length) (e : A.getD k (0, 0) = p) (hf : f p = false) : A.all f = false := by
 rw [List.all_eq_false]
 have e' : A[k] = p := by simpa [List.getD_eq_getElem?_getD, List.getElem?_eq_getElem h] using e
 exact ⟨p, e' ▸ List.getElem_mem h, by simp [hf]⟩
theorem all_yes {A : List (Int × Int)} {f : Int × Int → Bool} (h : ∀ k, k < A.length → f (A.getD k (0, 0)) = true) : A.all f = true := by
 rw [List.all_eq_true]
 intro x hx
 obtain ⟨k, hk, rfl⟩ := List.getElem_of_mem hx
 have := h k hk
 simpa [List.getD_eq_getElem?_getD, List.getElem?_eq_getElem hk] using this

theorem rlleq_any {w : World} {ao ao' : Option Addr} {n n' cap cap' : Nat} {L L' : List (Int × Int)} (hL : Lab w.heap.size w ao n cap L) (hL' : Lab w.heap.size w ao' n' cap' L') :
  Calls Try.prog 74 #[.slice ao n cap, .slice ao' n' cap'] w fun e w' => e = .returned (.bool (rleqB L L')) ∧ Below w.heap.size w w' := by
 have hn := hL.1
 have hcm := hL.2.2.1.1
 have hnc := hL.2.1
 have hn' := hL'.1
 have hcm' := hL'.2.2.1.1
 have hnc' := hL'.2.1
 go_enter Try.func74, Try.ntmps74
 go_wp2
 go_loopw [5] (fun i wr => ∃ k : Nat, k ≤ n ∧ i = .int .i64 k ∧ (∀ j, j < k → Lv.leq (L.getD j (0, 0)).2 (get L' (L.getD j (0, 0)).1) = true) ∧ Below w.heap.size w wr) (fun i _ => n - (intOf i).toNat)
 case atStart => exact ⟨0, Nat.zero_le _, rfl, fun j hj => absurd hj (by omega), Below.refl _ _⟩
 case round =>
  obtain ⟨k, hk, rfl, hg, hb⟩ := hrel
  have HG : Hid (∀ j, j < k → Lv.leq (L.getD j (0, 0)).2 (get L' (L.getD j (0, 0)).1) = true) := hg
  clear hg
  by_cases hkn : k < n
  ·obtain ⟨b, off, x, y, rfl, hbB, d0, d1, hxy⟩ := hL.at hb hkn
   have hkn' : (k : Int) < n := by omega
   have HL' : ∀ m, Lab w.heap.size (wr.drewN m) ao' n' cap' L' := fun m => hL'.later (below_drewN hb m)
   clear hL hL'
   cases hq : Lv.leq y (get L' x) with
   | false =>
    have hr : Hid (rleqB L L' = false) := by
     show (_ && _) = false
     rw [all_no (p := (x, y)) (k := k) (by omega) hxy.out hq]; rfl
    go_wp2
    go_quiet (first | (go_at_call 87; refine Calls.quiet_of_same (rget_any _ (HL' _))) | (go_at_call 86; refine Calls.quiet_of_same (rleq_any _ _ _)))
    go_wp2
    go_ret
    exact ⟨by rw [hr.out]; rfl, below_drewN hb _⟩
   | true =>
    go_wp2
    go_quiet (first | (go_at_call 87; refine Calls.quiet_of_same (rget_any _ (HL' _))) | (go_at_call 86; refine Calls.quiet_of_same (rleq_any _ _ _)))
    go_wp2
    go_roundw
    case rel => exact ⟨k + 1, by omega, by go_num, fun j hj => by
     rcases Nat.lt_or_ge j k with h | h
     ·exact HG.out j h
     ·have : j = k := by omega
      rw [this, hxy.out]; exact hq, below_drewN hb _⟩
    case measure => simp [intOf]; omega
  ·have hA : Hid (L.all (fun p => Lv.leq p.2 (get L' p.1)) = true) := all_yes (fun j hj => HG.out j (by omega))
   clear HG
   go_wp2
   go_loopw [6] (fun i wr => ∃ k : Nat, k ≤ n' ∧ i = .int .i64 k ∧ (∀ j, j < k → Lv.leq (get L (L'.getD j (0, 0)).1) (L'.getD j (0, 0)).2 = true) ∧ Below w.heap.size w wr) (fun i _ => n' - (intOf i).toNat)
   case atStart => exact ⟨0, Nat.zero_le _, rfl, fun j hj => absurd hj (by omega), hb⟩
   case round =>
    clear hb
    obtain ⟨k, hk, rfl, hg, hb⟩ := hrel
    have HG : Hid (∀ j, j < k → Lv.leq (get L (L'.getD j (0, 0)).1) (L'.getD j (0, 0)).2 = true) := hg
    clear hg
    by_cases hkn : k < n'
    ·obtain ⟨b, off, x, y, rfl, hbB, d0, d1, hxy⟩ := hL'.at hb hkn
     have hkn' : (k : Int) < n' := by omega
     have HL : ∀ m, Lab w.heap.size (wr.drewN m) ao n cap L := fun m => hL.later (below_drewN hb m)
     clear hL hL'
     cases hq : Lv.leq (get L x) y with
     | false =>
      have hr : Hid (rleqB L L' = false) := by
       show (_ && _) = false
       rw [all_no (A := L') (p := (x, y)) (k := k) (by omega) hxy.out hq, Bool.and_false]
      go_wp2
      go_quiet (first | (go_at_call 87; refine Calls.quiet_of_same (rget_any _ (HL _))) | (go_at_call 86; refine Calls.quiet_of_same (rleq_any _ _ _)))
      go_wp2
      go_ret
      exact ⟨by rw [hr.out]; rfl, below_drewN hb _⟩
     | true =>
      go_wp2
      go_quiet (first | (go_at_call 87; refine Calls.quiet_of_same (rget_any _ (HL _))) | (go_at_call 86; refine Calls.quiet_of_same (rleq_any _ _ _)))
      go_wp2
      go_roundw
      case rel => exact ⟨k + 1, by omega, by go_num, fun j hj => by
       rcases Nat.lt_or_ge j k with h | h
       ·exact HG.out j h
       ·have : j = k := by omega
        rw [this, hxy.out]; exact hq, below_drewN hb _⟩
      case measure => simp [intOf]; omega
    ·have hr : Hid (rleqB L L' = true) := by
      show (_ && _) = true
      rw [hA.out, all_yes (A := L') (fun j hj => HG.out j (by omega))]; rfl
     clear HG hL hL'
     go_wp2
     go_ret
     exact ⟨by rw [hr.out]; rfl, hb⟩
theorem rowned_any {w : World} {ao : Option Addr} {n cap : Nat} {L : List (Int × Int)} (hL : Lab w.heap.size w ao n cap L) (hk : n < 274877906944) :
  Calls Try.prog 70 #[.slice ao n cap] w fun e w' => ∃ ao1 n1 cap1, e = .returned (.slice ao1 n1 cap1) ∧ Cts w'.heap.size w' ao1 n1 cap1 (owned L) ∧ Below w.heap.size w w' := by
 obtain ⟨i0, hi, hz0, hz1, hz2⟩ := info_parts infoU64
 have hn := hL.1
 have hnc := hL.2.1
 have hcm := hL.2.2.1.1
 go_enter Try.func70, Try.ntmps70
 go_wp2
 go_loopw [3, 4] (fun v i wr => ∃ k : Nat, k ≤ n ∧ i = .int .i64 k ∧ wr.ownsRow w.heap.size 22 1 v (ownK L k).length ((ownK L k).map (Value.int .u64)) ∧ Below w.heap.size w wr) (fun _ i _ => n - (intOf i).toNat)
 case atStart => exact ⟨0, Nat.zero_le _, rfl, World.ownsRow_nil _ _ _ _, Below.refl _ _⟩
 case round =>
  obtain ⟨k, hkn, rfl, hrow, hb⟩ := hrel
  have hlk := ownK_len L k
  by_cases hlt : k < n
  ·obtain ⟨b, off, x, y, rfl, hbB, d0, d1, hxy⟩ := hL.at hb hlt
   have hbw : b < wr.heap.size := Nat.lt_of_lt_of_le hbB hb.size
   clear hL
   by_cases hy : y = 0
   ·have hs : Hid (ownK L (k + 1) = ownK L k ++ [x]) := ownK_hit (by omega) hxy.out hy
    subst hy
    go_wp2_with (at_builtin; refine wpList_append_own _ rfl _ _ 28 rfl w.heap.size 22 i0 (.int .u64 0) 1 8 Try.underlying28 hi hz0 hz1 hz2 rfl (by decide) _ _ _ rfl (hrow.alloc _) ⟨wr.heap.size, 0, none⟩ 1 1 [.int .u64 x] rfl rfl (cell_one_new _ _ _) (by simp [Value.oneCell']) (by unfold maxLen; omega) (by omega) (by have := hb.size; simp; omega) ?_; intro v' w1 hown' hgrow _; obtain ⟨g', cap', rfl⟩ := ownsRow_two hown')
    have hb2 : Below w.heap.size w w1 := app_below hb hrow hgrow hb.size
    go_roundw
    case rel => exact ⟨k + 1, by omega, by go_num, by rw [hs.out]; simpa using hown', hb2⟩
    case measure => simp [intOf]; omega
   ·have hs : Hid (ownK L (k + 1) = ownK L k) := ownK_miss (by omega) hxy.out hy
    have hy0 : (y == 0) = false := by simpa using hy
    go_wp2
    go_roundw
    case rel => exact ⟨k + 1, by omega, by go_num, by rw [hs.out]; exact hrow, hb⟩
    case measure => simp [intOf]; omega
  ·have hs := ownK_all (L := L) (k := k) (by omega)
   rw [hs] at hrow
   obtain ⟨aoL, capL, rfl, hcts⟩ := Cts.of_row hrow
   clear hL hs
   go_wp2
   go_ret
   exact ⟨_, _, _, rfl, hcts, hb⟩
end Go.Proofs.Ytcmcakandbpjfaa
namespace Go.Proofs.Ytcmcakandbpjfaa
set_option maxRecDepth 100000
set_option maxHeartbeats 8000000
open Go.RowKit Go.Shelf
set_option linter.unusedVariables false
attribute [local go_sem] Oper.semAt_some

def foldP (op : Int → Int → Int) (pre : List (Int × (Int × Int))) : List (Int × Int) := pre.foldl (fun acc x => snoc acc x.1 (op x.2.1 x.2.2)) []
theorem below_grown {w w' : World} (h : Below w.heap.size w w') : w.grownBy w' none := ⟨h.os, h.tape, h.output, h.size, fun k hk _ => h.block k hk⟩
theorem OwnL.next {base : Nat} {w w' : World} {ao : Option Addr} {n cap : Nat} {L : List (Int × Int)} (h : OwnL base w ao n cap L) (k : Below w.heap.size w w') : OwnL base w' ao n cap L := by
 refine ⟨h.1, h.2.kept (below_grown k) ?_⟩
 cases ao with
 | none => exact .inl rfl
 | some a => exact .inr (by simp [Value.ownBlock])
theorem Boxed.next {W W' : World} {B : Nat} {t : TypeId} {v : Value} (h : Boxed W B t v) (k : Below W.heap.size W W') : Boxed W' B t v := h.kept (below_grown k) (by simp)

theorem not_row {W : World} {b : Nat} {cs : Array Value} {t e : TypeId} {f : Nat × Nat} (h : W.heap[b]? = some (.cells cs t f)) (hte : t ≠ e) {base size k : Nat} {v : Value} {xs : List Value} (hr : W.ownsRow base e size v k xs) : some b ≠ v.ownBlock := by
 rcases hr.2 with ⟨rfl, _⟩ | ⟨g, cap, cur, rfl, _, hgb, _⟩
 ·simp [Value.ownBlock]
 ·intro e'
  obtain rfl : b = g := by simpa [Value.ownBlock] using e'
  have := h.symm.trans hgb
  simp at this
  exact hte this.2.1
end Go.Proofs.Ytcmcakandbpjfaa
namespace Go.Proofs.Ytcmcakandbpjfaa
set_option maxRecDepth 100000
set_option maxHeartbeats 8000000

def Rc : Int → List (Int × Int) → Prop
 | _, [] => True
 | b, p :: r => b < p.1 ∧ Rc p.1 r
def lok (v : Int) : Prop := 0 ≤ v ∧ v ≤ 5 ∧ v ≠ 2
def Fit (L : List (Int × Int)) : Prop := (∃ b, Rc b L) ∧ ∀ p ∈ L, lok p.2
theorem Rc.low {b b' : Int} {L : List (Int × Int)} (h : Rc b L) (k : b' ≤ b) : Rc b' L := by
 cases L with
 | nil => trivial
 | cons p r => exact ⟨by have := h.1; omega, h.2⟩
theorem okAt_zero {p : Int × Int} {r : List (Int × Int)} (h : okAt (p :: r) 0 = true) : lok p.2 := by
 simp [okAt, Lv.fit] at h
 exact ⟨h.1.1, h.1.2, h.2⟩
theorem okAt_succ {p : Int × Int} {r : List (Int × Int)} {j : Nat} (h : okAt (p :: r) (j + 1) = true) : okAt r j = true ∧ (j = 0 → p.1 < (r.getD 0 (0, 0)).1) := by
 simp only [okAt, Bool.and_eq_true, Bool.or_eq_true, Bool.not_eq_true', decide_eq_true_eq, decide_eq_false_iff_not, List.getD_cons_succ] at h ⊢
 obtain ⟨h1, h2, h3⟩ := h
 refine ⟨⟨h1, h2, ?_⟩, ?_⟩
 ·cases j with
  | zero => exact .inl rfl
  | succ i => exact .inr (by simpa using h3)
 ·intro hj; subst hj; simpa using h3
theorem fit_of {L : List (Int × Int)} : (∀ j, j < L.length → okAt L j = true) → (∀ p ∈ L, lok p.2) ∧ ∀ b, (∀ q s, L = q :: s → b < q.1) → Rc b L := by
 induction L with
 | nil => intro _; exact ⟨fun p hp => (by cases hp), fun _ _ => trivial⟩
 | cons p r ih =>
  intro h
  have h0 := okAt_zero (h 0 (by simp))
  have hr : ∀ j, j < r.length → okAt r j = true := fun j hj => (okAt_succ (h (j + 1) (by simpa using hj))).1
  obtain ⟨i1, i2⟩ := ih hr
  refine ⟨fun q hq => ?_, fun b hb => ⟨hb p r rfl, i2 p.1 fun q s e => ?_⟩⟩
  ·rcases List.mem_cons.1 hq with rfl | hq
   ·exact h0
   ·exact i1 q hq
  ·subst e
   have := (okAt_succ (h 1 (by simp))).2 rfl
   simpa using this
theorem fit_iff {L : List (Int × Int)} : fitB L = true → Fit L := by
 intro h
 unfold fitB at h
 rw [List.all_eq_true] at h
 obtain ⟨h1, h2⟩ := fit_of (L := L) (fun j hj => h j (List.mem_range.2 hj))
 refine ⟨?_, h1⟩
 cases L with
 | nil => exact ⟨0, trivial⟩
 | cons p r => exact ⟨p.1 - 1, h2 _ (fun q s e => by cases e; omega)⟩
theorem get_low {L : List (Int × Int)} : ∀ {b c : Int}, Rc b L → c ≤ b → get L c = 2 := by
 induction L with
 | nil => intro b c _ _; rfl
 | cons p r ih =>
  intro b c h hc
  have hp := h.1
  simp only [get]
  rw [if_neg (by omega)]
  exact ih h.2 (by omega)
theorem get_mem {L : List (Int × Int)} : ∀ {b : Int} {p : Int × Int}, Rc b L → p ∈ L → get L p.1 = p.2 := by
 induction L with
 | nil => intro b p _ hp; cases hp
 | cons q r ih =>
  intro b p h hp
  rcases List.mem_cons.1 hp with rfl | hp
  ·simp [get]
  ·have hg := ih h.2 hp
   simp only [get]
   by_cases he : q.1 = p.1
   ·have hlow := get_low h.2 (c := p.1) (by omega)
    exfalso
    have : ∀ {b : Int} {L : List (Int × Int)}, Rc b L → p ∈ L → b < p.1 := by
     intro b L
     induction L generalizing b with
     | nil => intro _ h; cases h
     | cons x y ihy =>
      intro h hm
      rcases List.mem_cons.1 hm with rfl | hm
      ·exact h.1
      ·have := ihy h.2 hm; have := h.1; omega
    have := this h.2 hp
    omega
   ·rw [if_neg he]; exact hg
theorem get_range {L : List (Int × Int)} (h : ∀ p ∈ L, lok p.2) (c : Int) : 0 ≤ get L c ∧ get L c ≤ 5 := by
 induction L with
 | nil => simp [get]
 | cons p r ih =>
  simp only [get]
  split
  ·exact ⟨(h p (by simp)).1, (h p (by simp)).2.1⟩
  ·exact ih (fun q hq => h q (by simp [hq]))
theorem ext_rc : ∀ {A C : List (Int × Int)} {b b' : Int}, Rc b A → Rc b' C → (∀ p ∈ A, lok p.2) → (∀ p ∈ C, lok p.2) → (∀ c, get A c = get C c) → A = C := by
 intro A
 induction A with
 | nil =>
  intro C b b' _ hC _ lC h
  cases C with
  | nil => rfl
  | cons q s =>
   have h1 := h q.1
   simp [get] at h1
   exact absurd h1.symm (lC q (by simp)).2.2
 | cons p r ih =>
  intro C b b' hA hC lA lC h
  cases C with
  | nil =>
   have h1 := h p.1
   simp [get] at h1
   exact absurd h1 (lA p (by simp)).2.2
  | cons q s =>
   have hpq : p.1 = q.1 := by
    rcases Int.lt_trichotomy p.1 q.1 with hlt | he | hgt
    ·exfalso
     have h1 := h p.1
     have h2 : get (q :: s) p.1 = 2 := get_low (b := p.1) (show Rc p.1 (q :: s) from ⟨hlt, hC.2⟩) (by omega)
     rw [h2] at h1
     simp [get] at h1
     exact (lA p (by simp)).2.2 h1
    ·exact he
    ·exfalso
     have h1 := h q.1
     have h2 : get (p :: r) q.1 = 2 := get_low (b := q.1) (show Rc q.1 (p :: r) from ⟨hgt, hA.2⟩) (by omega)
     rw [h2] at h1
     simp [get] at h1
     exact (lC q (by simp)).2.2 h1.symm
   have hv : p.2 = q.2 := by
    have h1 := h p.1
    simp [get, hpq] at h1
    exact h1
   have hrs : r = s := by
    refine ih hA.2 hC.2 (fun x hx => lA x (by simp [hx])) (fun x hx => lC x (by simp [hx])) (fun c => ?_)
    by_cases hc : c ≤ p.1
    ·rw [get_low hA.2 hc, get_low hC.2 (by omega)]
    ·have h1 := h c
     simp only [get] at h1
     rwa [if_neg (by omega), if_neg (by omega)] at h1
   rw [hrs, Prod.ext hpq hv]
theorem ext {A C : List (Int × Int)} (hA : Fit A) (hC : Fit C) (h : ∀ c, get A c = get C c) : A = C := by
 obtain ⟨⟨b, r⟩, l⟩ := hA
 obtain ⟨⟨b', r'⟩, l'⟩ := hC
 exact ext_rc r r' l l' h

def foldH (h : Int → Int → Int → Int) (pre : List (Int × (Int × Int))) : List (Int × Int) := pre.foldl (fun acc x => snoc acc x.1 (h x.1 x.2.1 x.2.2)) []
theorem snoc_app (A : List (Int × Int)) (c l : Int) : snoc A c l = A ++ snoc [] c l := by unfold snoc; split <;> simp
theorem foldH_acc (h : Int → Int → Int → Int) : ∀ (pre : List (Int × (Int × Int))) (acc : List (Int × Int)), pre.foldl (fun acc x => snoc acc x.1 (h x.1 x.2.1 x.2.2)) acc = acc ++ foldH h pre := by
 intro pre
 induction pre with
 | nil => intro acc; simp [foldH]
 | cons x r ih =>
  intro acc
  simp only [foldH, List.foldl_cons]
  rw [ih, ih (snoc [] x.1 (h x.1 x.2.1 x.2.2)), snoc_app acc]
  simp
theorem foldH_cons (h : Int → Int → Int → Int) (x : Int × (Int × Int)) (r : List (Int × (Int × Int))) : foldH h (x :: r) = snoc [] x.1 (h x.1 x.2.1 x.2.2) ++ foldH h r := by
 simp only [foldH, List.foldl_cons]
 exact foldH_acc h r _

theorem take_facts {A : List (Int × Int)} {b c : Int} (h : Rc b A) (hc : ∀ p r, A = p :: r → c ≤ p.1) : Rc c (takeR A c) ∧ takeV A c = get A c ∧ ∀ k, k ≠ c → get (takeR A c) k = get A k := by
 cases A with
 | nil => exact ⟨trivial, rfl, fun _ _ => rfl⟩
 | cons p r =>
  have hcp := hc p r rfl
  by_cases he : p.1 = c
  ·have e1 : takeR (p :: r) c = r := by simp [takeR, he]
   rw [e1]
   refine ⟨he ▸ h.2, by simp [takeV, get, he], fun k hk => ?_⟩
   simp only [get]
   rw [if_neg (by omega)]
  ·have e1 : takeR (p :: r) c = p :: r := by simp [takeR, he]
   rw [e1]
   refine ⟨⟨by omega, h.2⟩, ?_, fun _ _ => rfl⟩
   have hlow : get (p :: r) c = 2 := get_low (b := c) (show Rc c (p :: r) from ⟨by omega, h.2⟩) (by omega)
   rw [hlow]
   simp [takeV, he]
theorem fore_facts {A C : List (Int × Int)} (h : 0 < A.length + C.length) : (∀ p r, A = p :: r → fore A C ≤ p.1) ∧ (∀ p r, C = p :: r → fore A C ≤ p.1) ∧ ∀ b, Rc b A → Rc b C → b < fore A C := by
 cases A with
 | nil =>
  cases C with
  | nil => simp at h
  | cons q s => exact ⟨fun _ _ e => (by cases e), fun p r e => (by cases e; simp [fore]), fun b _ hC => hC.1⟩
 | cons p r =>
  cases C with
  | nil => exact ⟨fun _ _ e => (by cases e; simp [fore]), fun p r e => (by cases e), fun b hA _ => hA.1⟩
  | cons q s =>
   by_cases hpq : p.1 < q.1
   ·have e : fore (p :: r) (q :: s) = p.1 := by simp [fore, hpq]
    rw [e]
    exact ⟨fun _ _ e => (by cases e; omega), fun _ _ e => (by cases e; omega), fun b hA _ => hA.1⟩
   ·have e : fore (p :: r) (q :: s) = q.1 := by simp [fore, hpq]
    rw [e]
    exact ⟨fun _ _ e => (by cases e; omega), fun _ _ e => (by cases e; omega), fun b _ hC => hC.1⟩

theorem fold_main (h : Int → Int → Int → Int) (h2 : ∀ k, h k 2 2 = 2) : ∀ (N : Nat) {A C : List (Int × Int)} {b : Int}, A.length + C.length ≤ N → Rc b A → Rc b C →
  Rc b (foldH h (both A C)) ∧ (∀ p ∈ foldH h (both A C), p.2 ≠ 2) ∧ ∀ k, get (foldH h (both A C)) k = h k (get A k) (get C k) := by
 intro N
 induction N with
 | zero =>
  intro A C b hN _ _
  have hA : A = [] := List.eq_nil_of_length_eq_zero (by omega)
  have hC : C = [] := List.eq_nil_of_length_eq_zero (by omega)
  subst hA hC
  exact ⟨trivial, fun p hp => (by cases hp), fun k => (h2 k).symm⟩
 | succ N ih =>
  intro A C b hN hA hC
  by_cases h0 : A.length + C.length = 0
  ·exact ih (by omega) hA hC
  ·obtain ⟨f1, f2, f3⟩ := fore_facts (A := A) (C := C) (by omega)
   have hbc := f3 b hA hC
   obtain ⟨a1, a2, a3⟩ := take_facts (c := fore A C) hA f1
   obtain ⟨c1, c2, c3⟩ := take_facts (c := fore A C) hC f2
   have hl := take_less (A := A) (C := C) (by omega)
   obtain ⟨i1, i2, i3⟩ := ih (A := takeR A (fore A C)) (C := takeR C (fore A C)) (b := fore A C) (by omega) a1 c1
   rw [both_cons (by omega), foldH_cons]
   dsimp only
   rw [a2, c2]
   by_cases hv : h (fore A C) (get A (fore A C)) (get C (fore A C)) = 2
   ·rw [snoc_two hv, List.nil_append]
    refine ⟨i1.low (by omega), i2, fun k => ?_⟩
    by_cases hk : k = fore A C
    ·rw [hk, hv]; exact get_low i1 (by omega)
    ·rw [i3, a3 k hk, c3 k hk]
   ·rw [snoc_new hv]
    simp only [List.nil_append, List.cons_append]
    refine ⟨⟨hbc, i1⟩, fun p hp => ?_, fun k => ?_⟩
    ·rcases List.mem_cons.1 hp with rfl | hp
     ·exact hv
     ·exact i2 p hp
    ·simp only [get]
     by_cases hk : fore A C = k
     ·rw [if_pos hk, ← hk]
     ·rw [if_neg hk, i3, a3 k (Ne.symm hk), c3 k (Ne.symm hk)]
theorem Rc.both_low {A C : List (Int × Int)} {b b' : Int} (h : Rc b A) (k : Rc b' C) : Rc (min b b') A ∧ Rc (min b b') C := ⟨h.low (by omega), k.low (by omega)⟩
theorem fold_get {h : Int → Int → Int → Int} (h2 : ∀ k, h k 2 2 = 2) {A C : List (Int × Int)} {b b' : Int} (hA : Rc b A) (hC : Rc b' C) (k : Int) : get (foldH h (both A C)) k = h k (get A k) (get C k) :=
 (fold_main h h2 _ (Nat.le_refl _) (hA.both_low hC).1 (hA.both_low hC).2).2.2 k
theorem fold_fit {h : Int → Int → Int → Int} (h2 : ∀ k, h k 2 2 = 2) {A C : List (Int × Int)} {b b' : Int} (hA : Rc b A) (hC : Rc b' C) (hr : ∀ k, 0 ≤ h k (get A k) (get C k) ∧ h k (get A k) (get C k) ≤ 5) : Fit (foldH h (both A C)) := by
 obtain ⟨r, n2, g⟩ := fold_main h h2 _ (Nat.le_refl _) (hA.both_low hC).1 (hA.both_low hC).2
 refine ⟨⟨_, r⟩, fun p hp => ?_⟩
 have e := get_mem r hp
 rw [g] at e
 have := hr p.1
 rw [e] at this
 exact ⟨this.1, this.2, n2 p hp⟩

theorem leq_main : ∀ (N : Nat) {A C : List (Int × Int)} {b : Int}, A.length + C.length ≤ N → Rc b A → Rc b C → (leqB A C = true ↔ ∀ k, Lv.leq (get A k) (get C k) = true) := by
 intro N
 induction N with
 | zero =>
  intro A C b hN _ _
  have hA : A = [] := List.eq_nil_of_length_eq_zero (by omega)
  have hC : C = [] := List.eq_nil_of_length_eq_zero (by omega)
  subst hA hC
  exact ⟨fun _ k => by show Lv.leq 2 2 = true; decide, fun _ => rfl⟩
 | succ N ih =>
  intro A C b hN hA hC
  by_cases h0 : A.length + C.length = 0
  ·exact ih (by omega) hA hC
  ·obtain ⟨f1, f2, f3⟩ := fore_facts (A := A) (C := C) (by omega)
   obtain ⟨a1, a2, a3⟩ := take_facts (c := fore A C) hA f1
   obtain ⟨c1, c2, c3⟩ := take_facts (c := fore A C) hC f2
   have hl := take_less (A := A) (C := C) (by omega)
   have i := ih (A := takeR A (fore A C)) (C := takeR C (fore A C)) (b := fore A C) (by omega) a1 c1
   unfold leqB at i ⊢
   rw [both_cons (by omega), List.all_cons, Bool.and_eq_true, i]
   dsimp only
   rw [a2, c2]
   refine ⟨fun ⟨h1, h2⟩ k => ?_, fun h => ⟨h _, fun k => ?_⟩⟩
   ·by_cases hk : k = fore A C
    ·rw [hk]; exact h1
    ·have := h2 k; rwa [a3 k hk, c3 k hk] at this
   ·by_cases hk : k = fore A C
    ·rw [hk, get_low a1 (by omega), get_low c1 (by omega)]; decide
    ·rw [a3 k hk, c3 k hk]; exact h k
theorem leqB_iff {A C : List (Int × Int)} (hA : Fit A) (hC : Fit C) : leqB A C = true ↔ ∀ k, get A k ≤ get C k := by
 obtain ⟨⟨b, r⟩, l⟩ := hA
 obtain ⟨⟨b', r'⟩, l'⟩ := hC
 rw [leq_main _ (Nat.le_refl _) (r.both_low r').1 (r.both_low r').2]
 have key : ∀ k, Lv.leq (get A k) (get C k) = true ↔ get A k ≤ get C k := by
  intro k
  have h1 := get_range l k
  have h2 := get_range l' k
  rw [Lv.leq_iff, Lv.lv_of h1.1 h1.2, Lv.lv_of h2.1 h2.2]
 exact ⟨fun h k => (key k).1 (h k), fun h k => (key k).2 (h k)⟩

def joinL (A C : List (Int × Int)) : List (Int × Int) := foldP Lv.join (both A C)
def raiseL (A : List (Int × Int)) : List (Int × Int) := foldP (fun x _ => Lv.raise x) (both A [])
theorem Fit.rc {A : List (Int × Int)} (h : Fit A) : ∃ b, Rc b A := h.1
theorem Fit.nil : Fit [] := ⟨⟨0, trivial⟩, fun p hp => (by cases hp)⟩
theorem Fit.range {A : List (Int × Int)} (h : Fit A) (k : Int) : 0 ≤ get A k ∧ get A k ≤ 5 := get_range h.2 k
theorem joinL_fit {A C : List (Int × Int)} (hA : Fit A) (hC : Fit C) : Fit (joinL A C) := by
 obtain ⟨b, r⟩ := hA.rc
 obtain ⟨b', r'⟩ := hC.rc
 exact fold_fit (h := fun _ x y => Lv.join x y) (fun _ => by decide) r r' (fun k => ⟨Lv.join_lo _ _, Lv.join_hi _ _⟩)
theorem raiseL_get {A : List (Int × Int)} (hA : Fit A) (k : Int) : get (raiseL A) k = if get A k = 0 then 5 else get A k := by
 obtain ⟨b, r⟩ := hA.rc
 have h := fold_get (h := fun _ x _ => Lv.raise x) (fun _ => by decide) r (C := []) (b' := 0) trivial k
 have h1 := hA.range k
 unfold Lv.raise at h
 rw [Lv.lv_of h1.1 h1.2] at h
 exact h
theorem raiseL_fit {A : List (Int × Int)} (hA : Fit A) : Fit (raiseL A) := by
 obtain ⟨b, r⟩ := hA.rc
 exact fold_fit (h := fun _ x _ => Lv.raise x) (fun _ => by decide) r (C := []) (b' := 0) trivial (fun k => ⟨Lv.raise_lo _, Lv.raise_hi _⟩)
end Go.Proofs.Ytcmcakandbpjfaa
namespace Go.Proofs.Ytcmcakandbpjfaa
set_option maxRecDepth 100000
set_option maxHeartbeats 8000000
open Go.ChangeShapes Go.WideShapes Go.ChangeAt Go.RowKit

theorem laidOut : laidOutB Try.prog = true := by kernel_rfl
def numV : Value → Int
 | .int _ n => n
 | _ => 0
theorem lab_of_trod {H : Type} {enc : TypeId × Value → H} {w : World} {ao : Option Addr} {n cap : Nat} {d : DataW H} {ps : List MemPlace}
  (h : DataW.Trod enc Try.prog w 0 (fun _ => true) true 39 (.slice ao n cap) d ps) : ∃ L, Lab w.heap.size w ao n cap L := by
 obtain ⟨fuel, hf⟩ := h
 rcases Go.Deep.open_slice_pairs Try.underlying39 Try.underlying103 (by kernel_rfl) rfl rfl (by kernel_rfl) (by kernel_rfl) hf with ⟨e, _⟩ | ⟨a, len, cap', m, n', V0, V1, D0, D1, P0, P1, e, hb, hl, hm, hmm, _, hx⟩
 ·simp [Value.cells] at e
  obtain ⟨rfl, rfl, rfl⟩ := e
  exact ⟨[], Lab.nil _ _⟩
 ·simp [Value.cells] at e
  obtain ⟨rfl, rfl, rfl⟩ := e
  have hmc : m = cap := by rw [hmm]; rfl
  have key : ∀ i, i < n → w.cell? (a.add (i * 2)) = some (.int .u64 (numV (V0 i))) ∧ w.cell? (a.add (i * 2 + 1)) = some (.int .i64 (numV (V1 i))) := by
   intro i hi
   obtain ⟨c0, c1, t0, t1⟩ := hx i (by omega)
   obtain ⟨x, hx0, _, _⟩ := DataW.trod_int Try.underlying22 t0
   obtain ⟨y, hy0, _, _⟩ := DataW.trod_int Try.underlying3 t1
   simp at hx0 hy0
   rw [hx0] at c0
   rw [hy0] at c1
   rw [hx0, hy0]
   exact ⟨c0, c1⟩
  refine ⟨(List.range n).map fun i => (numV (V0 i), numV (V1 i)), by simp, hl, ⟨by unfold maxLen at hm; omega, fun hz => by cases hz⟩, fun hn => ?_⟩
  have hs : a.spot = none := by
   have h0 := (key 0 hn).1
   have ha : a.add (0 * 2) = a := by simp [Addr.add]
   rw [ha] at h0
   unfold World.cell? at h0
   cases hsp : a.spot with
   | none => rfl
   | some s => split at h0 <;> simp [hsp] at h0
  have hea : a = ⟨a.block, a.off, none⟩ := by cases a; simp at hs; simp [hs]
  have hadd : ∀ j, a.add j = ⟨a.block, a.off + j, none⟩ := by
   intro j
   unfold Addr.add
   split
   ·rename_i hj; subst hj; rw [Nat.add_zero]; exact hea
   ·rfl
  refine ⟨a.block, a.off, by rw [← hea], ?_, fun i hi => ?_⟩
  ·have h0 := (key 0 hn).1
   have := World.block_lt_of_cell? w _ h0
   rwa [hadd] at this
  ·have hk := key i hi
   rw [hadd, hadd] at hk
   have hg : ((List.range n).map fun i => (numV (V0 i), numV (V1 i))).getD i (0, 0) = (numV (V0 i), numV (V1 i)) := by
    rw [List.getD_eq_getElem?_getD, List.getElem?_eq_getElem (by simpa using hi)]; simp
   rw [hg]
   exact ⟨hk.1, by rw [Nat.add_assoc]; exact hk.2⟩
end Go.Proofs.Ytcmcakandbpjfaa
namespace Go.Proofs.Ytcmcakandbpjfaa
set_option maxRecDepth 100000
set_option maxHeartbeats 8000000
open Go.ChangeShapes Go.WideShapes Go.ChangeAt Go.RowKit
set_option linter.unusedVariables false

def Labs (w : World) (ls : List (Option Addr × Nat × Nat × List (Int × Int))) : Prop := ∀ x ∈ ls, Lab w.heap.size w x.1 x.2.1 x.2.2.1 x.2.2.2
theorem Labs.nil (w : World) : Labs w [] := fun x hx => by cases hx
theorem Labs.push {w : World} {ls : List (Option Addr × Nat × Nat × List (Int × Int))} (h : Labs w ls) {ao : Option Addr} {n cap : Nat} {L : List (Int × Int)} (l : Lab w.heap.size w ao n cap L) : Labs w ((ao, n, cap, L) :: ls) := fun x hx => by
 rcases List.mem_cons.1 hx with rfl | hx
 ·exact l
 ·exact h x hx
theorem Labs.next {w w' : World} {ls : List (Option Addr × Nat × Nat × List (Int × Int))} (h : Labs w ls) (k : Below w.heap.size w w') : Labs w' ls := fun x hx => (h x hx).next k
theorem Labs.get {w : World} {ls : List (Option Addr × Nat × Nat × List (Int × Int))} (h : Labs w ls) {ao : Option Addr} {n cap : Nat} {L : List (Int × Int)} (hm : (ao, n, cap, L) ∈ ls) : Lab w.heap.size w ao n cap L := h _ hm

end Go.Proofs.Ytcmcakandbpjfaa
namespace Go.Proofs.Ytcmcakandbpjfaa
set_option maxRecDepth 100000
set_option maxHeartbeats 8000000

def Ri : Int → List Int → Prop
 | _, [] => True
 | b, x :: r => b < x ∧ Ri x r
theorem Ri.low {b b' : Int} {C : List Int} (h : Ri b C) (k : b' ≤ b) : Ri b' C := by
 cases C with
 | nil => trivial
 | cons x r => exact ⟨by have := h.1; omega, h.2⟩
end Go.Proofs.Ytcmcakandbpjfaa
namespace Go.Proofs.Ytcmcakandbpjfaa
set_option maxRecDepth 100000
set_option maxHeartbeats 8000000
open Go.ChangeShapes Go.WideShapes Go.ChangeAt Go.RowKit
set_option linter.unusedVariables false

def rj1 (op : Int → Int → Int) (A C : List (Int × Int)) (k : Nat) : List (Int × Int) := (A.take k).foldl (fun O p => rwithL O p.1 (op p.2 (get C p.1))) A
def rj2 (op : Int → Int → Int) (A C : List (Int × Int)) (k : Nat) : List (Int × Int) := (C.take k).foldl (fun O q => rwithL O q.1 (op (get A q.1) q.2)) (rj1 op A C A.length)
def rfoldL (op : Int → Int → Int) (A C : List (Int × Int)) : List (Int × Int) := rj2 op A C C.length
theorem rj1_succ {op : Int → Int → Int} {A C : List (Int × Int)} {k : Nat} {x y : Int} (h : k < A.length) (e : A.getD k (0, 0) = (x, y)) : rj1 op A C (k + 1) = rwithL (rj1 op A C k) x (op y (get C x)) := by
 have e' : A[k] = (x, y) := by simpa [List.getD_eq_getElem?_getD, List.getElem?_eq_getElem h] using e
 unfold rj1
 rw [List.take_succ_eq_append_getElem h, e', List.foldl_append]
 rfl
theorem rj2_succ {op : Int → Int → Int} {A C : List (Int × Int)} {k : Nat} {x y : Int} (h : k < C.length) (e : C.getD k (0, 0) = (x, y)) : rj2 op A C (k + 1) = rwithL (rj2 op A C k) x (op (get A x) y) := by
 have e' : C[k] = (x, y) := by simpa [List.getD_eq_getElem?_getD, List.getElem?_eq_getElem h] using e
 unfold rj2
 rw [List.take_succ_eq_append_getElem h, e', List.foldl_append]
 rfl
def rmapL (op : Int → Int) (A : List (Int × Int)) : List (Int × Int) := A.map fun p => (p.1, op p.2)
theorem rmap_succ {op : Int → Int} {A : List (Int × Int)} {k : Nat} {x y : Int} (h : k < A.length) (e : A.getD k (0, 0) = (x, y)) : rmapL op (A.take (k + 1)) = rmapL op (A.take k) ++ [(x, op y)] := by
 have e' : A[k] = (x, y) := by simpa [List.getD_eq_getElem?_getD, List.getElem?_eq_getElem h] using e
 unfold rmapL
 rw [List.take_succ_eq_append_getElem h, e', List.map_append]
 rfl

theorem rljoin_any {w : World} {ao ao' : Option Addr} {n n' cap cap' : Nat} {L L' : List (Int × Int)} (hL : Lab w.heap.size w ao n cap L) (hL' : Lab w.heap.size w ao' n' cap' L') (hk : n < 68719476736) (hk' : n' < 68719476736) :
  Calls Try.prog 75 #[.slice ao n cap, .slice ao' n' cap'] w fun e w' => ∃ ao1 n1 cap1, e = .returned (.slice ao1 n1 cap1) ∧ Lab w'.heap.size w' ao1 n1 cap1 (rfoldL Lv.join L L') ∧ n1 ≤ 2 * n + n' ∧ Below w.heap.size w w' := by
 have hn := hL.1
 have hcm := hL.2.2.1.1
 have hnc := hL.2.1
 have hn' := hL'.1
 have hcm' := hL'.2.2.1.1
 have hnc' := hL'.2.1
 go_enter Try.func75, Try.ntmps75
 go_wp2
 go_loopw [5, 6] (fun v i wr => ∃ (k : Nat) (ao1 : Option Addr) (n1 cap1 : Nat), k ≤ n ∧ i = .int .i64 k ∧ v = .slice ao1 n1 cap1 ∧ n1 ≤ n + k ∧ Lab wr.heap.size wr ao1 n1 cap1 (rj1 Lv.join L L' k) ∧ Below w.heap.size w wr) (fun _ i _ => n - (intOf i).toNat)
 case atStart => exact ⟨0, _, _, _, Nat.zero_le _, rfl, rfl, Nat.le_refl _, hL, Below.refl _ _⟩
 case round =>
  obtain ⟨k, ao1, n1, cap1, hkn, rfl, rfl, hn1, hO, hb⟩ := hrel
  have hbs := hb.size
  by_cases hlt : k < n
  ·obtain ⟨b, off, x, y, hao, hbB, d0, d1, hxy⟩ := hL.at hb hlt
   subst hao
   have hlt' : (k : Int) < n := by omega
   have hL1 := hL'.later hb.drew
   have hO1 := hO.later (Below.refl wr.heap.size wr).drew
   have hs : Hid (rj1 Lv.join L L' (k + 1) = rwithL (rj1 Lv.join L L' k) x (Lv.join y (get L' x))) := rj1_succ (by omega) hxy.out
   clear hL hL' hO
   go_wp2
   go_region_held3 (fun w' => w'.cell? ⟨b, off + k * 2, none⟩ = some (.int .u64 x) ∧ w'.cell? ⟨b, off + k * 2 + 1, none⟩ = some (.int .i64 y)) (go_keep) (first | (go_at_call 87; refine (rget_any _ hL1).mono ?_; rintro e w' ⟨rfl, rfl⟩) | (go_at_call 89; refine (rjoin_any _ _ _).mono ?_; rintro e w' ⟨rfl, rfl⟩) | (go_at_call 88; refine (rwith_any _ _ hO1 (Nat.le_refl _) (by omega)).mono ?_; rintro e w1 ⟨ao2, n2, cap2, rfl, ho2, hb2⟩; have e0 := cell_later hb2 d0; have e1 := cell_later hb2 d1))
   go_wp2
   go_roundw
   case rel => exact ⟨k + 1, ao2, n2, cap2, by omega, by go_num, rfl, by have h1 := ho2.1; have h2 := rwithL_len (rj1 Lv.join L L' k) x (Lv.join y (get L' x)); have h3 := hO1.1; omega, by rw [hs.out]; exact ho2.lab, hb.drew.trans (hb2.mono hbs)⟩
   case measure => simp [intOf]; omega
  ·have hkn2 : k = n := by omega
   subst hkn2
   have hO' : Lab wr.heap.size wr ao1 n1 cap1 (rj2 Lv.join L L' 0) := by
    have h : rj2 Lv.join L L' 0 = rj1 Lv.join L L' k := by unfold rj2; rw [hn]; rfl
    rw [h]; exact hO
   clear hO
   go_wp2
   go_loopw [5, 7] (fun v i wr => ∃ (j : Nat) (ao1 : Option Addr) (n1 cap1 : Nat), j ≤ n' ∧ i = .int .i64 j ∧ v = .slice ao1 n1 cap1 ∧ n1 ≤ 2 * k + j ∧ Lab wr.heap.size wr ao1 n1 cap1 (rj2 Lv.join L L' j) ∧ Below w.heap.size w wr) (fun _ i _ => n' - (intOf i).toNat)
   case atStart => exact ⟨0, _, _, _, Nat.zero_le _, rfl, rfl, by omega, hO', hb⟩
   case round =>
    clear hO' hb hbs hn1
    obtain ⟨j, ao1, n1, cap1, hjn, rfl, rfl, hn1, hO, hb⟩ := hrel
    have hbs := hb.size
    by_cases hlt : j < n'
    ·obtain ⟨b, off, x, y, hao, hbB, d0, d1, hxy⟩ := hL'.at hb hlt
     subst hao
     have hlt' : (j : Int) < n' := by omega
     have hL1 := hL.later hb.drew
     have hO1 := hO.later (Below.refl wr.heap.size wr).drew
     have hs : Hid (rj2 Lv.join L L' (j + 1) = rwithL (rj2 Lv.join L L' j) x (Lv.join (get L x) y)) := rj2_succ (by omega) hxy.out
     clear hL hL' hO
     go_wp2
     go_region_held3 (fun w' => w'.cell? ⟨b, off + j * 2, none⟩ = some (.int .u64 x) ∧ w'.cell? ⟨b, off + j * 2 + 1, none⟩ = some (.int .i64 y)) (go_keep) (first | (go_at_call 87; refine (rget_any _ hL1).mono ?_; rintro e w' ⟨rfl, rfl⟩) | (go_at_call 89; refine (rjoin_any _ _ _).mono ?_; rintro e w' ⟨rfl, rfl⟩) | (go_at_call 88; refine (rwith_any _ _ hO1 (Nat.le_refl _) (by omega)).mono ?_; rintro e w1 ⟨ao2, n2, cap2, rfl, ho2, hb2⟩; have e0 := cell_later hb2 d0; have e1 := cell_later hb2 d1))
     go_wp2
     go_roundw
     case rel => exact ⟨j + 1, ao2, n2, cap2, by omega, by go_num, rfl, by have h1 := ho2.1; have h2 := rwithL_len (rj2 Lv.join L L' j) x (Lv.join (get L x) y); have h3 := hO1.1; omega, by rw [hs.out]; exact ho2.lab, hb.drew.trans (hb2.mono hbs)⟩
     case measure => simp [intOf]; omega
    ·have hj : j = n' := by omega
     subst hj
     have hr : Hid (rfoldL Lv.join L L' = rj2 Lv.join L L' j) := by show rj2 Lv.join L L' L'.length = _; rw [hn']
     clear hL hL'
     go_wp2
     go_ret
     exact ⟨_, _, _, rfl, by rw [hr.out]; exact hO, by omega, hb⟩
theorem rlraise_any {w : World} {ao : Option Addr} {n cap : Nat} {L : List (Int × Int)} (hL : Lab w.heap.size w ao n cap L) (hk : n < 68719476736) :
  Calls Try.prog 76 #[.slice ao n cap] w fun e w' => ∃ ao1 n1 cap1, e = .returned (.slice ao1 n1 cap1) ∧ Lab w'.heap.size w' ao1 n1 cap1 (rmapL Lv.raise L) ∧ n1 ≤ n ∧ Below w.heap.size w w' := by
 obtain ⟨i0, hi, hz0, hz1, hz2⟩ := info_parts infoPair
 have hn := hL.1
 have hcm := hL.2.2.1.1
 have hnc := hL.2.1
 go_enter Try.func76, Try.ntmps76
 go_wp2
 go_loopw [3, 4] (fun v i wr => ∃ (k : Nat) (ao1 : Option Addr) (cap1 : Nat), k ≤ n ∧ i = .int .i64 k ∧ v = .slice ao1 k cap1 ∧ OwnL w.heap.size wr ao1 k cap1 (rmapL Lv.raise (L.take k)) ∧ Below w.heap.size w wr) (fun _ i _ => n - (intOf i).toNat)
 case atStart => exact ⟨0, _, _, Nat.zero_le _, rfl, rfl, OwnL.nil _ _, Below.refl _ _⟩
 case round =>
  obtain ⟨k, ao1, cap1, hkn, rfl, rfl, hO, hb⟩ := hrel
  have hbs := hb.size
  by_cases hlt : k < n
  ·obtain ⟨b, off, x, y, hao, hbB, d0, d1, hxy⟩ := hL.at hb hlt
   subst hao
   have hbw : b < wr.heap.size := by omega
   have hlt' : (k : Int) < n := by omega
   obtain ⟨hOl, hrow⟩ := hO
   have hs : Hid (rmapL Lv.raise (L.take (k + 1)) = rmapL Lv.raise (L.take k) ++ [(x, Lv.raise y)]) := rmap_succ (by omega) hxy.out
   have HOl : Hid ((rmapL Lv.raise (L.take k)).length = k) := hOl
   clear hL hOl
   go_wp2
   go_region_held3 (fun w' => w'.cell? ⟨b, off + k * 2, none⟩ = some (.int .u64 x) ∧ w'.cell? ⟨b, off + k * 2 + 1, none⟩ = some (.int .i64 y)) (go_keep) (first | (go_at_call 90; refine (rraise_any _ _).mono ?_; rintro e w' ⟨rfl, rfl⟩) | (refine step_append_lies _ rfl _ _ 39 rfl w.heap.size 103 i0 (.agg #[.int .u64 0, .int .i64 0]) 2 16 Try.underlying39 hi hz0 hz1 hz2 rfl (by decide) _ _ _ rfl (hrow.drew.alloc _) ⟨wr.heap.size, 0, none⟩ 1 1 [.int .u64 x, .int .i64 (Lv.raise y)] rfl rfl (cell_two_new wr.drew _ _ _) (by simp [Value.oneCell']) (by omega) (by unfold maxLen; omega) (by omega) (by simp; omega) _ rfl ?_; intro g1 cp1 w1 hown1 hgrow1 hat hlt1; have hb1 := app_below hb.drew hrow.drew hgrow1 hbs; have e0 := (hb1.cell (p := ⟨b, off + k * 2, none⟩) hbB).trans ((hb.cell (p := ⟨b, off + k * 2, none⟩) hbB).symm.trans d0); have e1 := (hb1.cell (p := ⟨b, off + k * 2 + 1, none⟩) hbB).trans ((hb.cell (p := ⟨b, off + k * 2 + 1, none⟩) hbB).symm.trans d1)))
   go_wp2
   go_roundw
   case rel => exact ⟨k + 1, some ⟨g1, 0, none⟩, cp1, by omega, by go_num, rfl, ⟨by rw [hs.out]; simp [HOl.out], by rw [hs.out, cellsOf_append]; exact hown1⟩, hb1⟩
   case measure => simp [intOf]; omega
  ·have hkn2 : k = n := by omega
   subst hkn2
   have hr : Hid (rmapL Lv.raise (L.take k) = rmapL Lv.raise L) := by show rmapL Lv.raise (L.take k) = _; rw [List.take_of_length_le (by omega)]
   clear hL
   go_wp2
   go_ret
   exact ⟨_, _, _, rfl, by rw [← hr.out]; exact hO.lab, Nat.le_refl _, hb⟩
end Go.Proofs.Ytcmcakandbpjfaa
namespace Go.Proofs.Ytcmcakandbpjfaa
set_option maxRecDepth 100000
set_option maxHeartbeats 8000000

theorem wl_main (c l : Int) : ∀ (L : List (Int × Int)) (b : Int) (d : Bool), Rc b L → (d = true ∨ b < c) → Rc b (wl c l d L) ∧ (∀ k, get (wl c l d L) k = if k = c then (if d = true then 2 else l) else get L k) ∧ ∀ q ∈ wl c l d L, q ∈ L ∨ d = false ∧ q = (c, l) := by
 intro L
 induction L with
 | nil =>
  intro b d _ hd
  cases d with
  | true => exact ⟨trivial, fun k => (by simp [wl, get]), fun q hq => (by simp [wl] at hq)⟩
  | false =>
   refine ⟨?_, fun k => ?_, fun q hq => .inr ⟨rfl, by simpa [wl] using hq⟩⟩
   ·rcases hd with h | h
    ·cases h
    ·exact ⟨h, trivial⟩
   ·by_cases hk : k = c
    ·subst hk; simp [wl, get]
    ·simp [wl, get, hk]; intro h; exact absurd h.symm hk
 | cons p r ih =>
  intro b d hR hd
  have hbp := hR.1
  cases d with
  | true =>
   obtain ⟨i1, i2, i3⟩ := ih p.1 true hR.2 (.inl rfl)
   by_cases hpc : p.1 = c
   ·have e : wl c l true (p :: r) = wl c l true r := by simp [wl, hpc]
    rw [e]
    refine ⟨i1.low (by omega), fun k => ?_, fun q hq => ?_⟩
    ·rw [i2]
     by_cases hk : k = c
     ·simp [hk]
     ·simp only [get]; rw [if_neg hk, if_neg hk, if_neg (by omega)]
    ·rcases i3 q hq with h | h
     ·exact .inl (by simp [h])
     ·exact .inr h
   ·have e : wl c l true (p :: r) = p :: wl c l true r := by simp [wl, hpc]
    rw [e]
    refine ⟨⟨hbp, i1⟩, fun k => ?_, fun q hq => ?_⟩
    ·simp only [get]
     rw [i2]
     by_cases hk : k = c
     ·rw [if_neg (by omega)]; simp [hk]
     ·rw [if_neg hk, if_neg hk]
    ·rcases List.mem_cons.1 hq with rfl | hq
     ·exact .inl (by simp)
     ·rcases i3 q hq with h | h
      ·exact .inl (by simp [h])
      ·exact .inr h
  | false =>
   have hbc : b < c := by rcases hd with h | h; cases h; exact h
   by_cases hcp : c < p.1
   ·obtain ⟨i1, i2, i3⟩ := ih p.1 true hR.2 (.inl rfl)
    have hpc : ¬ p.1 = c := by omega
    have e : wl c l false (p :: r) = (c, l) :: p :: wl c l true r := by simp [wl, hpc, hcp]
    rw [e]
    refine ⟨⟨hbc, hcp, i1⟩, fun k => ?_, fun q hq => ?_⟩
    ·simp only [get]
     rw [i2]
     by_cases hk : k = c
     ·rw [if_pos hk.symm, if_pos hk]; rfl
     ·rw [if_neg (fun h => hk h.symm), if_neg hk, if_neg hk]
    ·rcases List.mem_cons.1 hq with rfl | hq
     ·exact .inr ⟨rfl, rfl⟩
     ·rcases List.mem_cons.1 hq with rfl | hq
      ·exact .inl (by simp)
      ·rcases i3 q hq with h | h
       ·exact .inl (by simp [h])
       ·exact absurd h.1 (by simp)
   ·by_cases hpc : p.1 = c
    ·obtain ⟨i1, i2, i3⟩ := ih (c - 1) false (hR.2.low (by omega)) (.inr (by omega))
     have e : wl c l false (p :: r) = wl c l false r := by simp [wl, hpc]
     rw [e]
     refine ⟨i1.low (by omega), fun k => ?_, fun q hq => ?_⟩
     ·rw [i2]
      by_cases hk : k = c
      ·simp [hk]
      ·simp only [get]; rw [if_neg hk, if_neg hk, if_neg (by omega)]
     ·rcases i3 q hq with h | h
      ·exact .inl (by simp [h])
      ·exact .inr h
    ·obtain ⟨i1, i2, i3⟩ := ih p.1 false hR.2 (.inr (by omega))
     have e : wl c l false (p :: r) = p :: wl c l false r := by simp [wl, hpc, hcp]
     rw [e]
     refine ⟨⟨hbp, i1⟩, fun k => ?_, fun q hq => ?_⟩
     ·simp only [get]
      rw [i2]
      by_cases hk : k = c
      ·rw [if_neg (by omega), if_pos hk, if_pos hk]
      ·rw [if_neg hk, if_neg hk]
     ·rcases List.mem_cons.1 hq with rfl | hq
      ·exact .inl (by simp)
      ·rcases i3 q hq with h | h
       ·exact .inl (by simp [h])
       ·exact .inr h
theorem rwith_facts {L : List (Int × Int)} (hL : Fit L) {c l : Int} (hl : 0 ≤ l ∧ l ≤ 5) : Fit (rwithL L c l) ∧ ∀ k, get (rwithL L c l) k = if k = c then l else get L k := by
 obtain ⟨⟨b, r⟩, lv⟩ := hL
 obtain ⟨h1, h2, h3⟩ := wl_main c l L (min b (c - 1)) (l == 2) (r.low (by omega)) (.inr (by omega))
 unfold rwithL
 refine ⟨⟨⟨_, h1⟩, fun q hq => ?_⟩, fun k => ?_⟩
 ·rcases h3 q hq with h | ⟨h, rfl⟩
  ·exact lv q h
  ·exact ⟨hl.1, hl.2, by simpa using h⟩
 ·rw [h2]
  by_cases h : l = 2
  ·subst h; simp
  ·have : (l == 2) = false := by simpa using h
   rw [this]; simp
theorem mem_of_get {L : List (Int × Int)} {k : Int} (h : get L k ≠ 2) : ∃ p ∈ L, p.1 = k ∧ p.2 = get L k := by
 induction L with
 | nil => simp [get] at h
 | cons p r ih =>
  simp only [get] at h ⊢
  by_cases hp : p.1 = k
  ·rw [if_pos hp]; exact ⟨p, by simp, hp, rfl⟩
  ·rw [if_neg hp] at h ⊢
   obtain ⟨q, h1, h2, h3⟩ := ih h
   exact ⟨q, by simp [h1], h2, h3⟩
theorem rleq_eq {A C : List (Int × Int)} (hA : Fit A) (hC : Fit C) : rleqB A C = leqB A C := by
 obtain ⟨b, rA⟩ := hA.rc
 obtain ⟨b', rC⟩ := hC.rc
 have key : ∀ k, Lv.leq (get A k) (get C k) = true ↔ get A k ≤ get C k := by
  intro k
  have h1 := hA.range k
  have h2 := hC.range k
  rw [Lv.leq_iff, Lv.lv_of h1.1 h1.2, Lv.lv_of h2.1 h2.2]
 rw [Bool.eq_iff_iff, leqB_iff hA hC]
 unfold rleqB
 rw [Bool.and_eq_true, List.all_eq_true, List.all_eq_true]
 constructor
 ·rintro ⟨h1, h2⟩ k
  by_cases hk : get A k = 2
  ·by_cases hk' : get C k = 2
   ·omega
   ·obtain ⟨q, hq, rfl, e⟩ := mem_of_get hk'
    have := h2 q hq
    rw [e] at this
    exact (key _).1 this
  ·obtain ⟨p, hp, rfl, e⟩ := mem_of_get hk
   have := h1 p hp
   rw [e] at this
   exact (key _).1 this
 ·intro h
  refine ⟨fun p hp => ?_, fun q hq => ?_⟩
  ·have e := get_mem rA hp
   have := (key p.1).2 (h p.1)
   rwa [e] at this
  ·have e := get_mem rC hq
   have := (key q.1).2 (h q.1)
   rwa [e] at this
theorem set_all (J : Int → Int) (hJ : ∀ k, 0 ≤ J k ∧ J k ≤ 5) (f : Int × Int → Int) : ∀ (ps O : List (Int × Int)), (∀ p ∈ ps, f p = J p.1) → Fit O →
  Fit (ps.foldl (fun O p => rwithL O p.1 (f p)) O) ∧ ∀ k, get (ps.foldl (fun O p => rwithL O p.1 (f p)) O) k = if k ∈ ps.map Prod.fst then J k else get O k := by
 intro ps
 induction ps with
 | nil => intro O _ hO; exact ⟨hO, fun k => by simp⟩
 | cons p r ih =>
  intro O hf hO
  have hp := hf p (by simp)
  obtain ⟨h1, h2⟩ := rwith_facts hO (c := p.1) (l := f p) (by rw [hp]; exact hJ p.1)
  obtain ⟨i1, i2⟩ := ih (rwithL O p.1 (f p)) (fun q hq => hf q (by simp [hq])) h1
  refine ⟨i1, fun k => ?_⟩
  simp only [List.foldl_cons]
  rw [i2, h2, hp]
  rw [List.map_cons]
  by_cases hm : k ∈ r.map Prod.fst
  ·rw [if_pos hm, if_pos (List.mem_cons_of_mem _ hm)]
  ·rw [if_neg hm]
   by_cases hk : k = p.1
   ·subst hk; rw [if_pos rfl, if_pos (List.mem_cons_self)]
   ·rw [if_neg hk, if_neg (fun h => (List.mem_cons.1 h).elim hk hm)]
theorem get_two {L : List (Int × Int)} {k : Int} (h : k ∉ L.map Prod.fst) : get L k = 2 := by
 by_cases hk : get L k = 2
 ·exact hk
 ·obtain ⟨p, hp, e, _⟩ := mem_of_get hk
  exact absurd (List.mem_map.2 ⟨p, hp, e⟩) h
theorem rfold_eq {op : Int → Int → Int} (h2 : op 2 2 = 2) (hop : ∀ x y, 0 ≤ op x y ∧ op x y ≤ 5) {A C : List (Int × Int)} (hA : Fit A) (hC : Fit C) : rfoldL op A C = foldP op (both A C) := by
 obtain ⟨b, rA⟩ := hA.rc
 obtain ⟨b', rC⟩ := hC.rc
 have hJ : ∀ k, 0 ≤ op (get A k) (get C k) ∧ op (get A k) (get C k) ≤ 5 := fun k => hop _ _
 obtain ⟨f1, g1⟩ := set_all (fun k => op (get A k) (get C k)) hJ (fun p => op p.2 (get C p.1)) A A (fun p hp => by rw [get_mem rA hp]) hA
 obtain ⟨f2, g2⟩ := set_all (fun k => op (get A k) (get C k)) hJ (fun q => op (get A q.1) q.2) C _ (fun q hq => by rw [get_mem rC hq]) f1
 have e : rfoldL op A C = C.foldl (fun O q => rwithL O q.1 (op (get A q.1) q.2)) (A.foldl (fun O p => rwithL O p.1 (op p.2 (get C p.1))) A) := by
  unfold rfoldL rj2 rj1
  rw [List.take_length, List.take_length]
 rw [e]
 refine ext f2 (fold_fit (h := fun _ x y => op x y) (fun _ => h2) rA rC hJ) fun k => ?_
 rw [g2, g1]
 refine Eq.trans ?_ (fold_get (h := fun _ x y => op x y) (fun _ => h2) rA rC k).symm
 by_cases h1 : k ∈ C.map Prod.fst
 ·rw [if_pos h1]
 ·rw [if_neg h1]
  by_cases h3 : k ∈ A.map Prod.fst
  ·rw [if_pos h3]
  ·rw [if_neg h3, get_two h3, get_two h1, h2]
theorem rjoin_eq {A C : List (Int × Int)} (hA : Fit A) (hC : Fit C) : rfoldL Lv.join A C = joinL A C := rfold_eq (by decide) (fun x y => ⟨Lv.join_lo x y, Lv.join_hi x y⟩) hA hC
theorem rmap_get {op : Int → Int} (h2 : op 2 = 2) (A : List (Int × Int)) (k : Int) : get (rmapL op A) k = op (get A k) := by
 induction A with
 | nil => exact h2.symm
 | cons p r ih =>
  show get ((p.1, op p.2) :: rmapL op r) k = _
  simp only [get]
  split
  ·rfl
  ·exact ih
theorem rmap_rc {op : Int → Int} : ∀ {A : List (Int × Int)} {b : Int}, Rc b A → Rc b (rmapL op A) := by
 intro A
 induction A with
 | nil => intro b _; trivial
 | cons p r ih => intro b h; exact ⟨h.1, ih h.2⟩
theorem rraise_eq {A : List (Int × Int)} (hA : Fit A) : rmapL Lv.raise A = raiseL A := by
 obtain ⟨b, rA⟩ := hA.rc
 refine ext ⟨⟨b, rmap_rc rA⟩, fun p hp => ?_⟩ (raiseL_fit hA) fun k => ?_
 ·obtain ⟨q, hq, rfl⟩ := List.mem_map.1 hp
  have h := hA.2 q hq
  show lok (Lv.raise q.2)
  unfold Lv.raise
  rw [Lv.lv_of h.1 h.2.1]
  split
  ·exact ⟨by omega, by omega, by omega⟩
  ·exact h
 ·have h1 := hA.range k
  rw [rmap_get (by decide), raiseL_get hA]
  unfold Lv.raise
  rw [Lv.lv_of h1.1 h1.2]
end Go.Proofs.Ytcmcakandbpjfaa
