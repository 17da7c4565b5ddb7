/-
 PROVED HERE: plain facts on labels as lists of pairs of integers (no Go text), and what it means that a slice in memory hol. What is asked stands at each.
-/
import Derived.WalkKit
import Derived.Below
import Derived.OwnWalk
import Derived.Test.YtloghnpfplljgaaGreatRows
import Derived.ProofKit
import Derived.OpenShut
import Derived.WalkSmall
import Derived.Deep.QuietTactic
import Derived.BigQuiet
import Derived.Laws.AppendOwn
import Derived.Laws.OwnMore
import Derived.Maps.AppendAt
import Derived.RangeFuncNested
import Derived.RangeFuncBound
import Derived.RangeFuncCalls
import Derived.RangeFuncLeaves
import Derived.Shelf.Abstract
import Derived.Shelf.RegionOpen
import Derived.OwnWalkIn
import Derived.TacticsInMore
import Derived.LoopNIn
import Derived.LoopIn
import Derived.RegionIn
import Derived.OrdersHeld
import Derived.OrdersIn
import Derived.Deep.RegionHeld
import Derived.WalkSpells
import Derived.Laws.AppendOwnNone
import Derived.Deep.SlicePairs
import Derived.Deep.RegionHeld3
import Derived.Deep.AppendLies
import Derived.Test.YtloghnpfplljgaaGreatZ0
namespace Go.Proofs.YtloghnpfplljgaaGreat
set_option maxRecDepth 100000
set_option maxHeartbeats 8000000
set_option linter.unusedVariables false
open Go.Proofs.Tryz
section
open Go.RowKit
def LabD (D : Nat → Prop) (w : World) (ao : Option Addr) (n cap : Nat) (L : List (Int × Int)) : Prop :=
 L.length = n ∧ n ≤ cap ∧ (cap ≤ 9223372036854775807 ∧ (ao = none → cap = 0)) ∧
 (0 < n → ∃ b off, ao = some ⟨b, off, none⟩ ∧ D b ∧
  ∀ i, i < n → w.cell? ⟨b, off + i * 2, none⟩ = some (.int .u64 (L.getD i (0, 0)).1) ∧ w.cell? ⟨b, off + i * 2 + 1, none⟩ = some (.int .i64 (L.getD i (0, 0)).2))
def Lab (B : Nat) (w : World) (ao : Option Addr) (n cap : Nat) (L : List (Int × Int)) : Prop := LabD (fun b => b < B) w ao n cap L
def Keeps (D : Nat → Prop) (W W' : World) : Prop := W.heap.size ≤ W'.heap.size ∧ ∀ b, D b → W'.heap[b]? = W.heap[b]?
theorem Keeps.refl (D : Nat → Prop) (W : World) : Keeps D W W := ⟨lrz _, fun _ _ => rfl⟩
variable {D : Nat → Prop}
theorem Keeps.trans {A B C : World} (h : Keeps D A B) (k : Keeps D B C) : Keeps D A C := ⟨Nat.le_trans h.1 k.1, fun b hb => (k.2 b hb).trans (h.2 b hb)⟩
variable {B : Nat}
theorem wrz {W W' : World} (h : Below B W W') : Keeps (fun b => b < B) W W' := ⟨h.size, fun b hb => h.block b hb⟩
variable {L : List (Int × Int)} {ao : Option Addr} {n cap : Nat}
theorem LabD.later {w w' : World} (h : LabD D w ao n cap L) (k : Keeps D w w') : LabD D w' ao n cap L := by
 obtain ⟨h1, h2, h3, h4⟩ := h
 refine ⟨h1, h2, h3, fun hn => ?_⟩
 obtain ⟨b, off, e, hb, hc⟩ := h4 hn
 refine ⟨b, off, e, hb, fun i hi => ?_⟩
 obtain ⟨c0, c1⟩ := hc i hi
 exact ⟨(World.cell?_of_block (w := w) (a := ⟨b, off + i * 2, none⟩) (k.2 b hb)).trans c0, (World.cell?_of_block (w := w) (a := ⟨b, off + i * 2 + 1, none⟩) (k.2 b hb)).trans c1⟩
variable {w : World}
theorem LabD.lab (h : LabD D w ao n cap L) (hD : ∀ b, D b → b < B) : Lab B w ao n cap L := by
 obtain ⟨h1, h2, h3, h4⟩ := h
 refine ⟨h1, h2, h3, fun hn => ?_⟩
 obtain ⟨b, off, e, hb, hc⟩ := h4 hn
 exact ⟨b, off, e, hD b hb, hc⟩
theorem Lab.later {w w' : World} (h : Lab B w ao n cap L) (k : Below B w w') : Lab B w' ao n cap L := by
 obtain ⟨h1, h2, h3, h4⟩ := h
 refine ⟨h1, h2, h3, fun hn => ?_⟩
 obtain ⟨b, off, e, hb, hc⟩ := h4 hn
 refine ⟨b, off, e, hb, fun i hi => ?_⟩
 obtain ⟨c0, c1⟩ := hc i hi
 exact ⟨(k.cell (p := ⟨b, off + i * 2, none⟩) hb).trans c0, (k.cell (p := ⟨b, off + i * 2 + 1, none⟩) hb).trans c1⟩
theorem Lab.wide {B B' : Nat} (h : Lab B w ao n cap L) (k : B ≤ B') : Lab B' w ao n cap L := by
 obtain ⟨h1, h2, h3, h4⟩ := h
 refine ⟨h1, h2, h3, fun hn => ?_⟩
 obtain ⟨b, off, e, hb, hc⟩ := h4 hn
 exact ⟨b, off, e, ltz hb k, hc⟩
theorem Lab.next {w w' : World} (h : Lab w.heap.size w ao n cap L) (k : Below w.heap.size w w') : Lab w'.heap.size w' ao n cap L := (h.later k).wide k.size
theorem Lab.len (h : Lab B w ao n cap L) : L.length = n := h.1
theorem Lab.nil (B : Nat) (w : World) : Lab B w none 0 0 [] := ⟨rfl, lrz _, ⟨by omega, fun _ => rfl⟩, fun h => absurd h (by omega)⟩
theorem Lab.at {w wr : World} (h : Lab B w ao n cap L) (k : Below B w wr) {i : Nat} (hi : i < n) :
  ∃ (b off : Nat) (x y : Int), ao = some ⟨b, off, none⟩ ∧ b < B ∧ wr.cell? ⟨b, off + i * 2, none⟩ = some (.int .u64 x) ∧ wr.cell? ⟨b, off + i * 2 + 1, none⟩ = some (.int .i64 y) ∧ Hid (L.getD i (0, 0) = (x, y)) := by
 obtain ⟨h1, h2, h3, h4⟩ := h.later k
 obtain ⟨b, off, e, hb, hc⟩ := h4 (by omega)
 exact ⟨b, off, _, _, e, hb, (hc i hi).1, (hc i hi).2, rfl⟩
theorem cellLater {a : Addr} {v : Value} (h : w.cell? a = some v) (o : Obj) : (w.alloc o).cell? a = some v := by
 by_cases hb : a.block < w.heap.size
 ·exact (((brz w.heap.size w).alloc (lrz _) o).cell hb).trans h
 ·exfalso
  have hn : w.heap[a.block]? = none := by simp; omega
  simp [World.cell?, hn] at h
theorem wrapN {m : Nat} (h : m < 9223372036854775807) : IntKind.i64.wrap (m : Int) = m := by rw [IntKind.wrap_i64]; omega
def get : List (Int × Int) → Int → Int
 | [], _ => 2
 | p :: r, c => if p.1 = c then p.2 else get r c
variable {k : Nat}
theorem ulz (h : k < L.length) (c : Int) : get (L.drop k) c = if (L.getD k (0, 0)).1 = c then (L.getD k (0, 0)).2 else get (L.drop (k + 1)) c := by
 rw [List.drop_eq_getElem_cons h]
 simp [get, List.getD_eq_getElem?_getD, List.getElem?_eq_getElem h]
theorem get_hit {x y c : Int} (h : k < L.length) (e : L.getD k (0, 0) = (x, y)) (hx : x = c) : get (L.drop k) c = y := by
 rw [ulz h, e, if_pos hx]
theorem get_miss {x y c : Int} (h : k < L.length) (e : L.getD k (0, 0) = (x, y)) (hx : ¬ x = c) : get (L.drop k) c = get (L.drop (k + 1)) c := by
 rw [ulz h, e, if_neg hx]
theorem get_end (h : L.length ≤ k) (c : Int) : get (L.drop k) c = 2 := by
 rw [List.drop_eq_nil_of_le h]; rfl
def okAt (L : List (Int × Int)) (k : Nat) : Bool := Lv.fit (L.getD k (0, 0)).2 && (!decide ((L.getD k (0, 0)).2 = 2) && (decide (k = 0) || decide ((L.getD (k - 1) (0, 0)).1 < (L.getD k (0, 0)).1)))
def fitB (L : List (Int × Int)) : Bool := (List.range L.length).all (okAt L)
theorem fitB_no (h : k < L.length) (e : okAt L k = false) : fitB L = false := by
 unfold fitB
 rw [List.all_eq_false]
 exact ⟨k, List.mem_range.2 h, by simp [e]⟩
theorem fitB_yes (h : ∀ k, k < L.length → okAt L k = true) : fitB L = true := by
 unfold fitB
 rw [List.all_eq_true]
 exact fun k hk => h k (List.mem_range.1 hk)
variable {x y : Int}
theorem y9z (e : L.getD k (0, 0) = (x, y)) (h : Lv.fit y = false) : okAt L k = false := by
 unfold okAt; rw [e]; simp [h]
theorem y8z (e : L.getD k (0, 0) = (x, y)) (h : y = 2) : okAt L k = false := by
 unfold okAt; rw [e]; simp [h]
theorem uaz {x y x' y' : Int} (e : L.getD k (0, 0) = (x, y)) (e' : L.getD (k - 1) (0, 0) = (x', y')) (hk : 0 < k) (h : x ≤ x') : okAt L k = false := by
 unfold okAt; rw [e, e']
 have h1 : decide (k = 0) = false := by simp; omega
 have h2 : decide (x' < x) = false := by simp; omega
 simp [h1, h2]
theorem y7z {x y x' y' : Int} (e : L.getD k (0, 0) = (x, y)) (hf : Lv.fit y = true) (h2 : ¬ y = 2) (e' : L.getD (k - 1) (0, 0) = (x', y')) (h : x' < x) : okAt L k = true := by
 unfold okAt; rw [e, e']; simp [hf, h2, h]
theorem vDz (e : L.getD 0 (0, 0) = (x, y)) (hf : Lv.fit y = true) (h2 : ¬ y = 2) : okAt L 0 = true := by
 unfold okAt; rw [e]; simp [hf, h2]
theorem all_succ {p : Nat → Bool} (h : ∀ i, i < k → p i = true) (hk : p k = true) : ∀ i, i < k + 1 → p i = true := fun i hi => by
 rcases Nat.lt_or_ge i k with h' | h'
 ·exact h i h'
 ·have : i = k := by omega
  rw [this]; exact hk
theorem bIz {p q : Nat → Int × Int} (h : ∀ i, i < k → p i = q i) (hk : p k = q k) : ∀ i, i < k + 1 → p i = q i := fun i hi => by
 rcases Nat.lt_or_ge i k with h' | h'
 ·exact h i h'
 ·have : i = k := by omega
  rw [this]; exact hk
def sameB (A C : List (Int × Int)) : Bool := decide (A = C)
variable {A C : List (Int × Int)}
theorem sameB_len (h : A.length ≠ C.length) : sameB A C = false := by
 unfold sameB; rw [decide_eq_false_iff_not]; exact fun e => h (by rw [e])
theorem sameB_at {p q : Int × Int} (e : A.getD k (0, 0) = p) (f : C.getD k (0, 0) = q) (h : p ≠ q) : sameB A C = false := by
 unfold sameB; rw [decide_eq_false_iff_not]; intro x; rw [x] at e; exact h (e.symm.trans f)
theorem sameB_all (h : A.length = C.length) (k : ∀ i, i < A.length → A.getD i (0, 0) = C.getD i (0, 0)) : sameB A C = true := by
 unfold sameB; rw [decide_eq_true_iff]
 apply List.ext_getElem h
 intro i h1 h2
 have := k i h1
 simpa [List.getD_eq_getElem?_getD, List.getElem?_eq_getElem h1, List.getElem?_eq_getElem h2] using this
theorem sameB_refl (A : List (Int × Int)) : sameB A A = true := by unfold sameB; simp
variable {r : List (Int × Int)}
theorem Lab.head {n cap B : Nat} {p : Int × Int} (h : Lab B w ao n cap (p :: r)) :
  ∃ b off, ao = some ⟨b, off, none⟩ ∧ b < B ∧ w.cell? ⟨b, off, none⟩ = some (.int .u64 p.1) ∧ w.cell? ⟨b, off + 1, none⟩ = some (.int .i64 p.2) ∧ n = r.length + 1 := by
 obtain ⟨h1, h2, h3, h4⟩ := h
 have hn : n = r.length + 1 := by simpa using h1.symm
 obtain ⟨b, off, e, hb, hc⟩ := h4 (by omega)
 have h0 := hc 0 (by omega)
 simp at h0
 exact ⟨b, off, e, hb, h0.1, h0.2, hn⟩
theorem LabD.tail {b off n cap : Nat} {p : Int × Int} (h : LabD D w (some ⟨b, off, none⟩) n cap (p :: r)) (ha : ao = some ⟨b, off + 2, none⟩ ∨ ao = some ⟨b, off, none⟩ ∧ r.length = 0) : LabD D w ao r.length (cap - 1) r := by
 obtain ⟨h1, h2, h3, h4⟩ := h
 have hn : n = r.length + 1 := by simpa using h1.symm
 refine ⟨rfl, by omega, ⟨by omega, fun hz => by rcases ha with ha | ha; rw [ha] at hz; cases hz; rw [ha.1] at hz; cases hz⟩, fun hr => ?_⟩
 obtain ⟨b', off', e, hb, hc⟩ := h4 (by omega)
 simp only [Option.some.injEq, Addr.mk.injEq, and_true] at e
 obtain ⟨rfl, rfl⟩ := e
 refine ⟨b, off + 2, by rcases ha with ha | ha; exact ha; omega, hb, fun i hi => ?_⟩
 have := hc (i + 1) (by omega)
 have e1 : off + (i + 1) * 2 = off + 2 + i * 2 := by omega
 rw [e1] at this
 simpa using this
theorem Lab.empty {n cap B : Nat} (h : Lab B w ao n cap []) : n = 0 := by simpa using h.1.symm
def wzz : List (Int × Int) → Int → Int
 | [], _ => 2
 | p :: _, c => if p.1 = c then p.2 else 2
def q6z : List (Int × Int) → Int → List (Int × Int)
 | [], _ => []
 | p :: r, c => if p.1 = c then r else p :: r
def lenOf : Value → Nat
 | .slice _ n _ => n
 | _ => 0
def fore : List (Int × Int) → List (Int × Int) → Int
 | [], [] => 0
 | p :: _, [] => p.1
 | [], q :: _ => q.1
 | p :: _, q :: _ => if p.1 < q.1 then p.1 else q.1
end
section
open Go.ChangeShapes Go.WideShapes Go.ChangeAt Go.RowKit
theorem next {w a b : World} (h : Below w.heap.size w a) (k : Below a.heap.size a b) : Below w.heap.size w b := btz h k
theorem fit_any (n : Int) (w : World) : Calls prog 271 #[.int .i64 n] w fun e w' => e = .returned (.bool (Lv.fit n)) ∧ w' = w := by
 by_cases h0 : 0 ≤ n
 ·by_cases h5 : n ≤ 5
  ·have hf : Lv.fit n = true := by simp [Lv.fit, h0, h5]
   rw [hf]
   go_enter func271, ntmps271
   go_wp2
   go_ret
   exact ⟨rfl, rfl⟩
  ·have hf : Lv.fit n = false := by simp [Lv.fit, h0, h5]
   rw [hf]
   go_enter func271, ntmps271
   go_wp2
   go_ret
   exact ⟨rfl, rfl⟩
 ·have hf : Lv.fit n = false := by simp [Lv.fit, h0]
  rw [hf]
  go_enter func271, ntmps271
  go_wp2
  go_ret
  exact ⟨rfl, rfl⟩
theorem wPz (n : Int) (w : World) : Calls prog 279 #[.int .i64 n] w fun e w' => e = .returned (.int .i64 (Lv.lv n)) ∧ w' = w := by
 by_cases h : 0 ≤ n ∧ n ≤ 5
 ·have hf : Lv.fit n = true := by simp [Lv.fit, h]
  have hl : Lv.lv n = n := Lv.lv_of h.1 h.2
  rw [hl]
  clear h hl
  go_enter func279, ntmps279
  go_wp2_with (go_at_call 271; refine (fit_any _ _).mono ?_; rintro e w' ⟨rfl, rfl⟩)
  go_ret
  exact ⟨rfl, rfl⟩
 ·have hf : Lv.fit n = false := by simp [Lv.fit, h]
  have hl : Lv.lv n = 2 := Lv.lv_no h
  rw [hl]
  clear h hl
  go_enter func279, ntmps279
  go_wp2_with (go_at_call 271; refine (fit_any _ _).mono ?_; rintro e w' ⟨rfl, rfl⟩)
  go_ret
  exact ⟨rfl, rfl⟩
theorem baz (a b : Int) (w : World) : Calls prog 260 #[.int .i64 a, .int .i64 b] w fun e w' => e = .returned (.bool (Lv.leq a b)) ∧ w' = w := by
 unfold Lv.leq
 go_enter func260, ntmps260
 go_wp2_with (go_at_call 279; refine (wPz _ _).mono ?_; rintro e w' ⟨rfl, rfl⟩)
 go_ret
 exact ⟨rfl, rfl⟩
theorem vPz (b : Nat) (x y : Int) (w : World) (c0 : w.cell? ⟨b, 0, none⟩ = some (.int .i64 x)) (c1 : w.cell? ⟨b, 1, none⟩ = some (.int .i64 y)) :
  Calls prog 284 #[.slice (some ⟨b, 0, none⟩) 2 2] w fun e w' => e = .returned (.int .i64 (Lv.join x y)) ∧ w' = w := by
 have x0 := Lv.lv_lo x
 go_enter func284, ntmps284
 go_wp2
 go_loop [3, 8] (fun t i => (i = .int .i64 0 ∧ t = .int .i64 0) ∨ (i = .int .i64 1 ∧ t = .int .i64 (Lv.lv x)) ∨ (i = .int .i64 2 ∧ t = .int .i64 (Lv.join x y))) (fun _ i => (2 - intOf i).toNat)
 case atStart => exact .inl ⟨rfl, rfl⟩
 case round =>
  rcases hrel with ⟨rfl, rfl⟩ | ⟨rfl, rfl⟩ | ⟨rfl, rfl⟩
  ·by_cases h : 0 < Lv.lv x
   ·go_wp2_with (go_at_call 279; refine (wPz _ _).mono ?_; rintro e w' ⟨rfl, rfl⟩)
    go_round
    case rel => exact .inr (.inl ⟨rfl, rfl⟩)
    case measure => simp [intOf]
   ·have hx : Hid (Lv.lv x = 0) := by show Lv.lv x = 0; omega
    go_wp2_with (go_at_call 279; refine (wPz _ _).mono ?_; rintro e w' ⟨rfl, rfl⟩)
    go_round
    case rel => exact .inr (.inl ⟨rfl, by rw [hx.out]⟩)
    case measure => simp [intOf]
  ·by_cases h : Lv.lv x < Lv.lv y
   ·have hj : Hid (Lv.join x y = Lv.lv y) := by show Lv.join x y = Lv.lv y; unfold Lv.join; rw [if_pos h]
    go_wp2_with (go_at_call 279; refine (wPz _ _).mono ?_; rintro e w' ⟨rfl, rfl⟩)
    go_round
    case rel => exact .inr (.inr ⟨rfl, by rw [hj.out]⟩)
    case measure => simp [intOf]
   ·have hj : Hid (Lv.join x y = Lv.lv x) := by show Lv.join x y = Lv.lv x; unfold Lv.join; rw [if_neg h]
    go_wp2_with (go_at_call 279; refine (wPz _ _).mono ?_; rintro e w' ⟨rfl, rfl⟩)
    go_round
    case rel => exact .inr (.inr ⟨rfl, by rw [hj.out]⟩)
    case measure => simp [intOf]
  ·go_wp2
   go_ret
   exact ⟨rfl, rfl⟩
theorem gRz (n : Int) (w : World) : Calls prog 269 #[.int .i64 n] w fun e w' => e = .returned (.int .i64 (Lv.raise n)) ∧ w' = w := by
 by_cases h : n = 0
 ·subst h
  have hr : Lv.raise 0 = 5 := by decide
  rw [hr]
  go_enter func269, ntmps269
  go_wp2
  go_ret
  exact ⟨rfl, rfl⟩
 ·have hn : (n == 0) = false := by simpa using h
  have hr : Lv.raise n = Lv.lv n := by unfold Lv.raise Lv.lv; split <;> simp_all
  rw [hr]
  clear h hr
  go_enter func269, ntmps269
  go_wp2_with (go_at_call 279; refine (wPz _ _).mono ?_; rintro e w' ⟨rfl, rfl⟩)
  go_ret
  exact ⟨rfl, rfl⟩
theorem join_any (a b : Int) (w : World) : Calls prog 267 #[.int .i64 a, .int .i64 b] w fun e w' => e = .returned (.int .i64 (Lv.join a b)) ∧ Below w.heap.size w w' := by
 go_enter func267, ntmps267
 go_wp2_with (go_at_call 284; refine (vPz _ a b _ (by go_simp) (by go_simp)).mono ?_; rintro e w' ⟨rfl, rfl⟩)
 go_ret
 exact ⟨rfl, (brz _ _).alloc (lrz _) _⟩
theorem vFz (n : Int) (w : World) : Calls prog 78 #[.int .i64 n] w fun e w' => e = .returned (.int .i64 (Lv.lv n)) ∧ w' = w := by
 by_cases h0 : n < 0
 ·have hl : Lv.lv n = 2 := Lv.lv_no (by omega)
  rw [hl]
  clear hl
  go_enter func78, ntmps78
  go_wp2
  go_ret
  exact ⟨rfl, rfl⟩
 ·by_cases h5 : 5 < n
  ·have hl : Lv.lv n = 2 := Lv.lv_no (by omega)
   rw [hl]
   clear hl
   go_enter func78, ntmps78
   go_wp2
   go_ret
   exact ⟨rfl, rfl⟩
  ·have hl : Lv.lv n = n := Lv.lv_of (by omega) (by omega)
   rw [hl]
   clear hl
   go_enter func78, ntmps78
   go_wp2
   go_ret
   exact ⟨rfl, rfl⟩
theorem rfit_any (n : Int) (w : World) : Calls prog 202 #[.int .i64 n] w fun e w' => e = .returned (.bool (Lv.fit n)) ∧ w' = w := by
 by_cases h0 : 0 ≤ n
 ·by_cases h5 : n ≤ 5
  ·have hf : Lv.fit n = true := by simp [Lv.fit, h0, h5]
   rw [hf]
   go_enter func202, ntmps202
   go_wp2
   go_ret
   exact ⟨rfl, rfl⟩
  ·have hf : Lv.fit n = false := by simp [Lv.fit, h0, h5]
   rw [hf]
   go_enter func202, ntmps202
   go_wp2
   go_ret
   exact ⟨rfl, rfl⟩
 ·have hf : Lv.fit n = false := by simp [Lv.fit, h0]
  rw [hf]
  go_enter func202, ntmps202
  go_wp2
  go_ret
  exact ⟨rfl, rfl⟩
theorem kqz (a b : Int) (w : World) : Calls prog 44 #[.int .i64 a, .int .i64 b] w fun e w' => e = .returned (.bool (Lv.leq a b)) ∧ w' = w := by
 unfold Lv.leq
 go_enter func44, ntmps44
 go_wp2_with (go_at_call 78; refine (vFz _ _).mono ?_; rintro e w' ⟨rfl, rfl⟩)
 go_ret
 exact ⟨rfl, rfl⟩
theorem vxz (a b : Int) (w : World) : Calls prog 167 #[.int .i64 a, .int .i64 b] w fun e w' => e = .returned (.int .i64 (Lv.join a b)) ∧ w' = w := by
 by_cases h : Lv.lv b < Lv.lv a
 ·have hj : Lv.join a b = Lv.lv a := by unfold Lv.join; rw [if_neg (by omega)]
  rw [hj]
  clear hj
  go_enter func167, ntmps167
  go_wp2_with (go_at_call 78; refine (vFz _ _).mono ?_; rintro e w' ⟨rfl, rfl⟩)
  go_ret
  exact ⟨rfl, rfl⟩
 ·have hj : Lv.join a b = Lv.lv b := by unfold Lv.join; split <;> omega
  rw [hj]
  clear hj
  go_enter func167, ntmps167
  go_wp2_with (go_at_call 78; refine (vFz _ _).mono ?_; rintro e w' ⟨rfl, rfl⟩)
  go_ret
  exact ⟨rfl, rfl⟩
theorem uKz (n : Int) (w : World) : Calls prog 46 #[.int .i64 n] w fun e w' => e = .returned (.int .i64 (Lv.raise n)) ∧ w' = w := by
 by_cases h : Lv.lv n = 0
 ·have hr : Lv.raise n = 5 := by unfold Lv.raise; rw [if_pos h]
  have hn : (Lv.lv n == 0) = true := by simpa using h
  rw [hr]
  clear h hr
  go_enter func46, ntmps46
  go_wp2_with (go_at_call 78; refine (vFz _ _).mono ?_; rintro e w' ⟨rfl, rfl⟩)
  go_ret
  exact ⟨rfl, rfl⟩
 ·have hr : Lv.raise n = Lv.lv n := by unfold Lv.raise; rw [if_neg h]
  have hn : (Lv.lv n == 0) = false := by simpa using h
  rw [hr]
  clear h hr
  go_enter func46, ntmps46
  go_wp2_with (go_at_call 78; refine (vFz _ _).mono ?_; rintro e w' ⟨rfl, rfl⟩)
  go_ret
  exact ⟨rfl, rfl⟩
variable {L : List (Int × Int)}
theorem xpz {B : Nat} {w : World} {ao : Option Addr} {n cap : Nat} (c : Int) (hL : Lab B w ao n cap L) :
  Calls prog 45 #[.slice ao n cap, .int .u64 c] w fun e w' => e = .returned (.int .i64 (get L c)) ∧ w' = w := by
 have hn := hL.1
 have hnc := hL.2.1
 have hcm := hL.2.2.1.1
 go_enter func45, ntmps45
 go_wp2
 go_loop [5] (fun i => ∃ k : Nat, k ≤ n ∧ i = .int .i64 k ∧ get (L.drop k) c = get L c) (fun i => n - (intOf i).toNat)
 case atStart => exact ⟨0, Nat.zero_le _, rfl, by simp⟩
 case round =>
  obtain ⟨k, hk, rfl, hg⟩ := hrel
  by_cases hkn : k < n
  ·obtain ⟨b, off, x, y, rfl, hbB, d0, d1, hxy⟩ := hL.at (brz _ _) hkn
   clear hL
   by_cases hxc : x = c
   ·have hr : Hid (get L c = y) := hg.symm.trans (get_hit (by omega) hxy.out hxc)
    clear hg
    go_wp2
    go_ret
    exact ⟨by rw [hr.out]; rfl, rfl⟩
   ·have hr : Hid (get (L.drop (k + 1)) c = get L c) := (get_miss (by omega) hxy.out hxc).symm.trans hg
    clear hg
    go_wp2
    go_round
    case rel => exact ⟨k + 1, by omega, by go_num, hr.out⟩
    case measure => simp [intOf]; omega
  ·have hr : Hid (get L c = 2) := hg.symm.trans (get_end (by omega) c)
   clear hg hL
   go_wp2
   go_ret
   exact ⟨by rw [hr.out]; rfl, rfl⟩
theorem lfit_any {B : Nat} {w : World} {ao : Option Addr} {n cap : Nat} (hL : Lab B w ao n cap L) (hB : B ≤ w.heap.size) :
  Calls prog 246 #[.slice ao n cap] w fun e w' => e = .returned (.bool (fitB L)) ∧ Below w.heap.size w w' := by
 have hn := hL.1
 have hnc := hL.2.1
 have hcm := hL.2.2.1.1
 go_enter func246, ntmps246
 go_wp2
 go_loopw [7] (fun i wr => ∃ k : Nat, k ≤ n ∧ i = .int .i64 k ∧ (∀ j, j < k → okAt L j = true) ∧ Below w.heap.size w wr) (fun i _ => n - (intOf i).toNat)
 case atStart => exact ⟨0, Nat.zero_le _, rfl, fun j hj => absurd hj (by omega), brz _ _⟩
 case round =>
  obtain ⟨k, hk, rfl, hg, hb⟩ := hrel
  by_cases hkn : k < n
  ·obtain ⟨b, off, x, y, rfl, hbB, d0, d1, hxy⟩ := hL.at (hb.mono hB) hkn
   have hG : Hid (∀ j, j < k → okAt L j = true) := hg
   clear hg
   cases hf : Lv.fit y with
   | false =>
    have hr : Hid (fitB L = false) := fitB_no (k := k) (by omega) (y9z hxy.out hf)
    clear hL
    go_wp2_with (go_at_call 271; refine (fit_any _ _).mono ?_; rintro e w' ⟨rfl, rfl⟩)
    go_ret
    exact ⟨by rw [hr.out]; rfl, hb.alloc hb.size _⟩
   | true =>
    by_cases h2 : y = 2
    ·have hr : Hid (fitB L = false) := fitB_no (k := k) (by omega) (y8z hxy.out h2)
     clear hL
     go_wp2_with (go_at_call 271; refine (fit_any _ _).mono ?_; rintro e w' ⟨rfl, rfl⟩)
     go_ret
     exact ⟨by rw [hr.out]; rfl, hb.alloc hb.size _⟩
    ·by_cases h0 : k = 0
     ·subst h0
      have ho : Hid (okAt L 0 = true) := vDz hxy.out hf h2
      simp only [Nat.zero_mul, Nat.add_zero] at d0 d1
      clear hL
      go_wp2_with (go_at_call 271; refine (fit_any _ _).mono ?_; rintro e w' ⟨rfl, rfl⟩)
      go_quiet (fail)
      go_wp2
      go_roundw
      case rel => exact ⟨1, by omega, by go_num, all_succ hG.out ho.out, below_drewN (hb.alloc hb.size _) _⟩
      case measure => simp [intOf]; omega
     ·obtain ⟨m, rfl⟩ : ∃ m, k = m + 1 := ⟨k - 1, by omega⟩
      obtain ⟨b', off', x', y', hbo, _, d2, _, hxy'⟩ := hL.at (hb.mono hB) (i := m) (by omega)
      simp only [Option.some.injEq, Addr.mk.injEq, and_true] at hbo
      obtain ⟨rfl, rfl⟩ := hbo
      have hwm : IntKind.i64.wrap (m : Int) = m := wrapN (by omega)
      have hmn : (m : Int) < n := by omega
      have d3 : ∀ o, (wr.alloc o).cell? ⟨b, off + m * 2, none⟩ = some (.int .u64 x') := fun o => cellLater d2 o
      by_cases hxx : x ≤ x'
      ·have hr : Hid (fitB L = false) := fitB_no (k := m + 1) (by omega) (uaz hxy.out hxy'.out (by omega) hxx)
       clear hL
       go_wp2_with (go_at_call 271; refine (fit_any _ _).mono ?_; rintro e w' ⟨rfl, rfl⟩)
       go_quiet (fail)
       go_wp2
       go_ret
       exact ⟨by rw [hr.out]; rfl, below_drewN (hb.alloc hb.size _) _⟩
      ·have ho : Hid (okAt L (m + 1) = true) := y7z hxy.out hf h2 hxy'.out (by omega)
       clear hL
       go_wp2_with (go_at_call 271; refine (fit_any _ _).mono ?_; rintro e w' ⟨rfl, rfl⟩)
       go_quiet (fail)
       go_wp2
       go_roundw
       case rel => exact ⟨m + 1 + 1, by omega, by go_num, all_succ hG.out ho.out, below_drewN (hb.alloc hb.size _) _⟩
       case measure => simp [intOf]; omega
  ·have hr : Hid (fitB L = true) := fitB_yes (fun j hj => hg j (by omega))
   clear hg hL
   go_wp2
   go_ret
   exact ⟨by rw [hr.out]; rfl, hb⟩
end
section
open Go.RowKit
def cellsOf : List (Int × Int) → List Value
 | [] => []
 | p :: r => .int .u64 p.1 :: .int .i64 p.2 :: cellsOf r
theorem qZz (A C : List (Int × Int)) : cellsOf (A ++ C) = cellsOf A ++ cellsOf C := by
 induction A with
 | nil => rfl
 | cons p r ih => simp [cellsOf, ih]
theorem gcz (A : List (Int × Int)) : ∀ i, i < A.length → (cellsOf A)[i * 2]? = some (.int .u64 (A.getD i (0, 0)).1) ∧ (cellsOf A)[i * 2 + 1]? = some (.int .i64 (A.getD i (0, 0)).2) := by
 induction A with
 | nil => intro i hi; exact absurd hi (by simp)
 | cons p r ih =>
  intro i hi
  cases i with
  | zero => simp [cellsOf]
  | succ j =>
   have h := ih j (by simpa using hi)
   have e1 : (j + 1) * 2 = j * 2 + 1 + 1 := by omega
   have e2 : (j + 1) * 2 + 1 = j * 2 + 1 + 1 + 1 := by omega
   rw [e1]
   simpa [cellsOf] using h
def OwnL (base : Nat) (w : World) (ao : Option Addr) (n cap : Nat) (L : List (Int × Int)) : Prop :=
 L.length = n ∧ w.ownsRow base 86 2 (.slice ao n cap) n (cellsOf L)
theorem OwnL.nil (base : Nat) (w : World) : OwnL base w none 0 0 [] := ⟨rfl, World.ownsRow_nil _ _ _ _⟩
variable {L : List (Int × Int)}
theorem OwnL.lab {base : Nat} {w : World} {ao : Option Addr} {n cap : Nat} (h : OwnL base w ao n cap L) : Lab w.heap.size w ao n cap L := by
 obtain ⟨hl, hr⟩ := h
 have hr' := hr
 obtain ⟨_, ⟨hv, hn⟩ | ⟨g, cap', cur, hv, hb, hh, hnc, hm, hs, ht⟩⟩ := hr
 ·simp only [Value.slice.injEq] at hv
  obtain ⟨rfl, rfl, rfl⟩ := hv
  exact ⟨hl, by omega, ⟨by omega, fun _ => rfl⟩, fun h => absurd h (by omega)⟩
 ·simp only [Value.slice.injEq] at hv
  obtain ⟨rfl, _, rfl⟩ := hv
  refine ⟨hl, hnc, ⟨by unfold maxLen at hm; omega, fun hz => by cases hz⟩, fun _ => ⟨g, 0, rfl, (Array.getElem?_eq_some_iff.1 hh).1, fun i hi => ?_⟩⟩
  have hc := gcz L i (by omega)
  rw [Nat.zero_add]
  exact ⟨(hr'.cellAt (i * 2) (by omega)).trans hc.1, (hr'.cellAt (i * 2 + 1) (by omega)).trans hc.2⟩
theorem wcz (w : World) (x y : Value) (t : TypeId) : ∀ j u, [x, y][j]? = some u → (w.alloc (.cells #[x, y] t)).cell? ((⟨w.heap.size, 0, none⟩ : Addr).add j) = some u := by
 intro j u hj
 match j, hj with
 | 0, hj => simp at hj; subst hj; simp [Addr.add]
 | 1, hj => simp at hj; subst hj; simp [Addr.add]
theorem wbz {W : World} {base : Nat} {e : TypeId} {size : Nat} {v : Value} {k : Nat} {xs : List Value} (h : W.ownsRow base e size v (k + 1) xs) : ∃ g cap, v = .slice (some ⟨g, 0, none⟩) (k + 1) cap := by
 rcases h.2 with ⟨_, h0⟩ | ⟨g, cap, _, rfl, _⟩
 ·omega
 ·exact ⟨g, cap, rfl⟩
def snoc (L : List (Int × Int)) (c l : Int) : List (Int × Int) := if l = 2 then L else L ++ [(c, l)]
theorem yPz {c l : Int} (h : l = 2) : snoc L c l = L := by unfold snoc; rw [if_pos h]
theorem yQz {c l : Int} (h : ¬ l = 2) : snoc L c l = L ++ [(c, l)] := by unfold snoc; rw [if_neg h]
theorem snoc_len (L : List (Int × Int)) (c l : Int) : (snoc L c l).length ≤ L.length + 1 := by unfold snoc; split <;> simp
end
section
open Go.ChangeShapes Go.WideShapes Go.ChangeAt Go.RowKit
theorem yxz : (prog.info? 22).map (fun i => (i.zero, i.size, i.bytes)) = some (some (.int .u64 0), 1, 8) := by kernel_rfl
def Cts (B : Nat) (w : World) (ao : Option Addr) (n cap : Nat) (C : List Int) : Prop :=
 C.length = n ∧ n ≤ cap ∧ cap ≤ 9223372036854775807 ∧
 (0 < n → ∃ b off, ao = some ⟨b, off, none⟩ ∧ b < B ∧ ∀ i, i < n → w.cell? ⟨b, off + i, none⟩ = some (.int .u64 (C.getD i 0)))
variable {ao : Option Addr} {n cap : Nat}
theorem Cts.later {w w' : World} {L : List Int} {B : Nat} (h : Cts B w ao n cap L) (k : Below B w w') : Cts B w' ao n cap L := by
 obtain ⟨h1, h2, h3, h4⟩ := h
 refine ⟨h1, h2, h3, fun hn => ?_⟩
 obtain ⟨b, off, e, hb, hc⟩ := h4 hn
 exact ⟨b, off, e, hb, fun i hi => (k.cell (p := ⟨b, off + i, none⟩) hb).trans (hc i hi)⟩
theorem Cts.next {w w' : World} {L : List Int} (h : Cts w.heap.size w ao n cap L) (k : Below w.heap.size w w') : Cts w'.heap.size w' ao n cap L := by
 obtain ⟨h1, h2, h3, h4⟩ := h.later k
 refine ⟨h1, h2, h3, fun hn => ?_⟩
 obtain ⟨b, off, e, hb, hc⟩ := h4 hn
 exact ⟨b, off, e, ltz hb k.size, hc⟩
variable {w : World}
theorem Cts.of_row {base : Nat} {v : Value} {C : List Int} (h : w.ownsRow base 22 1 v C.length (C.map (Value.int .u64))) : ∃ ao cap, v = .slice ao C.length cap ∧ Cts w.heap.size w ao C.length cap C := by
 have h' := h
 rcases h.2 with ⟨rfl, h0⟩ | ⟨g, cap, cur, rfl, hb, hh, hnc, hm, hs, ht⟩
 ·exact ⟨none, 0, by rw [h0], rfl, by omega, by omega, fun hn => absurd hn (by omega)⟩
 ·refine ⟨_, _, rfl, rfl, hnc, by unfold maxLen at hm; omega, fun _ => ⟨g, 0, rfl, (Array.getElem?_eq_some_iff.1 hh).1, fun i hi => ?_⟩⟩
  rw [Nat.zero_add, h'.cellAt i (by omega)]
  simp [List.getD_eq_getElem?_getD, List.getElem?_eq_getElem hi]
def ownK (L : List (Int × Int)) (k : Nat) : List Int := ((L.take k).filter fun p => decide (p.2 = 0)).map Prod.fst
def wOz (L : List (Int × Int)) : List Int := (L.filter fun p => decide (p.2 = 0)).map Prod.fst
variable {L : List (Int × Int)} {k : Nat}
theorem y5z (h : L.length ≤ k) : ownK L k = wOz L := by unfold ownK wOz; rw [List.take_of_length_le h]
variable {x y : Int}
theorem vBz (h : k < L.length) (e : L.getD k (0, 0) = (x, y)) : ownK L (k + 1) = ownK L k ++ (if y = 0 then [x] else []) := by
 have e' : L[k] = (x, y) := by simpa [List.getD_eq_getElem?_getD, List.getElem?_eq_getElem h] using e
 unfold ownK
 rw [List.take_succ_eq_append_getElem h, e', List.filter_append, List.map_append]
 by_cases hy : y = 0 <;> simp [hy]
theorem y4z (h : k < L.length) (e : L.getD k (0, 0) = (x, y)) (hy : y = 0) : ownK L (k + 1) = ownK L k ++ [x] := by rw [vBz h e, if_pos hy]
theorem vCz (h : k < L.length) (e : L.getD k (0, 0) = (x, y)) (hy : ¬ y = 0) : ownK L (k + 1) = ownK L k := by rw [vBz h e, if_neg hy]; simp
theorem y3z (L : List (Int × Int)) (k : Nat) : (ownK L k).length ≤ k := by
 unfold ownK
 rw [List.length_map]
 exact Nat.le_trans (List.length_filter_le _ _) (by rw [List.length_take]; omega)
theorem vAz (hL : Lab w.heap.size w ao n cap L) (hk : n < 274877906944) :
  Calls prog 205 #[.slice ao n cap] w fun e w' => ∃ ao1 n1 cap1, e = .returned (.slice ao1 n1 cap1) ∧ Cts w'.heap.size w' ao1 n1 cap1 (wOz L) ∧ Below w.heap.size w w' := by
 obtain ⟨i0, hi, hz0, hz1, hz2⟩ := info_parts yxz
 have hn := hL.1
 have hnc := hL.2.1
 have hcm := hL.2.2.1.1
 go_enter func205, ntmps205
 go_wp2
 go_loopw [3, 8] (fun v i wr => ∃ k : Nat, k ≤ n ∧ i = .int .i64 k ∧ wr.ownsRow w.heap.size 22 1 v (ownK L k).length ((ownK L k).map (Value.int .u64)) ∧ Below w.heap.size w wr) (fun _ i _ => n - (intOf i).toNat)
 case atStart => exact ⟨0, Nat.zero_le _, rfl, World.ownsRow_nil _ _ _ _, brz _ _⟩
 case round =>
  obtain ⟨k, hkn, rfl, hrow, hb⟩ := hrel
  have hlk := y3z L k
  by_cases hlt : k < n
  ·obtain ⟨b, off, x, y, rfl, hbB, d0, d1, hxy⟩ := hL.at hb hlt
   have hbw : b < wr.heap.size := ltz hbB hb.size
   clear hL
   by_cases hy : y = 0
   ·have hs : Hid (ownK L (k + 1) = ownK L k ++ [x]) := y4z (by omega) hxy.out hy
    subst hy
    go_wp2_with (at_builtin; refine wpList_append_own _ rfl _ _ 40 rfl w.heap.size 22 i0 (.int .u64 0) 1 8 underlying40 hi hz0 hz1 hz2 rfl (by decide) _ _ _ rfl ((hrow.alloc _).alloc _) ⟨wr.heap.size + 1, 0, none⟩ 1 1 [.int .u64 x] rfl rfl ?c1 (by simp [Value.oneCell']) (by unfold maxLen; omega) (by omega) (by have := hb.size; simp; omega) ?_)
    case c1 => have := cell_one_new (wr.alloc (.cells #[.int .u64 x, .int .i64 0] 86)) (.int .u64 x) 22; simpa using this
    intro v' w1 hown' hgrow _
    obtain ⟨g', cap', rfl⟩ := wbz hown'
    have hb2 : Below w.heap.size w w1 := ((hb.alloc hb.size _).alloc (by have := hb.size; simp; omega) _).grown hgrow (by have := hb.size; simp; omega) (fun j e => (hrow.lt j e).1)
    go_wp2
    go_roundw
    case rel => exact ⟨k + 1, by omega, by go_num, by rw [hs.out]; simpa using hown', hb2⟩
    case measure => simp [intOf]; omega
   ·have hs : Hid (ownK L (k + 1) = ownK L k) := vCz (by omega) hxy.out hy
    have hy0 : (y == 0) = false := by simpa using hy
    go_wp2
    go_roundw
    case rel => exact ⟨k + 1, by omega, by go_num, by rw [hs.out]; exact hrow.alloc _, hb.alloc hb.size _⟩
    case measure => simp [intOf]; omega
  ·have hs := y5z (L := L) (k := k) (by omega)
   rw [hs] at hrow
   obtain ⟨aoL, capL, rfl, hcts⟩ := Cts.of_row hrow
   clear hL hs
   go_wp2
   go_ret
   exact ⟨_, _, _, rfl, hcts, hb⟩
theorem j0z : (prog.info? 86).map (fun i => (i.zero, i.size, i.bytes)) = some (some (.agg #[.int .u64 0, .int .i64 0]), 2, 16) := by kernel_rfl
theorem yLz {base : Nat} (c l : Int) (hL : OwnL base w ao n cap L) (hb : base ≤ w.heap.size) (hn : n < 1099511627776) :
  Calls prog 283 #[.slice ao n cap, .int .u64 c, .int .i64 l] w fun e w' => ∃ ao' n' cap', e = .returned (.slice ao' n' cap') ∧ OwnL base w' ao' n' cap' (snoc L c l) ∧ w.grownBy w' (Value.slice ao n cap).ownBlock := by
 obtain ⟨i0, hi, hz0, hz1, hz2⟩ := info_parts j0z
 by_cases h2 : l = 2
 ·rw [yPz h2]
  subst h2
  go_enter func283, ntmps283
  go_wp2
  go_ret
  exact ⟨_, _, _, rfl, hL, World.grownBy.refl _ _⟩
 ·rw [yQz h2]
  obtain ⟨hlen, hrow⟩ := hL
  have hl2 : (l == 2) = false := by simpa using h2
  have HR : Hid (L.length = n) := hlen
  clear hlen h2
  go_enter func283, ntmps283
  go_wp2_with (at_builtin; refine wpList_append_own _ rfl _ _ 39 rfl base 86 i0 (.agg #[.int .u64 0, .int .i64 0]) 2 16 underlying39 hi hz0 hz1 hz2 rfl (by decide) _ _ _ rfl (hrow.alloc _) ⟨w.heap.size, 0, none⟩ 1 1 [.int .u64 c, .int .i64 l] rfl rfl (wcz _ _ _ _) (by simp [Value.oneCell']) (by unfold maxLen; omega) (by omega) (by simp; omega) ?_; intro v' w1 hown' hgrow _; obtain ⟨g', cap', rfl⟩ := wbz hown')
  go_ret
  refine ⟨_, _, _, rfl, ⟨by simp [HR.out], by rw [qZz]; exact hown'⟩, (World.grownBy_alloc _ _ _).trans hgrow⟩
theorem koz {B : Nat} (c : Int) (hL : Lab B w ao n cap L) :
  Calls prog 278 #[.slice ao n cap, .int .u64 c] w fun e w' => ∃ ao' n' cap', e = .returned (.tuple #[.int .i64 (wzz L c), .slice ao' n' cap']) ∧ (∀ D w, LabD D w ao n cap L → LabD D w ao' n' cap' (q6z L c)) ∧ ∃ m, w' = w.drewN m := by
 have hn := hL.1
 have hnc := hL.2.1
 have hcm := hL.2.2.1.1
 cases L with
 | nil =>
  have h0 := hL.empty
  subst h0
  clear hn
  go_enter func278, ntmps278
  go_wp2
  go_ret2
  exact ⟨_, _, _, rfl, fun _ _ h => h, 0, rfl⟩
 | cons p r =>
  obtain ⟨b, off, rfl, hbB, d0, d1, hnr⟩ := hL.head
  subst hnr
  clear hn
  by_cases hp : p.1 = c
  ·have e1 : wzz (p :: r) c = p.2 := by simp [wzz, hp]
   have e2 : q6z (p :: r) c = r := by simp [q6z, hp]
   rw [e1, e2]
   clear hL e1 e2
   go_enter func278, ntmps278
   go_wp2
   go_quiet (fail)
   all_goals go_wp2
   all_goals go_ret2
   ·exact ⟨_, _, _, rfl, fun _ _ HL => by (have h : cap = 1 := by omega); subst h; exact HL.tail (.inr ⟨rfl, by omega⟩), _, rfl⟩
   ·exact ⟨_, _, _, rfl, fun _ _ HL => HL.tail (.inl rfl), _, rfl⟩
  ·have e1 : wzz (p :: r) c = 2 := by simp [wzz, hp]
   have e2 : q6z (p :: r) c = p :: r := by simp [q6z, hp]
   rw [e1, e2]
   have hpc : (p.1 == c) = false := by simpa using hp
   clear hL e1 e2
   go_enter func278, ntmps278
   go_wp2
   go_ret2
   exact ⟨_, _, _, rfl, fun _ _ h => h, 0, rfl⟩
theorem khz {B B' : Nat} {ao ao' : Option Addr} {n n' cap cap' : Nat} {L L' : List (Int × Int)} (hL : Lab B w ao n cap L) (hL' : Lab B' w ao' n' cap' L') (hne : 0 < n + n') :
  Calls prog 277 #[.slice ao n cap, .slice ao' n' cap'] w fun e w' => e = .returned (.int .u64 (fore L L')) ∧ ∃ m, w' = w.drewN m := by
 have hnc := hL.2.1
 have hcm := hL.2.2.1.1
 have hnc' := hL'.2.1
 have hcm' := hL'.2.2.1.1
 cases L with
 | nil =>
  have h0 := hL.empty
  subst h0
  cases L' with
  | nil => exact absurd hL'.empty (by omega)
  | cons q r' =>
   obtain ⟨b, off, rfl, hbB, d0, d1, hnr⟩ := hL'.head
   subst hnr
   clear hL hL' hne
   have hz : ((r'.length : Int) + 1 == 0) = false := by rw [beq_eq_false_iff_ne]; omega
   go_enter func277, ntmps277
   go_wp2
   go_quiet (fail)
   go_wp2
   go_ret
   exact ⟨rfl, _, rfl⟩
 | cons p r =>
  obtain ⟨b, off, rfl, hbB, d0, d1, hnr⟩ := hL.head
  subst hnr
  cases L' with
  | nil =>
   have h0 := hL'.empty
   subst h0
   clear hL hL' hne
   go_enter func277, ntmps277
   go_wp2
   go_quiet (fail)
   go_wp2
   go_ret
   exact ⟨rfl, _, rfl⟩
  | cons q r' =>
   obtain ⟨b', off', rfl, hbB', d0', d1', hnr'⟩ := hL'.head
   subst hnr'
   clear hL hL' hne
   have hz : ((r'.length : Int) + 1 == 0) = false := by rw [beq_eq_false_iff_ne]; omega
   by_cases hpq : p.1 < q.1
   ·have e1 : Hid (fore (p :: r) (q :: r') = p.1) := by show fore (p :: r) (q :: r') = p.1; simp [fore, hpq]
    go_enter func277, ntmps277
    go_wp2
    go_quiet (fail)
    go_wp2
    go_ret
    exact ⟨by rw [e1.out]; rfl, _, rfl⟩
   ·have e1 : Hid (fore (p :: r) (q :: r') = q.1) := by show fore (p :: r) (q :: r') = q.1; simp [fore, hpq]
    go_enter func277, ntmps277
    go_wp2
    go_quiet (fail)
    go_wp2
    go_ret
    exact ⟨by rw [e1.out]; rfl, _, rfl⟩
end
section
theorem vpz (L : List (Int × Int)) (c : Int) : (q6z L c).length ≤ L.length := by
 cases L with
 | nil => simp [q6z]
 | cons p r => simp only [q6z]; split <;> simp
variable {A C : List (Int × Int)}
theorem wMz (h : 0 < A.length + C.length) : (q6z A (fore A C)).length + (q6z C (fore A C)).length < A.length + C.length := by
 have hA := vpz A (fore A C)
 have hC := vpz C (fore A C)
 cases A with
 | nil =>
  cases C with
  | nil => simp at h
  | cons q s => simp [fore, q6z]
 | cons p r =>
  cases C with
  | nil => simp [fore, q6z]
  | cons q s =>
   by_cases hpq : p.1 < q.1
   ·have hf : fore (p :: r) (q :: s) = p.1 := by simp [fore, hpq]
    rw [hf] at hC ⊢
    have : q6z (p :: r) p.1 = r := by simp [q6z]
    rw [this]; simp at hC ⊢; omega
   ·have hf : fore (p :: r) (q :: s) = q.1 := by simp [fore, hpq]
    rw [hf] at hA ⊢
    have : q6z (q :: s) q.1 = s := by simp [q6z]
    rw [this]; simp at hA ⊢; omega
def klz : Nat → List (Int × Int) → List (Int × Int) → List (Int × (Int × Int))
 | 0, _, _ => []
 | k + 1, A, C => if A.length + C.length = 0 then [] else (fore A C, (wzz A (fore A C), wzz C (fore A C))) :: klz k (q6z A (fore A C)) (q6z C (fore A C))
def both (A C : List (Int × Int)) : List (Int × (Int × Int)) := klz (A.length + C.length) A C
theorem ghz : ∀ (k m : Nat) (A C : List (Int × Int)), A.length + C.length ≤ k → A.length + C.length ≤ m → klz k A C = klz m A C := by
 intro k
 induction k with
 | zero =>
  intro m A C h _
  have h0 : A.length + C.length = 0 := by omega
  cases m with
  | zero => rfl
  | succ m => simp only [klz]; rw [if_pos h0]
 | succ k ih =>
  intro m A C h hm
  by_cases h0 : A.length + C.length = 0
  ·cases m with
   | zero => simp only [klz]; rw [if_pos h0]
   | succ m => simp only [klz]; rw [if_pos h0, if_pos h0]
  ·cases m with
   | zero => omega
   | succ m =>
    have hl := wMz (A := A) (C := C) (by omega)
    simp only [klz]
    rw [if_neg h0, if_neg h0, ih m _ _ (by omega) (by omega)]
theorem both_nil (h : A.length + C.length = 0) : both A C = [] := by unfold both; rw [h]; rfl
theorem k8z (h : 0 < A.length + C.length) : both A C = (fore A C, (wzz A (fore A C), wzz C (fore A C))) :: both (q6z A (fore A C)) (q6z C (fore A C)) := by
 have hl := wMz h
 unfold both
 obtain ⟨j, hj⟩ : ∃ j, A.length + C.length = j + 1 := ⟨A.length + C.length - 1, by omega⟩
 rw [hj]
 simp only [klz]
 rw [if_neg (by omega), ghz j _ _ _ (by omega) (lrz _)]
end
section
open Go.RowKit Go.Shelf
attribute [local go_sem] Oper.semAt_some
def encP (x : Int × (Int × Int)) : Array Value := #[.int .u64 x.1, .agg #[.int .i64 x.2.1, .int .i64 x.2.2]]
variable {A C : List (Int × Int)} {ao ao' : Option Addr} {k k' cap cap' : Nat}
theorem both1_in (n : Nat) (hn : 1 ≤ n) (l Ba Bb : Nat) (D : Nat → Prop) (J Jx : List (Int × (Int × Int)) → World → Prop)
  (hY : ∀ pre x W, J pre W → pre.length < (both A C).length → YieldAt Fence.wide (n - 1) prog l (encP x) W fun e W' =>
   (e = .returned (.bool true) ∧ J (pre ++ [x]) W' ∧ Keeps D W W') ∨ (e = .returned (.bool false) ∧ Jx (pre ++ [x]) W'))
  (W : World) (hJ : AbidesFrom W.heap.size J) (hD : ∀ b, D b → b < W.heap.size) (hBa : W.cell? ⟨Ba, 0, none⟩ = some (.slice ao k cap)) (hBb : W.cell? ⟨Bb, 0, none⟩ = some (.slice ao' k' cap'))
  (hA : LabD D W ao k cap A) (hC : LabD D W ao' k' cap' C) (h0 : J [] W) :
  CallsIn Fence.wide n prog 276 #[.func (.yield l) #[] #[], .pointer (some ⟨Ba, 0, none⟩), .pointer (some ⟨Bb, 0, none⟩)] W fun e W' => (∃ v, e = .returned v) ∧
   ((∃ ys, ys = both A C ∧ J ys W') ∨ (∃ pre, pre <+: both A C ∧ Jx pre W')) := by
 have hsd : ∀ (w : World) (m : Nat) (a : Addr) (v : Value), (w.drewN m).setCell a v = (w.setCell a v).drewN m := fun _ _ _ _ => rfl
 refine callsIn_of_wp func276 rfl trivial ?_ rfl
 simp only [ntmps276, List.size_toArray, List.length_cons, List.length_nil, Nat.reduceAdd, Nat.reduceSub, Array.replicate_succ, Array.replicate_zero, List.push_toArray, List.append_toArray, List.nil_append, List.cons_append]
 gi_wp2
 gi_region
 gi_wp2
 gi_loopw [4, 5] (fun va vb wr => ∃ (pre : List (Int × (Int × Int))) (ra rb : List (Int × Int)) (a1 : Option Addr) (n1 c1 : Nat) (a2 : Option Addr) (n2 c2 : Nat), va = .slice a1 n1 c1 ∧ vb = .slice a2 n2 c2 ∧ both A C = pre ++ both ra rb ∧ LabD D wr a1 n1 c1 ra ∧ LabD D wr a2 n2 c2 rb ∧ J pre wr ∧ W.heap.size ≤ wr.heap.size)
  (fun va vb _ => lenOf va + lenOf vb)
 case atStart => exact ⟨[], A, C, _, _, _, _, _, _, rfl, rfl, rfl, hA, hC, hJ _ W _ none h0 (show W.grownBy W.drew none from ⟨rfl, rfl, rfl, lrz _, fun _ _ _ => rfl⟩) (fun r e => by cases e), lrz _⟩
 case round =>
  obtain ⟨pre, ra, rb, a1, n1, c1, a2, n2, c2, rfl, rfl, hx, hla, hlb, hJs, hsz⟩ := hrel
  by_cases h0 : n1 + n2 = 0
  ·have h1 : n1 = 0 := by omega
   have h2 : n2 = 0 := by omega
   subst h1 h2
   have hb : Hid (both ra rb = []) := both_nil (by have := hla.1; have := hlb.1; omega)
   gi_wp2
   go_end0
   exact ⟨⟨_, rfl⟩, .inl (by rw [hb.out]; simpa using hJs)⟩
  ·have hl1 := hla.1
   have hl2 := hlb.1
   have hbc : Hid (both ra rb = _) := k8z (A := ra) (C := rb) (by omega)
   have HLA : Hid (LabD D wr a1 n1 c1 ra) := hla
   have hDr : ∀ b, D b → b < wr.heap.size := fun b hb => ltz (hD b hb) hsz
   have hka : ∀ o, Keeps D wr (wr.alloc o) := fun o => ⟨by simp, fun b hb => Below.heap_alloc wr o b (hDr b hb)⟩
   have hkd : ∀ o m, Keeps D wr ((wr.alloc o).drewN m) := fun o m => hka o
   have HLB : Hid (LabD D wr a2 n2 c2 rb) := hlb
   by_cases hp1 : 0 < n1
   ·gi_wp2_with (first | (refine ⟨trivial, ?_⟩; gi_at_call 277; refine (callsIn_wide.2 (khz ((hla.later (hka _)).lab hDr) ((hlb.later (hka _)).lab hDr) (by omega))).mono ?_; rintro e w' ⟨rfl, m1, rfl⟩) | (refine ⟨trivial, ?_⟩; gi_at_call 278; refine (callsIn_wide.2 (koz _ ((hla.later (hkd _ _)).lab hDr))).mono ?_; clear hla; rintro e w' ⟨a1', n1', c1', rfl, hla', m2, rfl⟩) | (refine ⟨trivial, ?_⟩; gi_at_call 278; refine (callsIn_wide.2 (koz _ ((hlb.later (hkd _ _)).lab hDr))).mono ?_; clear hlb; rintro e w' ⟨a2', n2', c2', rfl, hlb', m3, rfl⟩))
    obtain ⟨fn, tmps, assign, body, hy, hR⟩ := hY pre (fore ra rb, (wzz ra (fore ra rb), wzz rb (fore ra rb))) ((wr.alloc (.cells #[.int .i64 (wzz ra (fore ra rb)), .int .i64 (wzz rb (fore ra rb))] 251)).drewN (m1 + m2 + m3))
     (hJ pre wr _ none hJs (show wr.grownBy _ none from (World.grownBy_alloc wr _ none).trans ⟨rfl, rfl, rfl, lrz _, fun _ _ _ => rfl⟩) (fun r e => by cases e)) (by rw [hx, hbc.out]; simp)
    dsimp only [encP] at hy
    rw [hy]
    gi_wp2
    refine hR.mono ?_
    rintro e W3 (⟨rfl, hJ3, hk3⟩ | ⟨rfl, hJx3⟩)
    ·gi_wp2
     go_roundw
     case rel =>
      have hk := (hkd (.cells #[.int .i64 (wzz ra (fore ra rb)), .int .i64 (wzz rb (fore ra rb))] 251) (m1 + m2 + m3)).trans hk3
      exact ⟨_, q6z ra (fore ra rb), q6z rb (fore ra rb), _, _, _, _, _, _, rfl, rfl, by rw [hx, hbc.out]; simp, hla' _ _ (HLA.out.later hk), hlb' _ _ (HLB.out.later hk), hJ3, Nat.le_trans hsz hk.1⟩
     case measure =>
      have e1 := (hla' _ _ HLA.out).1
      have e2 := (hlb' _ _ HLB.out).1
      have e3 := wMz (A := ra) (C := rb) (by omega)
      simp [lenOf]; omega
    ·gi_wp2
     refine bodyPost_ret (results_none rfl _ _ _) rfl ?_
     exact ⟨⟨_, rfl⟩, .inr ⟨_, ⟨both (q6z ra (fore ra rb)) (q6z rb (fore ra rb)), by rw [hx, hbc.out]; simp⟩, hJx3⟩⟩
   ·have hp0 : n1 = 0 := by omega
    have hp2 : 0 < n2 := by omega
    subst hp0
    gi_wp2_with (first | (refine ⟨trivial, ?_⟩; gi_at_call 277; refine (callsIn_wide.2 (khz ((hla.later (hka _)).lab hDr) ((hlb.later (hka _)).lab hDr) (by omega))).mono ?_; rintro e w' ⟨rfl, m1, rfl⟩) | (refine ⟨trivial, ?_⟩; gi_at_call 278; refine (callsIn_wide.2 (koz _ ((hla.later (hkd _ _)).lab hDr))).mono ?_; clear hla; rintro e w' ⟨a1', n1', c1', rfl, hla', m2, rfl⟩) | (refine ⟨trivial, ?_⟩; gi_at_call 278; refine (callsIn_wide.2 (koz _ ((hlb.later (hkd _ _)).lab hDr))).mono ?_; clear hlb; rintro e w' ⟨a2', n2', c2', rfl, hlb', m3, rfl⟩))
    obtain ⟨fn, tmps, assign, body, hy, hR⟩ := hY pre (fore ra rb, (wzz ra (fore ra rb), wzz rb (fore ra rb))) ((wr.alloc (.cells #[.int .i64 (wzz ra (fore ra rb)), .int .i64 (wzz rb (fore ra rb))] 251)).drewN (m1 + m2 + m3))
     (hJ pre wr _ none hJs (show wr.grownBy _ none from (World.grownBy_alloc wr _ none).trans ⟨rfl, rfl, rfl, lrz _, fun _ _ _ => rfl⟩) (fun r e => by cases e)) (by rw [hx, hbc.out]; simp)
    dsimp only [encP] at hy
    rw [hy]
    gi_wp2
    refine hR.mono ?_
    rintro e W3 (⟨rfl, hJ3, hk3⟩ | ⟨rfl, hJx3⟩)
    ·gi_wp2
     go_roundw
     case rel =>
      have hk := (hkd (.cells #[.int .i64 (wzz ra (fore ra rb)), .int .i64 (wzz rb (fore ra rb))] 251) (m1 + m2 + m3)).trans hk3
      exact ⟨_, q6z ra (fore ra rb), q6z rb (fore ra rb), _, _, _, _, _, _, rfl, rfl, by rw [hx, hbc.out]; simp, hla' _ _ (HLA.out.later hk), hlb' _ _ (HLB.out.later hk), hJ3, Nat.le_trans hsz hk.1⟩
     case measure =>
      have e1 := (hla' _ _ HLA.out).1
      have e2 := (hlb' _ _ HLB.out).1
      have e3 := wMz (A := ra) (C := rb) (by omega)
      simp [lenOf]; omega
    ·gi_wp2
     refine bodyPost_ret (results_none rfl _ _ _) rfl ?_
     exact ⟨⟨_, rfl⟩, .inr ⟨_, ⟨both (q6z ra (fore ra rb)) (q6z rb (fore ra rb)), by rw [hx, hbc.out]; simp⟩, hJx3⟩⟩
theorem uzz (ao ao' : Option Addr) (n n' cap cap' : Nat) (w : World) :
  Calls prog 259 #[.slice ao n cap, .slice ao' n' cap'] w fun e w' => e = .returned (.func (.func 276) #[] #[.pointer (some ⟨w.heap.size, 0, none⟩), .pointer (some ⟨w.heap.size + 1, 0, none⟩)]) ∧
   w' = (w.alloc (.cells #[.slice ao n cap] 39)).alloc (.cells #[.slice ao' n' cap'] 39) := by
 go_enter func259, ntmps259
 go_wp2
 go_ret
 exact ⟨rfl, rfl⟩
theorem jBz (n : Nat) (hn : 1 ≤ n) (Ba Bb : Nat) (D : Nat → Prop) (w : World) (hba : Ba < w.heap.size) (hbb : Bb < w.heap.size) (hD : ∀ b, D b → b < w.heap.size)
  (hBa : w.cell? ⟨Ba, 0, none⟩ = some (.slice ao k cap)) (hBb : w.cell? ⟨Bb, 0, none⟩ = some (.slice ao' k' cap')) (hA : LabD D w ao k cap A) (hC : LabD D w ao' k' cap' C) :
  SeqStopsK Fence.wide n prog 276 #[.pointer (some ⟨Ba, 0, none⟩), .pointer (some ⟨Bb, 0, none⟩)] encP (Keeps D) (fun ys => ys = both A C) (fun pre => pre <+: both A C) (both A C).length w := fun l J Jx W hW hJ _ hY h0 =>
 have hk : Keeps D w W := ⟨hW.size, fun b hb => hW.block b (hD b hb)⟩
 both1_in n hn l Ba Bb D J Jx hY W hJ (fun b hb => ltz (hD b hb) hW.size) ((hW.cell (p := ⟨Ba, 0, none⟩) hba).trans hBa) ((hW.cell (p := ⟨Bb, 0, none⟩) hbb).trans hBb) (hA.later hk) (hC.later hk) h0
theorem keepsK_b {D : Nat → Prop} {w : World} (hD : ∀ b, D b → b < w.heap.size) (W : World) (l : Nat) (o o' : Obj) (hl : w.heap.size ≤ l) (h : W.heap[l]? = some o) (_ : o.isCells = false) (_ : o.isWalk = false) : Keeps D W (W.putObj l o') :=
 ⟨(grownBy_putObj' W l o').size, fun b hb => World.putObj_heap_other (fun e => by have := hD b hb; omega)⟩
theorem keepsK_t {D : Nat → Prop} {A B C : World} (h : Keeps D A B) (k : Keeps D B C) : Keeps D A C := h.trans k
def Two (W : World) (B : Nat) (t : TypeId) (u v : Value) : Prop := W.heap[B]? = some (.cells #[u, v] t (0, 0))
variable {u v : Value} {t : TypeId} {B : Nat} {W : World}
theorem Two.lt (h : Two W B t u v) : B < W.heap.size := (Array.getElem?_eq_some_iff.1 h).1
theorem Two.cell0 (h : Two W B t u v) : W.cell? ⟨B, 0, none⟩ = some u := by simp [World.cell?, show W.heap[B]? = _ from h]
theorem Two.cell1 (h : Two W B t u v) : W.cell? ⟨B, 1, none⟩ = some v := by simp [World.cell?, show W.heap[B]? = _ from h]
theorem Two.new (W : World) (t : TypeId) (u v : Value) : Two (W.alloc (.cells #[u, v] t)) W.heap.size t u v := World.alloc_heap_new W _
theorem Two.kept {W W' : World} {row : Option Nat} (h : Two W B t u v) (hg : W.grownBy W' row) (hne : some B ≠ row) : Two W' B t u v := (hg.block B h.lt hne).trans h
theorem two_own {β : Type} (B : Nat) (t : TypeId) (f g : β → Value) : Own (fun s W => Two W B t (f s) (g s)) := fun s X Y row hs hg hrow =>
 hs.kept hg (fun e' => by obtain ⟨o, ho, hc⟩ := hrow B e'.symm; rw [show X.heap[B]? = _ from hs] at ho; cases ho; cases hc)
def leqB (A C : List (Int × Int)) : Bool := (both A C).all fun x => Lv.leq x.2.1 x.2.2
theorem kuz {B : Nat} {w : World} (hA : Lab w.heap.size w ao k cap A) (hC : Lab w.heap.size w ao' k' cap' C) :
  Calls prog 223 #[.slice ao k cap, .slice ao' k' cap'] w fun e w' => e = .returned (.bool (leqB A C)) ∧ Below w.heap.size w w' := by
 refine (callsIn_wide (n := 5)).1 ?_
 refine callsIn_of_wp_marks func223 rfl trivial ?_ rfl
 simp only [ntmps223, List.size_toArray, List.length_cons, List.length_nil, Nat.reduceAdd, Nat.reduceSub, Array.replicate_succ, Array.replicate_zero, List.push_toArray, List.append_toArray, List.nil_append, List.cons_append]
 gi_wp2_with (refine ⟨trivial, ?_⟩; gi_at_call 259; refine (callsIn_wide.2 (uzz _ _ _ _ _ _ _)).mono ?_; rintro e w' ⟨rfl, rfl⟩)
 have bR := ((Boxed.new w 4 (.bool false)).alloc (.cells #[.slice ao k cap] 39)).alloc (.cells #[.slice ao' k' cap'] 39)
 have bA := (Boxed.new (w.alloc (.cells #[.bool false] 4)) 39 (.slice ao k cap)).alloc (.cells #[.slice ao' k' cap'] 39)
 have bC := Boxed.new ((w.alloc (.cells #[.bool false] 4)).alloc (.cells #[.slice ao k cap] 39)) 39 (.slice ao' k' cap')
 simp only [World.size_alloc] at bA bC
 have hB0 : Below w.heap.size w (((w.alloc (.cells #[.bool false] 4)).alloc (.cells #[.slice ao k cap] 39)).alloc (.cells #[.slice ao' k' cap'] 39)) := (((brz _ w).alloc (lrz _) _).alloc (by simp) _).alloc (by simp; omega) _
 have hsz : (((w.alloc (.cells #[.bool false] 4)).alloc (.cells #[.slice ao k cap] 39)).alloc (.cells #[.slice ao' k' cap'] 39)).heap.size = w.heap.size + 3 := by simp
 obtain ⟨W0, hW0⟩ : ∃ W0, ((w.alloc (.cells #[.bool false] 4)).alloc (.cells #[.slice ao k cap] 39)).alloc (.cells #[.slice ao' k' cap'] 39) = W0 := ⟨_, rfl⟩
 rw [hW0] at bR bA bC hB0 hsz ⊢
 clear hW0
 refine wpIn_rangeFunc_ownH rfl (by omega) (gf := 276) (lb := #[.pointer (some ⟨w.heap.size + 1, 0, none⟩), .pointer (some ⟨w.heap.size + 1 + 1, 0, none⟩)]) rfl trivial (enters_of func276 (by kernel_rfl) rfl)
  (jBz _ (by omega) (w.heap.size + 1) (w.heap.size + 1 + 1) (fun b => b < w.heap.size) W0 (by omega) (by omega) (fun b hb => by omega) bA.cell bC.cell (hA.later hB0) (hC.later hB0)) keepsK_t (keepsK_b (fun b hb => by omega)) (brz _ _) (fun _ => rfl)
  (fun pre W => ((pre.all fun x => Lv.leq x.2.1 x.2.2) = true ∧ Boxed W w.heap.size 4 (.bool false)) ∧ Below w.heap.size w W)
  (fun c pre W => (c = .ret ∧ (pre.all fun x => Lv.leq x.2.1 x.2.2) = false ∧ Boxed W w.heap.size 4 (.bool false)) ∧ Below w.heap.size w W)
  (OwnFrom.and (OwnFrom.and (ownFrom_pure _ _) (Own.from (boxed_own _ _ _) _)) (ownFrom_below (lrz _) (by omega)))
  (fun c => OwnFrom.and (OwnFrom.and (ownFrom_pure _ _) (OwnFrom.and (ownFrom_pure _ _) (Own.from (boxed_own _ _ _) _))) (ownFrom_below (lrz _) (by omega)))
  ⟨⟨rfl, bR⟩, hB0⟩
  (fun x a' W => ∃ Bx, w.heap.size < Bx ∧ Two W Bx 251 (.int .i64 x.2.1) (.int .i64 x.2.2) ∧ a' = { tmps := #[.slice ao k cap, .slice ao' k' cap', undef, undef, .pointer (some ⟨w.heap.size, 0, none⟩), undef, .pointer (some ⟨Bx, 0, none⟩), .slice ao k cap, .slice ao' k' cap', .func (.func 276) #[] #[.pointer (some ⟨w.heap.size + 1, 0, none⟩), .pointer (some ⟨w.heap.size + 1 + 1, 0, none⟩)], .int .u64 x.1, .agg #[.int .i64 x.2.1, .int .i64 x.2.2], undef, undef, undef, undef, undef, undef], defers := [] })
  (fun x a' _ X Y row hs hg hr => by obtain ⟨Bx, h1, h2, h3⟩ := hs; exact ⟨Bx, h1, two_own Bx _ (fun (_ : Unit) => Value.int .i64 x.2.1) (fun _ => Value.int .i64 x.2.2) () X Y row h2 hg (fun r e => (hr r e).2), h3⟩)
  ?assign ?body ?done ?stop
 case assign =>
  rintro l pre x W K ⟨⟨hp, bR1⟩, hB1⟩ hK
  dsimp only [encP]
  gi_wp2
  exact hK _ _ ((KeepsOthers.alloc _ _).from _) (wrz ((brz _ W).alloc hB1.size _)) ⟨⟨hp, bR1.alloc _⟩, hB1.alloc hB1.size _⟩ ⟨W.heap.size, bR1.lt, Two.new W _ _ _, rfl⟩
 case body =>
  rintro l pre x a' W hl ⟨r, hr⟩ ⟨⟨hp, bR1⟩, hB1⟩ ⟨Bx, hBx, bX, rfl⟩ hlt
  have c0 := bX.cell0
  have c1 := bX.cell1
  have cR := bR1.cell
  have fR := bR1.frozen
  cases hq : Lv.leq x.2.1 x.2.2 with
  | false =>
   have hP : Hid (((pre ++ [x]).all fun x => Lv.leq x.2.1 x.2.2) = false) := by show ((pre ++ [x]).all fun x => Lv.leq x.2.1 x.2.2) = false; simp [hq]
   clear hp
   gi_wp2_with (refine ⟨trivial, ?_⟩; gi_at_call 260; refine (CallsIn.inRound l (callsIn_wide.2 (baz _ _ _))).mono ?_; rintro e w' ⟨rfl, rfl⟩)
   exact ⟨(KeepsOthers.setCell _ _ _).from _, ⟨rfl, hP.out, bR1.set _⟩, hB1.setCell (p := ⟨w.heap.size, 0, none⟩) (lrz _) _⟩
  | true =>
   have hP : Hid (((pre ++ [x]).all fun x => Lv.leq x.2.1 x.2.2) = true) := by show ((pre ++ [x]).all fun x => Lv.leq x.2.1 x.2.2) = true; simp [hq]; simpa using hp
   clear hp
   gi_wp2_with (refine ⟨trivial, ?_⟩; gi_at_call 260; refine (CallsIn.inRound l (callsIn_wide.2 (baz _ _ _))).mono ?_; rintro e w' ⟨rfl, rfl⟩)
   exact ⟨KeepsFrom.refl _ _, Keeps.refl _ _, ⟨hP.out, bR1⟩, hB1⟩
 case done =>
  rintro D ys W hD rfl ⟨⟨hp, bR1⟩, hB⟩ hK
  have hr : Hid (leqB A C = true) := hp
  have cR := bR1.cell
  have fR := bR1.frozen
  clear hp
  gi_wp2
  have hK' := (KeepsOthers.setCell W ⟨w.heap.size, 0, none⟩ (.bool true)).same D _ hK rfl
  refine ⟨by simp, .inl ⟨_, _, rfl, run_takeDeferred hK', ?_⟩⟩
  have hc5 := cell_kept (bR1.set (.bool true)).cell (grownBy_putObj' _ D (.deferred none)) (fun r e => by cases e; exact ⟨_, hK', rfl⟩)
  refine ⟨.bool true, ?_, by rw [hr.out], (hB.setCell (p := ⟨w.heap.size, 0, none⟩) (lrz _) _).trans (belowK_b (w := w) (lrz _) _ D _ _ (by omega) hK' rfl rfl)⟩
  simp [results, Tryz.f223, go_sem, hc5]
 case stop =>
  rintro D c pre W hD hpre ⟨⟨rfl, hin, bR1⟩, hB⟩ hK
  have hr : Hid (leqB A C = false) := by
   show (both A C).all _ = false
   rw [List.all_eq_false] at hin ⊢
   obtain ⟨x, hx, hy⟩ := hin
   exact ⟨x, hpre.subset hx, hy⟩
  clear hin
  gi_wp2
  refine ⟨by simp, .inl ⟨_, _, rfl, run_takeDeferred hK, ?_⟩⟩
  have hc5 := cell_kept bR1.cell (grownBy_putObj' _ D (.deferred none)) (fun r e => by cases e; exact ⟨_, hK, rfl⟩)
  refine ⟨.bool false, ?_, by rw [hr.out], hB.trans (belowK_b (w := w) (lrz _) W D _ _ (by omega) hK rfl rfl)⟩
  simp [results, Tryz.f223, go_sem, hc5]
end
section
open Go.ChangeShapes Go.WideShapes Go.ChangeAt Go.RowKit
variable {L : List (Int × Int)} {w : World}
theorem gNz {B : Nat} {ao : Option Addr} {n cap : Nat} (hL : Lab B w ao n cap L) (hB : B ≤ w.heap.size) :
  Calls prog 163 #[.slice ao n cap] w fun e w' => e = .returned (.bool (fitB L)) ∧ Below w.heap.size w w' := by
 have hn := hL.1
 have hnc := hL.2.1
 have hcm := hL.2.2.1.1
 go_enter func163, ntmps163
 go_wp2
 go_loopw [3] (fun i wr => ∃ k : Nat, k ≤ n ∧ i = .int .i64 k ∧ (∀ j, j < k → okAt L j = true) ∧ Below w.heap.size w wr) (fun i _ => n - (intOf i).toNat)
 case atStart => exact ⟨0, Nat.zero_le _, rfl, fun j hj => absurd hj (by omega), brz _ _⟩
 case round =>
  obtain ⟨k, hk, rfl, hg, hb⟩ := hrel
  by_cases hkn : k < n
  ·obtain ⟨b, off, x, y, rfl, hbB, d0, d1, hxy⟩ := hL.at (hb.mono hB) hkn
   have hG : Hid (∀ j, j < k → okAt L j = true) := hg
   have hkn' : (k : Int) < n := by omega
   clear hg
   cases hf : Lv.fit y with
   | false =>
    have hr : Hid (fitB L = false) := fitB_no (k := k) (by omega) (y9z hxy.out hf)
    clear hL
    go_wp2
    go_quiet (first | (go_at_call 202; refine Calls.quiet_of_same (rfit_any _ _)))
    go_wp2
    go_ret
    exact ⟨by rw [hr.out]; rfl, below_drewN hb _⟩
   | true =>
    by_cases h2 : y = 2
    ·have hr : Hid (fitB L = false) := fitB_no (k := k) (by omega) (y8z hxy.out h2)
     clear hL
     subst h2
     go_wp2
     go_quiet (first | (go_at_call 202; refine Calls.quiet_of_same (rfit_any _ _)))
     go_wp2
     go_ret
     exact ⟨by rw [hr.out]; rfl, below_drewN hb _⟩
    ·have h2' : (y == 2) = false := by simpa using h2
     by_cases h0 : k = 0
     ·subst h0
      have ho : Hid (okAt L 0 = true) := vDz hxy.out hf h2
      simp only [Nat.zero_mul, Nat.add_zero] at d0 d1
      clear hL
      go_wp2
      go_quiet (first | (go_at_call 202; refine Calls.quiet_of_same (rfit_any _ _)))
      go_wp2
      go_roundw
      case rel => exact ⟨1, by omega, by go_num, all_succ hG.out ho.out, below_drewN hb _⟩
      case measure => simp [intOf]; omega
     ·obtain ⟨m, rfl⟩ : ∃ m, k = m + 1 := ⟨k - 1, by omega⟩
      obtain ⟨b', off', x', y', hbo, _, d2, _, hxy'⟩ := hL.at (hb.mono hB) (i := m) (by omega)
      simp only [Option.some.injEq, Addr.mk.injEq, and_true] at hbo
      obtain ⟨rfl, rfl⟩ := hbo
      have hwm : IntKind.i64.wrap (m : Int) = m := wrapN (by omega)
      have hmn : (m : Int) < n := by omega
      by_cases hxx : x ≤ x'
      ·have hr : Hid (fitB L = false) := fitB_no (k := m + 1) (by omega) (uaz hxy.out hxy'.out (by omega) hxx)
       clear hL
       go_wp2
       go_quiet (first | (go_at_call 202; refine Calls.quiet_of_same (rfit_any _ _)))
       go_wp2
       go_ret
       exact ⟨by rw [hr.out]; rfl, below_drewN hb _⟩
      ·have ho : Hid (okAt L (m + 1) = true) := y7z hxy.out hf h2 hxy'.out (by omega)
       clear hL
       go_wp2
       go_quiet (first | (go_at_call 202; refine Calls.quiet_of_same (rfit_any _ _)))
       go_wp2
       go_roundw
       case rel => exact ⟨m + 1 + 1, by omega, by go_num, all_succ hG.out ho.out, below_drewN hb _⟩
       case measure => simp [intOf]; omega
  ·have hr : Hid (fitB L = true) := fitB_yes (fun j hj => hg j (by omega))
   clear hg hL
   go_wp2
   go_ret
   exact ⟨by rw [hr.out]; rfl, hb⟩
variable {ao ao' : Option Addr} {n n' cap cap' : Nat}
theorem same_any {B B' : Nat} {L L' : List (Int × Int)} (hL : Lab B w ao n cap L) (hB : B ≤ w.heap.size) (hL' : Lab B' w ao' n' cap' L') (hB' : B' ≤ w.heap.size) :
  Calls prog 212 #[.slice ao n cap, .slice ao' n' cap'] w fun e w' => e = .returned (.bool (sameB L L')) ∧ Below w.heap.size w w' := by
 have hn := hL.1
 have hnc := hL.2.1
 have hcm := hL.2.2.1.1
 have hn' := hL'.1
 by_cases hnn : n = n'
 ·subst hnn
  go_enter func212, ntmps212
  go_wp2
  go_loopw [13] (fun i wr => ∃ k : Nat, k ≤ n ∧ i = .int .i64 k ∧ (∀ j, j < k → L.getD j (0, 0) = L'.getD j (0, 0)) ∧ Below w.heap.size w wr) (fun i _ => n - (intOf i).toNat)
  case atStart => exact ⟨0, Nat.zero_le _, rfl, fun j hj => absurd hj (by omega), brz _ _⟩
  case round =>
   obtain ⟨k, hk, rfl, hg, hb⟩ := hrel
   by_cases hkn : k < n
   ·obtain ⟨b, off, x, y, rfl, hbB, d0, d1, hxy⟩ := hL.at (hb.mono hB) hkn
    obtain ⟨b', off', x', y', rfl, hbB', d0', d1', hxy'⟩ := hL'.at (hb.mono hB') hkn
    have hG : Hid (∀ j, j < k → L.getD j (0, 0) = L'.getD j (0, 0)) := hg
    clear hg hL hL'
    have hkn' : (k : Int) < n := by omega
    by_cases hx : x = x'
    ·by_cases hy : y = y'
     ·subst hx hy
      have ho : Hid (L.getD k (0, 0) = L'.getD k (0, 0)) := hxy.out.trans hxy'.out.symm
      go_wp2
      go_quiet (fail)
      go_wp2
      go_roundw
      case rel => exact ⟨k + 1, by omega, by go_num, bIz hG.out ho.out, below_drewN hb _⟩
      case measure => simp [intOf]; omega
     ·subst hx
      have hr : Hid (sameB L L' = false) := sameB_at hxy.out hxy'.out (fun e => hy (by simpa using e))
      go_wp2
      go_quiet (fail)
      go_wp2
      go_ret
      exact ⟨by rw [hr.out]; rfl, below_drewN hb _⟩
    ·have hr : Hid (sameB L L' = false) := sameB_at hxy.out hxy'.out (fun e => hx (by simp at e; exact e.1))
     go_wp2
     go_quiet (fail)
     go_wp2
     go_ret
     exact ⟨by rw [hr.out]; rfl, below_drewN hb _⟩
   ·have hr : Hid (sameB L L' = true) := sameB_all (by omega) (fun j hj => hg j (by omega))
    clear hg hL hL'
    go_wp2
    go_ret
    exact ⟨by rw [hr.out]; rfl, hb⟩
 ·have hr : Hid (sameB L L' = false) := sameB_len (by omega)
  have hnz : ((n : Int) == n') = false := by rw [beq_eq_false_iff_ne]; omega
  clear hL hL'
  go_enter func212, ntmps212
  go_wp2
  go_ret
  exact ⟨by rw [hr.out]; rfl, brz _ _⟩
theorem rsame_any {B B' : Nat} {L L' : List (Int × Int)} (hL : Lab B w ao n cap L) (hB : B ≤ w.heap.size) (hL' : Lab B' w ao' n' cap' L') (hB' : B' ≤ w.heap.size) :
  Calls prog 16 #[.slice ao n cap, .slice ao' n' cap'] w fun e w' => e = .returned (.bool (sameB L L')) ∧ Below w.heap.size w w' := by
 have hn := hL.1
 have hnc := hL.2.1
 have hcm := hL.2.2.1.1
 have hn' := hL'.1
 by_cases hnn : n = n'
 ·subst hnn
  go_enter func16, ntmps16
  go_wp2
  go_loopw [5] (fun i wr => ∃ k : Nat, k ≤ n ∧ i = .int .i64 k ∧ (∀ j, j < k → L.getD j (0, 0) = L'.getD j (0, 0)) ∧ Below w.heap.size w wr) (fun i _ => n - (intOf i).toNat)
  case atStart => exact ⟨0, Nat.zero_le _, rfl, fun j hj => absurd hj (by omega), brz _ _⟩
  case round =>
   obtain ⟨k, hk, rfl, hg, hb⟩ := hrel
   by_cases hkn : k < n
   ·obtain ⟨b, off, x, y, rfl, hbB, d0, d1, hxy⟩ := hL.at (hb.mono hB) hkn
    obtain ⟨b', off', x', y', rfl, hbB', d0', d1', hxy'⟩ := hL'.at (hb.mono hB') hkn
    have hG : Hid (∀ j, j < k → L.getD j (0, 0) = L'.getD j (0, 0)) := hg
    clear hg hL hL'
    have hkn' : (k : Int) < n := by omega
    by_cases hx : x = x'
    ·by_cases hy : y = y'
     ·subst hx hy
      have ho : Hid (L.getD k (0, 0) = L'.getD k (0, 0)) := hxy.out.trans hxy'.out.symm
      go_wp2
      go_quiet (fail)
      go_wp2
      go_roundw
      case rel => exact ⟨k + 1, by omega, by go_num, bIz hG.out ho.out, below_drewN hb _⟩
      case measure => simp [intOf]; omega
     ·subst hx
      have hr : Hid (sameB L L' = false) := sameB_at hxy.out hxy'.out (fun e => hy (by simpa using e))
      go_wp2
      go_quiet (fail)
      go_wp2
      go_ret
      exact ⟨by rw [hr.out]; rfl, below_drewN hb _⟩
    ·have hr : Hid (sameB L L' = false) := sameB_at hxy.out hxy'.out (fun e => hx (by simp at e; exact e.1))
     go_wp2
     go_quiet (fail)
     go_wp2
     go_ret
     exact ⟨by rw [hr.out]; rfl, below_drewN hb _⟩
   ·have hr : Hid (sameB L L' = true) := sameB_all (by omega) (fun j hj => hg j (by omega))
    clear hg hL hL'
    go_wp2
    go_ret
    exact ⟨by rw [hr.out]; rfl, hb⟩
 ·have hr : Hid (sameB L L' = false) := sameB_len (by omega)
  have hnz : ((n : Int) == n') = false := by rw [beq_eq_false_iff_ne]; omega
  clear hL hL'
  go_enter func16, ntmps16
  go_wp2
  go_ret
  exact ⟨by rw [hr.out]; rfl, brz _ _⟩
def wl (c l : Int) : Bool → List (Int × Int) → List (Int × Int)
 | d, [] => if d then [] else [(c, l)]
 | d, p :: r => (if !d && decide (c < p.1) then [(c, l)] else []) ++ ((if p.1 = c then [] else [p]) ++ wl c l (d || decide (c < p.1)) r)
def wiz (L : List (Int × Int)) (c l : Int) : List (Int × Int) := wl c l (l == 2) L
theorem wl_drop {k : Nat} {x y : Int} (h : k < L.length) (e : L.getD k (0, 0) = (x, y)) (c l : Int) (d : Bool) :
  wl c l d (L.drop k) = (if !d && decide (c < x) then [(c, l)] else []) ++ ((if x = c then [] else [(x, y)]) ++ wl c l (d || decide (c < x)) (L.drop (k + 1))) := by
 have e' : L[k] = (x, y) := by simpa [List.getD_eq_getElem?_getD, List.getElem?_eq_getElem h] using e
 rw [List.drop_eq_getElem_cons h, e']
 rfl
theorem wl_len (c l : Int) : ∀ (L : List (Int × Int)) (d : Bool), (wl c l d L).length ≤ L.length + (if d then 0 else 1) := by
 intro L
 induction L with
 | nil => intro d; cases d <;> simp [wl]
 | cons p r ih =>
  intro d
  have h := ih (d || decide (c < p.1))
  simp only [wl, List.length_append, List.length_cons]
  cases d <;> by_cases h1 : c < p.1 <;> by_cases h2 : p.1 = c <;> simp [h1, h2] at h ⊢ <;> omega
theorem jnz (L : List (Int × Int)) (c l : Int) : (wiz L c l).length ≤ L.length + 1 := by
 have h := wl_len c l L (l == 2)
 unfold wiz
 split at h <;> omega
theorem wGz {s : Nat} {w wr w1 : World} {e : TypeId} {size n : Nat} {v : Value} {xs : List Value} {o : Obj} (hb : Below s w wr) (hrow : wr.ownsRow s e size v n xs) (hg : (wr.alloc o).grownBy w1 v.ownBlock) (hs : s ≤ wr.heap.size) : Below s w w1 :=
 (hb.alloc hs o).grown hg (by simp; omega) (fun j e => (hrow.lt j e).1)
theorem vvz {B : Nat} {ao : Option Addr} {n cap : Nat} (c l : Int) (hL : Lab B w ao n cap L) (hB : B ≤ w.heap.size) (hn : n < 549755813888) :
  Calls prog 166 #[.slice ao n cap, .int .u64 c, .int .i64 l] w fun e w' => ∃ ao1 n1 cap1, e = .returned (.slice ao1 n1 cap1) ∧ OwnL w.heap.size w' ao1 n1 cap1 (wiz L c l) ∧ Below w.heap.size w w' := by
 obtain ⟨i0, hi, hz0, hz1, hz2⟩ := info_parts j0z
 have hll := hL.1
 have hnc := hL.2.1
 have hcm := hL.2.2.1.1
 go_enter func166, ntmps166
 go_wp2
 go_loopw [7, 8, 9] (fun v dv i wr => ∃ (k : Nat) (d : Bool) (O : List (Int × Int)) (ao1 : Option Addr) (cap1 : Nat), k ≤ n ∧ i = .int .i64 k ∧ dv = .bool d ∧ v = .slice ao1 O.length cap1 ∧ Hid (wiz L c l = O ++ wl c l d (L.drop k)) ∧ O.length ≤ 2 * k ∧ OwnL w.heap.size wr ao1 O.length cap1 O ∧ Below w.heap.size w wr) (fun _ _ i _ => n - (intOf i).toNat)
 case atStart => exact ⟨0, _, [], none, 0, Nat.zero_le _, rfl, rfl, rfl, rfl, lrz _, OwnL.nil _ _, brz _ _⟩
 case round =>
  obtain ⟨k, d, O, ao1, cap1, hk, rfl, rfl, rfl, hO, hOl, ⟨_, hrow⟩, hb⟩ := hrel
  have hbs := hb.size
  by_cases hkn : k < n
  ·obtain ⟨b, off, x, y, rfl, hbB, d0, d1, hxy⟩ := hL.at (hb.mono hB) hkn
   have hbw : b < wr.heap.size := by omega
   have hkn' : (k : Int) < n := by omega
   have hw := wl_drop (by omega) hxy.out c l d
   obtain ⟨b', off', x', y', hao, _, c0, c1, hxy'⟩ := hL.at (brz _ _) hkn
   simp only [Option.some.injEq, Addr.mk.injEq, and_true] at hao
   obtain ⟨rfl, rfl⟩ := hao
   have hee := hxy.out.symm.trans hxy'.out
   simp only [Prod.mk.injEq] at hee
   obtain ⟨rfl, rfl⟩ := hee
   have HW : Hid (wl c l d (L.drop k) = _) := hw
   clear hL hw
   cases d with
   | true =>
    by_cases hxc : x = c
    ·subst hxc
     go_wp2
     go_roundw
     case rel => exact ⟨k + 1, true, O, _, _, by omega, by go_num, rfl, rfl, hO.out.trans (by rw [HW.out]; simp), by omega, ⟨rfl, hrow⟩, hb⟩
     case measure => simp [intOf]; omega
    ·have hxb : (x == c) = false := by simpa using hxc
     go_wp2_with (at_builtin; refine wpList_append_own _ rfl (.tmp 42) (.tmp 47) 39 rfl w.heap.size 86 i0 (.agg #[.int .u64 0, .int .i64 0]) 2 16 underlying39 hi hz0 hz1 hz2 rfl (by decide) _ _ _ rfl (hrow.alloc _) ⟨wr.heap.size, 0, none⟩ 1 1 [.int .u64 x, .int .i64 y] rfl rfl (wcz _ _ _ _) (by simp [Value.oneCell']) (by unfold maxLen; omega) (by omega) (by simp; omega) ?_; intro v1 w1 hown1 hgrow1 _; obtain ⟨g1, cp1, rfl⟩ := wbz hown1; have hb1 := wGz hb hrow hgrow1 hbs)
     go_roundw
     case rel => exact ⟨k + 1, true, O ++ [(x, y)], some ⟨g1, 0, none⟩, cp1, by omega, by go_num, rfl, by simp, hO.out.trans (by rw [HW.out]; simp [hxc]), by simp; omega, ⟨by simp, by rw [qZz]; simpa [cellsOf] using hown1⟩, hb1⟩
     case measure => simp [intOf]; omega
   | false =>
    by_cases hcx : c < x
    ·have hxc : ¬ x = c := by omega
     have hxb : (x == c) = false := by simpa using hxc
     go_wp2_with (first | (at_builtin; refine wpList_append_own _ rfl (.tmp 29) (.tmp 33) 39 rfl w.heap.size 86 i0 (.agg #[.int .u64 0, .int .i64 0]) 2 16 underlying39 hi hz0 hz1 hz2 rfl (by decide) _ _ _ rfl (hrow.alloc _) ⟨wr.heap.size, 0, none⟩ 1 1 [.int .u64 c, .int .i64 l] rfl rfl (wcz _ _ _ _) (by simp [Value.oneCell']) (by unfold maxLen; omega) (by omega) (by simp; omega) ?_; intro v1 w1 hown1 hgrow1 _; obtain ⟨g1, cp1, rfl⟩ := wbz hown1; have hb1 := wGz hb hrow hgrow1 hbs; have hbs1 := hb1.size; have hbw1 : b < w1.heap.size := (by omega); have e0 := (hb1.cell (p := ⟨b, off + k * 2, none⟩) (by show b < _; omega)).trans c0; have e1 := (hb1.cell (p := ⟨b, off + k * 2 + 1, none⟩) (by show b < _; omega)).trans c1) | (at_builtin; refine wpList_append_own _ rfl (.tmp 42) (.tmp 47) 39 rfl w.heap.size 86 i0 (.agg #[.int .u64 0, .int .i64 0]) 2 16 underlying39 hi hz0 hz1 hz2 rfl (by decide) _ _ _ rfl (hown1.alloc _) ⟨w1.heap.size, 0, none⟩ 1 1 [.int .u64 x, .int .i64 y] rfl rfl (wcz _ _ _ _) (by simp [Value.oneCell']) (by unfold maxLen; omega) (by omega) (by simp; omega) ?_; intro v2 w2 hown2 hgrow2 _; obtain ⟨g2, cp2, rfl⟩ := wbz hown2; have hb2 := wGz hb1 hown1 hgrow2 hbs1))
     go_roundw
     case rel => exact ⟨k + 1, true, O ++ [(c, l)] ++ [(x, y)], some ⟨g2, 0, none⟩, cp2, by omega, by go_num, rfl, by simp, hO.out.trans (by rw [HW.out]; simp [hxc, hcx]), by simp; omega, ⟨by simp, by rw [qZz, qZz]; simpa [cellsOf] using hown2⟩, hb2⟩
     case measure => simp [intOf]; omega
    ·by_cases hxc : x = c
     ·subst hxc
      go_wp2
      go_roundw
      case rel => exact ⟨k + 1, false, O, _, _, by omega, by go_num, rfl, rfl, hO.out.trans (by rw [HW.out]; simp), by omega, ⟨rfl, hrow⟩, hb⟩
      case measure => simp [intOf]; omega
     ·have hxb : (x == c) = false := by simpa using hxc
      go_wp2_with (at_builtin; refine wpList_append_own _ rfl (.tmp 42) (.tmp 47) 39 rfl w.heap.size 86 i0 (.agg #[.int .u64 0, .int .i64 0]) 2 16 underlying39 hi hz0 hz1 hz2 rfl (by decide) _ _ _ rfl (hrow.alloc _) ⟨wr.heap.size, 0, none⟩ 1 1 [.int .u64 x, .int .i64 y] rfl rfl (wcz _ _ _ _) (by simp [Value.oneCell']) (by unfold maxLen; omega) (by omega) (by simp; omega) ?_; intro v1 w1 hown1 hgrow1 _; obtain ⟨g1, cp1, rfl⟩ := wbz hown1; have hb1 := wGz hb hrow hgrow1 hbs)
      go_roundw
      case rel => exact ⟨k + 1, false, O ++ [(x, y)], some ⟨g1, 0, none⟩, cp1, by omega, by go_num, rfl, by simp, hO.out.trans (by rw [HW.out]; simp [hxc, hcx]), by simp; omega, ⟨by simp, by rw [qZz]; simpa [cellsOf] using hown1⟩, hb1⟩
      case measure => simp [intOf]; omega
  ·have hO' : Hid (wiz L c l = O ++ wl c l d []) := by
    have h2 : L.drop k = [] := List.drop_eq_nil_of_le (by omega)
    have h3 := hO.out
    rw [h2] at h3
    exact h3
   clear hL hO
   cases d with
   | true =>
    go_wp2
    go_ret
    exact ⟨_, _, _, rfl, by rw [hO'.out]; simp [wl]; exact ⟨rfl, hrow⟩, hb⟩
   | false =>
    go_wp2_with (at_builtin; refine wpList_append_own _ rfl (.tmp 51) (.tmp 55) 39 rfl w.heap.size 86 i0 (.agg #[.int .u64 0, .int .i64 0]) 2 16 underlying39 hi hz0 hz1 hz2 rfl (by decide) _ _ _ rfl (hrow.alloc _) ⟨wr.heap.size, 0, none⟩ 1 1 [.int .u64 c, .int .i64 l] rfl rfl (wcz _ _ _ _) (by simp [Value.oneCell']) (by unfold maxLen; omega) (by omega) (by simp; omega) ?_; intro v1 w1 hown1 hgrow1 _; obtain ⟨g1, cp1, rfl⟩ := wbz hown1; have hb1 := wGz hb hrow hgrow1 hbs)
    go_ret
    exact ⟨_, _, _, rfl, by rw [hO'.out]; exact ⟨by simp [wl], by rw [qZz]; simpa [cellsOf, wl] using hown1⟩, hb1⟩
def wWz (A C : List (Int × Int)) : Bool := (A.all fun p => Lv.leq p.2 (get C p.1)) && (C.all fun q => Lv.leq (get A q.1) q.2)
variable {f : Int × Int → Bool} {A : List (Int × Int)}
theorem all_no {k : Nat} {p : Int × Int} (h : k < A.length) (e : A.getD k (0, 0) = p) (hf : f p = false) : A.all f = false := by
 rw [List.all_eq_false]
 have e' : A[k] = p := by simpa [List.getD_eq_getElem?_getD, List.getElem?_eq_getElem h] using e
 exact ⟨p, e' ▸ List.getElem_mem h, by simp [hf]⟩
theorem bXz (h : ∀ k, k < A.length → f (A.getD k (0, 0)) = true) : A.all f = true := by
 rw [List.all_eq_true]
 intro x hx
 obtain ⟨k, hk, rfl⟩ := List.getElem_of_mem hx
 have := h k hk
 simpa [List.getD_eq_getElem?_getD, List.getElem?_eq_getElem hk] using this
theorem kOz {L L' : List (Int × Int)} (hL : Lab w.heap.size w ao n cap L) (hL' : Lab w.heap.size w ao' n' cap' L') :
  Calls prog 19 #[.slice ao n cap, .slice ao' n' cap'] w fun e w' => e = .returned (.bool (wWz L L')) ∧ Below w.heap.size w w' := by
 have hn := hL.1
 have hcm := hL.2.2.1.1
 have hnc := hL.2.1
 have hn' := hL'.1
 have hcm' := hL'.2.2.1.1
 have hnc' := hL'.2.1
 go_enter func19, ntmps19
 go_wp2
 go_loopw [5] (fun i wr => ∃ k : Nat, k ≤ n ∧ i = .int .i64 k ∧ (∀ j, j < k → Lv.leq (L.getD j (0, 0)).2 (get L' (L.getD j (0, 0)).1) = true) ∧ Below w.heap.size w wr) (fun i _ => n - (intOf i).toNat)
 case atStart => exact ⟨0, Nat.zero_le _, rfl, fun j hj => absurd hj (by omega), brz _ _⟩
 case round =>
  obtain ⟨k, hk, rfl, hg, hb⟩ := hrel
  have HG : Hid (∀ j, j < k → Lv.leq (L.getD j (0, 0)).2 (get L' (L.getD j (0, 0)).1) = true) := hg
  clear hg
  by_cases hkn : k < n
  ·obtain ⟨b, off, x, y, rfl, hbB, d0, d1, hxy⟩ := hL.at hb hkn
   have hkn' : (k : Int) < n := by omega
   have HL' : ∀ m, Lab w.heap.size (wr.drewN m) ao' n' cap' L' := fun m => hL'.later (below_drewN hb m)
   clear hL hL'
   cases hq : Lv.leq y (get L' x) with
   | false =>
    have hr : Hid (wWz L L' = false) := by
     show (_ && _) = false
     rw [all_no (p := (x, y)) (k := k) (by omega) hxy.out hq]; rfl
    go_wp2
    go_quiet (first | (go_at_call 45; refine Calls.quiet_of_same (xpz _ (HL' _))) | (go_at_call 44; refine Calls.quiet_of_same (kqz _ _ _)))
    go_wp2
    go_ret
    exact ⟨by rw [hr.out]; rfl, below_drewN hb _⟩
   | true =>
    go_wp2
    go_quiet (first | (go_at_call 45; refine Calls.quiet_of_same (xpz _ (HL' _))) | (go_at_call 44; refine Calls.quiet_of_same (kqz _ _ _)))
    go_wp2
    go_roundw
    case rel => exact ⟨k + 1, by omega, by go_num, fun j hj => by
     rcases Nat.lt_or_ge j k with h | h
     ·exact HG.out j h
     ·have : j = k := by omega
      rw [this, hxy.out]; exact hq, below_drewN hb _⟩
    case measure => simp [intOf]; omega
  ·have hA : Hid (L.all (fun p => Lv.leq p.2 (get L' p.1)) = true) := bXz (fun j hj => HG.out j (by omega))
   clear HG
   go_wp2
   go_loopw [6] (fun i wr => ∃ k : Nat, k ≤ n' ∧ i = .int .i64 k ∧ (∀ j, j < k → Lv.leq (get L (L'.getD j (0, 0)).1) (L'.getD j (0, 0)).2 = true) ∧ Below w.heap.size w wr) (fun i _ => n' - (intOf i).toNat)
   case atStart => exact ⟨0, Nat.zero_le _, rfl, fun j hj => absurd hj (by omega), hb⟩
   case round =>
    clear hb
    obtain ⟨k, hk, rfl, hg, hb⟩ := hrel
    have HG : Hid (∀ j, j < k → Lv.leq (get L (L'.getD j (0, 0)).1) (L'.getD j (0, 0)).2 = true) := hg
    clear hg
    by_cases hkn : k < n'
    ·obtain ⟨b, off, x, y, rfl, hbB, d0, d1, hxy⟩ := hL'.at hb hkn
     have hkn' : (k : Int) < n' := by omega
     have HL : ∀ m, Lab w.heap.size (wr.drewN m) ao n cap L := fun m => hL.later (below_drewN hb m)
     clear hL hL'
     cases hq : Lv.leq (get L x) y with
     | false =>
      have hr : Hid (wWz L L' = false) := by
       show (_ && _) = false
       rw [all_no (A := L') (p := (x, y)) (k := k) (by omega) hxy.out hq, Bool.and_false]
      go_wp2
      go_quiet (first | (go_at_call 45; refine Calls.quiet_of_same (xpz _ (HL _))) | (go_at_call 44; refine Calls.quiet_of_same (kqz _ _ _)))
      go_wp2
      go_ret
      exact ⟨by rw [hr.out]; rfl, below_drewN hb _⟩
     | true =>
      go_wp2
      go_quiet (first | (go_at_call 45; refine Calls.quiet_of_same (xpz _ (HL _))) | (go_at_call 44; refine Calls.quiet_of_same (kqz _ _ _)))
      go_wp2
      go_roundw
      case rel => exact ⟨k + 1, by omega, by go_num, fun j hj => by
       rcases Nat.lt_or_ge j k with h | h
       ·exact HG.out j h
       ·have : j = k := by omega
        rw [this, hxy.out]; exact hq, below_drewN hb _⟩
      case measure => simp [intOf]; omega
    ·have hr : Hid (wWz L L' = true) := by
      show (_ && _) = true
      rw [hA.out, bXz (A := L') (fun j hj => HG.out j (by omega))]; rfl
     clear HG hL hL'
     go_wp2
     go_ret
     exact ⟨by rw [hr.out]; rfl, hb⟩
theorem uNz {ao : Option Addr} {n cap : Nat} (hL : Lab w.heap.size w ao n cap L) (hk : n < 274877906944) :
  Calls prog 122 #[.slice ao n cap] w fun e w' => ∃ ao1 n1 cap1, e = .returned (.slice ao1 n1 cap1) ∧ Cts w'.heap.size w' ao1 n1 cap1 (wOz L) ∧ Below w.heap.size w w' := by
 obtain ⟨i0, hi, hz0, hz1, hz2⟩ := info_parts yxz
 have hn := hL.1
 have hnc := hL.2.1
 have hcm := hL.2.2.1.1
 go_enter func122, ntmps122
 go_wp2
 go_loopw [3, 4] (fun v i wr => ∃ k : Nat, k ≤ n ∧ i = .int .i64 k ∧ wr.ownsRow w.heap.size 22 1 v (ownK L k).length ((ownK L k).map (Value.int .u64)) ∧ Below w.heap.size w wr) (fun _ i _ => n - (intOf i).toNat)
 case atStart => exact ⟨0, Nat.zero_le _, rfl, World.ownsRow_nil _ _ _ _, brz _ _⟩
 case round =>
  obtain ⟨k, hkn, rfl, hrow, hb⟩ := hrel
  have hlk := y3z L k
  by_cases hlt : k < n
  ·obtain ⟨b, off, x, y, rfl, hbB, d0, d1, hxy⟩ := hL.at hb hlt
   have hbw : b < wr.heap.size := ltz hbB hb.size
   clear hL
   by_cases hy : y = 0
   ·have hs : Hid (ownK L (k + 1) = ownK L k ++ [x]) := y4z (by omega) hxy.out hy
    subst hy
    go_wp2_with (at_builtin; refine wpList_append_own _ rfl _ _ 40 rfl w.heap.size 22 i0 (.int .u64 0) 1 8 underlying40 hi hz0 hz1 hz2 rfl (by decide) _ _ _ rfl (hrow.alloc _) ⟨wr.heap.size, 0, none⟩ 1 1 [.int .u64 x] rfl rfl (cell_one_new _ _ _) (by simp [Value.oneCell']) (by unfold maxLen; omega) (by omega) (by have := hb.size; simp; omega) ?_; intro v' w1 hown' hgrow _; obtain ⟨g', cap', rfl⟩ := wbz hown')
    have hb2 : Below w.heap.size w w1 := wGz hb hrow hgrow hb.size
    go_roundw
    case rel => exact ⟨k + 1, by omega, by go_num, by rw [hs.out]; simpa using hown', hb2⟩
    case measure => simp [intOf]; omega
   ·have hs : Hid (ownK L (k + 1) = ownK L k) := vCz (by omega) hxy.out hy
    have hy0 : (y == 0) = false := by simpa using hy
    go_wp2
    go_roundw
    case rel => exact ⟨k + 1, by omega, by go_num, by rw [hs.out]; exact hrow, hb⟩
    case measure => simp [intOf]; omega
  ·have hs := y5z (L := L) (k := k) (by omega)
   rw [hs] at hrow
   obtain ⟨aoL, capL, rfl, hcts⟩ := Cts.of_row hrow
   clear hL hs
   go_wp2
   go_ret
   exact ⟨_, _, _, rfl, hcts, hb⟩
end
section
open Go.RowKit
def jXz (ops : Array Oper) : Bool := ops.all fun o => match o.op with | .defer _ => false | _ => true
variable {ops : Array Oper}
theorem vJz (h : jXz ops = true) {i : Nat} {o : Oper} (ho : ops[i]? = some o) : ∀ c, o.op ≠ .defer c := by
 intro c e
 have hm : o ∈ ops := Array.mem_of_getElem? ho
 have := Array.all_eq_true_iff_forall_mem.1 h o hm
 rw [e] at this
 cases this
variable {Q : Exit → Act → World → Prop} {P : Program}
theorem uDz (hd : jXz ops = true) (hl : ¬ LetsOut Q) (l n i : Nat) {K : Act → World → Prop} {a : Act} {w : World} (h : wpOp P ops Q i K a w) :
  wpOpIn (Fence.wide.inRound l) n P ops Q i K a w := by
 unfold wpOp at h
 unfold wpOpIn
 cases ho : ops[i]? with
 | none => simpa [ho] using h
 | some o =>
  simp only [ho] at h ⊢
  split
  ·rename_i hw
   rw [if_pos hw] at h
   rcases h with h | ⟨_, h⟩
   ·refine ⟨fun _ _ => trivial, ?_⟩
    rw [Oper.semAt_plain (Fence.wide.inRound l) _ o (vJz hd ho)]
    unfold Oper.wp at h
    generalize (execOp a.eval o).run P w = r at *
    cases r with
    | ok nx w' =>
     cases nx with
     | enter f args => exact ⟨fun e => (by cases e), CallsIn.inRound l (callsIn_wide.2 h)⟩
     | value v => exact h
     | skip => exact h
     | defer d => exact h
     | row row args => exact ⟨fun e => (by cases e), fun c cs _ => (by obtain ⟨v, w2, r, s⟩ := h c cs; exact ⟨v, w2, r, stepsIn_wide.2 s⟩)⟩
     | _ => exact h.elim
    | halt x w' => cases x <;> exact h
   ·exact absurd h hl
  ·rename_i hw
   rw [if_neg hw] at h
   exact ⟨fun _ _ => trivial, h⟩
theorem kEz {md : Region.Mode} (hd : jXz ops = true) (hl : ¬ LetsOut Q) (l n : Nat) :
  ∀ (fuel : Nat) (listed : Array Bool) (a : Act) (w : World), wpAny P md ops Q fuel listed a w → wpAnyIn (Fence.wide.inRound l) n P md ops Q fuel listed a w
 | 0, _, _, _, h => h
 | fuel + 1, _, _, _, h => ⟨h.1, fun i hi => wpOpIn_mono (fun a' w' h' => kEz hd hl l n fuel _ a' w' h') (uDz hd hl l n i (h.2 i hi))⟩
theorem vyz {S : World → Prop} {id l n : Nat} {a : Act} {w : World} (hm : P.follows .mixedOrders = true) (hd : jXz ops = true) (hl : ¬ LetsOut Q)
  (hS : S w.drew) (h : S w.drew → wpAnyH P .any ops Q S ops.size (Array.replicate ops.size false) a w.drew) : (Code.region id ops true).wpIn (Fence.wide.inRound l) n P Q a w :=
 wpIn_region_any hm (kEz hd hl l n _ _ _ _ (wpAny_of_held _ _ _ _ (h hS)))
end
section
open Go.RowKit Go.Shelf
attribute [local go_sem] Oper.semAt_some
def xhz (op : Int → Int → Int) (pre : List (Int × (Int × Int))) : List (Int × Int) := pre.foldl (fun acc x => snoc acc x.1 (op x.2.1 x.2.2)) []
theorem jzz (op : Int → Int → Int) (pre : List (Int × (Int × Int))) (x : Int × (Int × Int)) : xhz op (pre ++ [x]) = snoc (xhz op pre) x.1 (op x.2.1 x.2.2) := by simp [xhz]
theorem k3z (op : Int → Int → Int) (pre : List (Int × (Int × Int))) : (xhz op pre).length ≤ pre.length := by
 have : ∀ (pre : List (Int × (Int × Int))) (acc : List (Int × Int)), (pre.foldl (fun acc x => snoc acc x.1 (op x.2.1 x.2.2)) acc).length ≤ acc.length + pre.length := by
  intro pre
  induction pre with
  | nil => intro acc; simp
  | cons x r ih => intro acc; have h1 := ih (snoc acc x.1 (op x.2.1 x.2.2)); have h2 := snoc_len acc x.1 (op x.2.1 x.2.2); simp only [List.foldl_cons, List.length_cons]; omega
 have h := this pre []
 simpa [xhz] using h
theorem bTz : ∀ (k : Nat) (A C : List (Int × Int)), (klz k A C).length ≤ k := by
 intro k
 induction k with
 | zero => intro A C; simp [klz]
 | succ k ih => intro A C; simp only [klz]; split; simp; simpa using ih _ _
theorem vcz (A C : List (Int × Int)) : (both A C).length ≤ A.length + C.length := bTz _ _ _
variable {L : List (Int × Int)} {v : Value}
theorem gZz {base : Nat} {W : World} (h : W.ownsRow base 86 2 v L.length (cellsOf L)) : ∃ ao cap, v = .slice ao L.length cap ∧ OwnL base W ao L.length cap L := by
 have h' := h
 rcases h.2 with ⟨rfl, h0⟩ | ⟨g, cap, _, rfl, _⟩
 ·refine ⟨none, 0, by rw [h0], rfl, ?_⟩
  rw [h0] at h' ⊢
  exact h'
 ·exact ⟨_, _, rfl, rfl, h'⟩
variable {ao : Option Addr} {n cap : Nat}
theorem g0z {b b' : Nat} {w : World} (hb : b' ≤ b) (h : OwnL b w ao n cap L) : OwnL b' w ao n cap L := by
 refine ⟨h.1, h.2.1, ?_⟩
 rcases h.2.2 with h0 | ⟨g, c, cur, h1, h2, h3⟩
 ·exact .inl h0
 ·exact .inr ⟨g, c, cur, h1, Nat.le_trans hb h2, h3⟩
theorem below_grown {w w' : World} (h : Below w.heap.size w w') : w.grownBy w' none := ⟨h.os, h.tape, h.output, h.size, fun k hk _ => h.block k hk⟩
theorem OwnL.next {base : Nat} {w w' : World} (h : OwnL base w ao n cap L) (k : Below w.heap.size w w') : OwnL base w' ao n cap L := by
 refine ⟨h.1, h.2.kept (below_grown k) ?_⟩
 cases ao with
 | none => exact .inl rfl
 | some a => exact .inr (by simp [Value.ownBlock])
theorem Boxed.next {W W' : World} {B : Nat} {t : TypeId} (h : Boxed W B t v) (k : Below W.heap.size W W') : Boxed W' B t v := h.kept (below_grown k) (by simp)
theorem yYz {W w1 w2 : World} {s r B : Nat} {ao ao' : Option Addr} {n n' cap cap' : Nat} {L L' : List (Int × Int)} (hv : Boxed W B 39 (.slice ao n cap)) (hrow : OwnL r W ao n cap L) (hs : s ≤ W.heap.size) (hsr : s ≤ r) (hB : s ≤ B)
  (hb : Below W.heap.size W w1) (hown : OwnL r w2 ao' n' cap' L') (hg : w1.grownBy w2 (Value.slice ao n cap).ownBlock) :
  Boxed w2 B 39 (.slice ao n cap) ∧ Boxed (w2.setCell ⟨B, 0, none⟩ (.slice ao' n' cap')) B 39 (.slice ao' n' cap') ∧ OwnL r (w2.setCell ⟨B, 0, none⟩ (.slice ao' n' cap')) ao' n' cap' L' ∧
  KeepsOthers W (w2.setCell ⟨B, 0, none⟩ (.slice ao' n' cap')) ∧ Below s W (w2.setCell ⟨B, 0, none⟩ (.slice ao' n' cap')) ∧ (∀ B' t u, Boxed W B' t u → t ≠ 86 → B' ≠ B → Boxed (w2.setCell ⟨B, 0, none⟩ (.slice ao' n' cap')) B' t u) ∧
  (∀ b, b < W.heap.size → b < r → b ≠ B → (w2.setCell ⟨B, 0, none⟩ (.slice ao' n' cap')).heap[b]? = W.heap[b]?) := by
 have hrow1 := hrow.next hb
 have hv1 := Boxed.next hv hb
 have hv2 : Boxed w2 B 39 (.slice ao n cap) := hv1.kept hg (hv1.not_row (by decide) hrow1.2)
 have hrw : ∀ j o, (Value.slice ao n cap).ownBlock = some j → w1.heap[j]? = some o → s ≤ j ∧ o.isCells = true := by
  intro j o ej hj
  rcases hrow1.2.2 with ⟨hn, _⟩ | ⟨g, cap, cur, hn, hsg, hgb, _⟩
  ·rw [hn] at ej; simp [Value.ownBlock] at ej
  ·rw [hn] at ej
   obtain rfl : g = j := by simpa [Value.ownBlock] using ej
   rw [hgb] at hj; cases hj; exact ⟨Nat.le_trans hsr hsg, rfl⟩
 refine ⟨hv2, hv2.set _, ⟨hown.1, hown.2.kept (grownBy_setCell' w2 B _) (.inr (hv2.not_row (by decide) hown.2).symm)⟩, ?_, ?_, ?_, ?_⟩
 ·refine ((KeepsOthers.of_grownBy (below_grown hb) (fun j o e => by cases e)).trans (KeepsOthers.of_grownBy hg fun j o ej hj => (hrw j o ej hj).2)).trans (KeepsOthers.setCell _ _ _)
 ·refine ((hb.mono hs).trans ((brz s w1).grown hg (Nat.le_trans hs hb.size) fun j ej => ?_)).setCell (p := ⟨B, 0, none⟩) hB _
  have hlt := hrow1.2.lt j ej
  exact Nat.le_trans hsr hlt.1
 ·intro B' t u hu ht hne
  have hu1 := Boxed.next hu hb
  exact (hu1.kept hg (hu1.not_row ht hrow1.2)).other hne _
 ·intro b hbW hbr hne
  rw [Below.heap_setCell w2 ⟨B, 0, none⟩ _ b hne]
  refine (hg.block b (ltz hbW hb.size) (fun e => ?_)).trans (hb.block b hbW)
  have := (hrow1.2.lt b e.symm).1
  omega
theorem not_row {W : World} {b : Nat} {cs : Array Value} {t e : TypeId} {f : Nat × Nat} (h : W.heap[b]? = some (.cells cs t f)) (hte : t ≠ e) {base size k : Nat} {xs : List Value} (hr : W.ownsRow base e size v k xs) : some b ≠ v.ownBlock := by
 rcases hr.2 with ⟨rfl, _⟩ | ⟨g, cap, cur, rfl, _, hgb, _⟩
 ·simp [Value.ownBlock]
 ·intro e'
  obtain rfl : b = g := by simpa [Value.ownBlock] using e'
  have := h.symm.trans hgb
  simp at this
  exact hte this.2.1
theorem wCz {W w1 w2 : World} {s B b i : Nat} {cs : Array Value} {t : TypeId} {f : Nat × Nat} {u : Value} (hrow : OwnL s W ao n cap L)
  (hb : Below W.heap.size W w1) (hg : w1.grownBy w2 (Value.slice ao n cap).ownBlock) (h : W.heap[b]? = some (.cells cs t f)) (ht : t ≠ 86) (hc : W.cell? ⟨b, i, none⟩ = some u) (hne : b ≠ B) :
  w2.cell? ⟨b, i, none⟩ = some u ∧ ∀ v, (w2.setCell ⟨B, 0, none⟩ v).cell? ⟨b, i, none⟩ = some u := by
 have hlt : b < W.heap.size := (Array.getElem?_eq_some_iff.1 h).1
 have h1 : w1.heap[b]? = some (.cells cs t f) := (hb.block b hlt).trans h
 have c1 : w1.cell? ⟨b, i, none⟩ = some u := (hb.cell (p := ⟨b, i, none⟩) hlt).trans hc
 have c2 := hg.cell c1 (not_row h1 ht (hrow.next hb).2)
 exact ⟨c2, fun v => (World.cell?_setCell_far w2 ⟨B, 0, none⟩ ⟨b, i, none⟩ v (Ne.symm hne)).trans c2⟩
theorem uoz {w : World} {ao ao' : Option Addr} {k k' cap cap' : Nat} {A C : List (Int × Int)} (hA : Lab w.heap.size w ao k cap A) (hC : Lab w.heap.size w ao' k' cap' C) (hk : k < 274877906944) (hk' : k' < 274877906944)
  (g : Nat) (lb : Array Value) (eg : ∀ args w, (callFunc g args).run prog w = .ok (.enter g args) w) (op : Int → Int → Int)
  (hf : ∀ (x y : Int) (W : World), Below w.heap.size w W → Calls prog g (#[.int .i64 x, .int .i64 y] ++ lb) W fun e W' => e = .returned (.int .i64 (op x y)) ∧ Below W.heap.size W W') :
  Calls prog 266 #[.slice ao k cap, .slice ao' k' cap', .func (.func g) #[] lb] w fun e w' => ∃ ao1 n1 cap1, e = .returned (.slice ao1 n1 cap1) ∧ OwnL w.heap.size w' ao1 n1 cap1 (xhz op (both A C)) ∧ Below w.heap.size w w' := by
 refine (callsIn_wide (n := 5)).1 ?_
 refine callsIn_of_wp_marks func266 rfl trivial ?_ rfl
 simp only [ntmps266, List.size_toArray, List.length_cons, List.length_nil, Nat.reduceAdd, Nat.reduceSub, Array.replicate_succ, Array.replicate_zero, List.push_toArray, List.append_toArray, List.nil_append, List.cons_append]
 gi_wp2_with (refine ⟨trivial, ?_⟩; gi_at_call 259; refine (callsIn_wide.2 (uzz _ _ _ _ _ _ _)).mono ?_; rintro e w' ⟨rfl, rfl⟩)
 have bF := (((Boxed.new w 188 (.func (.func g) #[] lb)).alloc (.cells #[.slice none 0 0] 39)).alloc (.cells #[.slice ao k cap] 39)).alloc (.cells #[.slice ao' k' cap'] 39)
 have bO := ((Boxed.new (w.alloc (.cells #[.func (.func g) #[] lb] 188)) 39 (.slice none 0 0)).alloc (.cells #[.slice ao k cap] 39)).alloc (.cells #[.slice ao' k' cap'] 39)
 have bA := (Boxed.new ((w.alloc (.cells #[.func (.func g) #[] lb] 188)).alloc (.cells #[.slice none 0 0] 39)) 39 (.slice ao k cap)).alloc (.cells #[.slice ao' k' cap'] 39)
 have bC := Boxed.new (((w.alloc (.cells #[.func (.func g) #[] lb] 188)).alloc (.cells #[.slice none 0 0] 39)).alloc (.cells #[.slice ao k cap] 39)) 39 (.slice ao' k' cap')
 simp only [World.size_alloc] at bO bA bC
 have hB0 : Below w.heap.size w ((((w.alloc (.cells #[.func (.func g) #[] lb] 188)).alloc (.cells #[.slice none 0 0] 39)).alloc (.cells #[.slice ao k cap] 39)).alloc (.cells #[.slice ao' k' cap'] 39)) := ((((brz _ w).alloc (lrz _) _).alloc (by simp) _).alloc (by simp; omega) _).alloc (by simp; omega) _
 have hsz : ((((w.alloc (.cells #[.func (.func g) #[] lb] 188)).alloc (.cells #[.slice none 0 0] 39)).alloc (.cells #[.slice ao k cap] 39)).alloc (.cells #[.slice ao' k' cap'] 39)).heap.size = w.heap.size + 4 := by simp
 obtain ⟨W0, hW0⟩ : ∃ W0, (((w.alloc (.cells #[.func (.func g) #[] lb] 188)).alloc (.cells #[.slice none 0 0] 39)).alloc (.cells #[.slice ao k cap] 39)).alloc (.cells #[.slice ao' k' cap'] 39) = W0 := ⟨_, rfl⟩
 rw [hW0] at bF bO bA bC hB0 hsz ⊢
 clear hW0
 have hbl : (both A C).length ≤ k + k' := by have := vcz A C; have := hA.1; have := hC.1; omega
 refine wpIn_rangeFunc_ownH rfl (by omega) (gf := 276) (lb := #[.pointer (some ⟨w.heap.size + 1 + 1, 0, none⟩), .pointer (some ⟨w.heap.size + 1 + 1 + 1, 0, none⟩)]) rfl trivial (enters_of func276 (by kernel_rfl) rfl)
  (jBz _ (by omega) (w.heap.size + 1 + 1) (w.heap.size + 1 + 1 + 1) (fun b => b < w.heap.size) W0 (by omega) (by omega) (fun b hb => by omega) bA.cell bC.cell (hA.later hB0) (hC.later hB0)) keepsK_t (keepsK_b (fun b hb => by omega)) (brz _ _) (fun _ => rfl)
  (fun pre W => ((∃ v, Boxed W (w.heap.size + 1) 39 v ∧ W.ownsRow w.heap.size 86 2 v (xhz op pre).length (cellsOf (xhz op pre)) ∧ True) ∧ Boxed W w.heap.size 188 (.func (.func g) #[] lb)) ∧ Below w.heap.size w W)
  (fun _ _ _ => False)
  (OwnFrom.and (OwnFrom.and (Own.from (holdsRow_own w.heap.size (w.heap.size + 1) 39 86 2 (fun pre => (xhz op pre).length) (fun pre => cellsOf (xhz op pre)) (fun _ _ => True)) _) (Own.from (boxed_own _ _ _) _)) (ownFrom_below (lrz _) (by omega)))
  (fun _ _ _ _ _ hs _ _ => hs)
  ⟨⟨⟨_, bO, World.ownsRow_nil _ _ _ _, trivial⟩, bF⟩, hB0⟩
  (fun x a' W => ∃ Bx, w.heap.size + 1 < Bx ∧ Two W Bx 251 (.int .i64 x.2.1) (.int .i64 x.2.2) ∧ a' = { tmps := #[.slice ao k cap, .slice ao' k' cap', .func (.func g) #[] lb, undef, undef, .pointer (some ⟨w.heap.size, 0, none⟩), .slice none 0 0, .pointer (some ⟨w.heap.size + 1, 0, none⟩), .int .u64 x.1, .pointer (some ⟨Bx, 0, none⟩), .slice ao k cap, .slice ao' k' cap', .func (.func 276) #[] #[.pointer (some ⟨w.heap.size + 1 + 1, 0, none⟩), .pointer (some ⟨w.heap.size + 1 + 1 + 1, 0, none⟩)], .int .u64 x.1, .agg #[.int .i64 x.2.1, .int .i64 x.2.2], undef, undef, undef, undef, undef, undef, undef, undef, undef, undef], defers := [] })
  (fun x a' _ X Y row hs hg hr => by obtain ⟨Bx, h1, h2, h3⟩ := hs; exact ⟨Bx, h1, two_own Bx _ (fun (_ : Unit) => Value.int .i64 x.2.1) (fun _ => Value.int .i64 x.2.2) () X Y row h2 hg (fun r e => (hr r e).2), h3⟩)
  ?assign ?body ?done ?stop
 case assign =>
  rintro l pre x W K ⟨⟨⟨v, bO1, hrow, _⟩, bF1⟩, hB1⟩ hK
  dsimp only [encP]
  gi_wp2
  exact hK _ _ ((KeepsOthers.alloc _ _).from _) (wrz ((brz _ W).alloc hB1.size _)) ⟨⟨⟨v, bO1.alloc _, hrow.alloc _, trivial⟩, bF1.alloc _⟩, hB1.alloc hB1.size _⟩ ⟨W.heap.size, bO1.lt, Two.new W _ _ _, rfl⟩
 case body =>
  rintro l pre x a' W hl ⟨r, hr⟩ ⟨⟨⟨v, bO1, hrow, _⟩, bF1⟩, hB1⟩ ⟨Bx, hBx, bX, rfl⟩ hlt
  have hmx : prog.follows .mixedOrders = true := by kernel_rfl
  obtain ⟨aoL, capL, rfl, hown⟩ := gZz hrow
  have hfl := k3z op pre
  have hN : (xhz op pre).length < 1099511627776 := by omega
  have c0 := bX.cell0
  have c1 := bX.cell1
  have cO := bO1.cell
  have cF := bF1.cell
  gi_wp2
  refine vyz (S := fun w' => w'.cell? ⟨w.heap.size, 0, none⟩ = some (.func (.func g) #[] lb) ∧ w'.cell? ⟨Bx, 0, none⟩ = some (.int .i64 x.2.1) ∧ w'.cell? ⟨Bx, 1, none⟩ = some (.int .i64 x.2.2)) hmx (by kernel_rfl) (by rintro ⟨_, _, h⟩; exact h) ⟨cF, c0, c1⟩ (fun hS => ?_)
  refine wpAnyH_take (i := 1) (v := .int .u64 x.1) rfl (by kernel_rfl) (by kernel_rfl) (by kernel_rfl) (fun _ _ _ h => h) (Or.inl ⟨by rfl, fun w2 hS2 => by (obtain ⟨s1, s2, s3⟩ := hS2); go_simp⟩) hS ?_
  simp only [Act.put]
  refine wpAnyH_take (i := 2) (v := .func (.func g) #[] lb) rfl (by kernel_rfl) (by kernel_rfl) (by kernel_rfl) (fun _ _ _ h => h) (Or.inl ⟨by rfl, fun w2 hS2 => by (obtain ⟨s1, s2, s3⟩ := hS2); go_simp⟩) hS ?_
  simp only [Act.put]
  refine wpAnyH_take (i := 3) (v := .pointer (some ⟨Bx, 0, none⟩)) rfl (by kernel_rfl) (by kernel_rfl) (by kernel_rfl) (fun _ _ _ h => h) (Or.inl ⟨by rfl, fun w2 hS2 => by (obtain ⟨s1, s2, s3⟩ := hS2); go_simp⟩) hS ?_
  simp only [Act.put]
  refine wpAnyH_take (i := 4) (v := .int .i64 x.2.1) rfl (by kernel_rfl) (by kernel_rfl) (by kernel_rfl) (fun _ _ _ h => h) (Or.inl ⟨by rfl, fun w2 hS2 => by (obtain ⟨s1, s2, s3⟩ := hS2); go_simp⟩) hS ?_
  simp only [Act.put]
  refine wpAnyH_take (i := 5) (v := .pointer (some ⟨Bx, 1, none⟩)) rfl (by kernel_rfl) (by kernel_rfl) (by kernel_rfl) (fun _ _ _ h => h) (Or.inl ⟨by rfl, fun w2 hS2 => by (obtain ⟨s1, s2, s3⟩ := hS2); go_simp⟩) hS ?_
  simp only [Act.put]
  refine wpAnyH_take (i := 6) (v := .int .i64 x.2.2) rfl (by kernel_rfl) (by kernel_rfl) (by kernel_rfl) (fun _ _ _ h => h) (Or.inl ⟨by rfl, fun w2 hS2 => by (obtain ⟨s1, s2, s3⟩ := hS2); go_simp⟩) hS ?_
  simp only [Act.put]
  refine wpAnyH_ready (rs := [0, 7]) (by kernel_rfl) (by simp) ?_
  refine AllReadyH.cons rfl (fun K hK => ?_) (AllReadyH.cons rfl (fun K hK => ?_) AllReadyH.nil)
  ·go_simp
   refine hK.out _ _ hS (fun _ => ?_)
   clear hK K
   refine wpAnyH_ready (rs := [7]) (by kernel_rfl) (by simp) ?_
   refine AllReadyH.cons rfl (fun K hK => ?_) AllReadyH.nil
   go_simp
   refine (hf _ _ _ hB1.drew).mono ?_
   rintro e w1 ⟨rfl, hb0⟩
   have hb1 := (brz W.heap.size W).drew.trans hb0
   have cO1 := cell_later hb1 cO
   refine hK.out _ _ ⟨cell_later hb1 cF, cell_later hb1 c0, cell_later hb1 c1⟩ (fun hS1 => ?_)
   clear hK K
   refine wpAnyH_ready (rs := [8]) (by kernel_rfl) (by simp) ?_
   refine AllReadyH.cons rfl (fun K hK => ?_) AllReadyH.nil
   go_simp
   refine (yLz _ _ (hown.next hb1) (Nat.le_trans hB1.size hb1.size) hN).mono ?_
   rintro e w2 ⟨ao2, n2, cap2, rfl, hown2, hg2⟩
   obtain ⟨q1, q2, q3, q4, q5, q6, _⟩ := yYz bO1 hown hB1.size (lrz _) (Nat.le_succ _) hb1 hown2 hg2
   have a1 := wCz (B := w.heap.size + 1) hown hb1 hg2 bF1 (by decide) cF (by omega)
   have a2 := wCz (B := w.heap.size + 1) hown hb1 hg2 bX (by decide) c0 (by omega)
   have a3 := wCz (B := w.heap.size + 1) hown hb1 hg2 bX (by decide) c1 (by omega)
   have cO2 := q1.cell
   have fO2 := q1.frozen
   refine hK.out _ _ ⟨a1.1, a2.1, a3.1⟩ (fun hS2 => ?_)
   clear hK K
   refine wpAnyH_ready (rs := [9]) (by kernel_rfl) (by simp) ?_
   refine AllReadyH.cons rfl (fun K hK => ?_) AllReadyH.nil
   go_simp
   refine hK.out _ _ ⟨a1.2 _, a2.2 _, a3.2 _⟩ (fun hS3 => ?_)
   clear hK K
   refine wpAnyH_done (by kernel_rfl) ?_ _
   exact ⟨q4.from _, wrz q5, ⟨⟨_, q2, by rw [jzz, ← q3.1] at *; exact q3.2, trivial⟩, q6 _ _ _ bF1 (by decide) (by omega)⟩, hB1.trans q5⟩
  ·go_simp
   refine (hf _ _ _ hB1.drew).mono ?_
   rintro e w1 ⟨rfl, hb0⟩
   have hb1 := (brz W.heap.size W).drew.trans hb0
   have cO1 := cell_later hb1 cO
   refine hK.out _ _ ⟨cell_later hb1 cF, cell_later hb1 c0, cell_later hb1 c1⟩ (fun hS1 => ?_)
   clear hK K
   refine wpAnyH_ready (rs := [0]) (by kernel_rfl) (by simp) ?_
   refine AllReadyH.cons rfl (fun K hK => ?_) AllReadyH.nil
   go_simp
   refine hK.out _ _ hS1 (fun _ => ?_)
   clear hK K
   refine wpAnyH_ready (rs := [8]) (by kernel_rfl) (by simp) ?_
   refine AllReadyH.cons rfl (fun K hK => ?_) AllReadyH.nil
   go_simp
   refine (yLz _ _ (hown.next hb1) (Nat.le_trans hB1.size hb1.size) hN).mono ?_
   rintro e w2 ⟨ao2, n2, cap2, rfl, hown2, hg2⟩
   obtain ⟨q1, q2, q3, q4, q5, q6, _⟩ := yYz bO1 hown hB1.size (lrz _) (Nat.le_succ _) hb1 hown2 hg2
   have a1 := wCz (B := w.heap.size + 1) hown hb1 hg2 bF1 (by decide) cF (by omega)
   have a2 := wCz (B := w.heap.size + 1) hown hb1 hg2 bX (by decide) c0 (by omega)
   have a3 := wCz (B := w.heap.size + 1) hown hb1 hg2 bX (by decide) c1 (by omega)
   have cO2 := q1.cell
   have fO2 := q1.frozen
   refine hK.out _ _ ⟨a1.1, a2.1, a3.1⟩ (fun hS2 => ?_)
   clear hK K
   refine wpAnyH_ready (rs := [9]) (by kernel_rfl) (by simp) ?_
   refine AllReadyH.cons rfl (fun K hK => ?_) AllReadyH.nil
   go_simp
   refine hK.out _ _ ⟨a1.2 _, a2.2 _, a3.2 _⟩ (fun hS3 => ?_)
   clear hK K
   refine wpAnyH_done (by kernel_rfl) ?_ _
   exact ⟨q4.from _, wrz q5, ⟨⟨_, q2, by rw [jzz, ← q3.1] at *; exact q3.2, trivial⟩, q6 _ _ _ bF1 (by decide) (by omega)⟩, hB1.trans q5⟩
 case done =>
  rintro D ys W hD rfl ⟨⟨⟨v, bO1, hrow, _⟩, bF1⟩, hB⟩ hK
  obtain ⟨aoL, capL, rfl, hown⟩ := gZz hrow
  have cO := bO1.cell
  gi_wp2
  refine ⟨by simp, .inl ⟨_, _, rfl, run_takeDeferred hK, ?_⟩⟩
  exact ⟨_, results_tmp rfl _ _ _, _, _, _, rfl, ⟨hown.1, ownsRow_putObj hown.2 _ hK rfl⟩, hB.trans (belowK_b (w := w) (lrz _) W D _ _ (by omega) hK rfl rfl)⟩
 case stop =>
  rintro D c pre W _ _ h _
  exact h.elim
end
section
def Rc : Int → List (Int × Int) → Prop
 | _, [] => True
 | b, p :: r => b < p.1 ∧ Rc p.1 r
def lok (v : Int) : Prop := 0 ≤ v ∧ v ≤ 5 ∧ v ≠ 2
def Fit (L : List (Int × Int)) : Prop := (∃ b, Rc b L) ∧ ∀ p ∈ L, lok p.2
variable {L : List (Int × Int)} {b b' : Int}
theorem Rc.low (h : Rc b L) (k : b' ≤ b) : Rc b' L := by
 cases L with
 | nil => trivial
 | cons p r => exact ⟨by have := h.1; omega, h.2⟩
variable {r : List (Int × Int)}
theorem g1z {p : Int × Int} (h : okAt (p :: r) 0 = true) : lok p.2 := by
 simp [okAt, Lv.fit] at h
 exact ⟨h.1.1, h.1.2, h.2⟩
theorem vEz {p : Int × Int} {j : Nat} (h : okAt (p :: r) (j + 1) = true) : okAt r j = true ∧ (j = 0 → p.1 < (r.getD 0 (0, 0)).1) := by
 simp only [okAt, Bool.and_eq_true, Bool.or_eq_true, Bool.not_eq_true', decide_eq_true_eq, decide_eq_false_iff_not, List.getD_cons_succ] at h ⊢
 obtain ⟨h1, h2, h3⟩ := h
 refine ⟨⟨h1, h2, ?_⟩, ?_⟩
 ·cases j with
  | zero => exact .inl rfl
  | succ i => exact .inr (by simpa using h3)
 ·intro hj; subst hj; simpa using h3
theorem fit_of : (∀ j, j < L.length → okAt L j = true) → (∀ p ∈ L, lok p.2) ∧ ∀ b, (∀ q s, L = q :: s → b < q.1) → Rc b L := by
 induction L with
 | nil => intro _; exact ⟨fun p hp => (by cases hp), fun _ _ => trivial⟩
 | cons p r ih =>
  intro h
  have h0 := g1z (h 0 (by simp))
  have hr : ∀ j, j < r.length → okAt r j = true := fun j hj => (vEz (h (j + 1) (by simpa using hj))).1
  obtain ⟨i1, i2⟩ := ih hr
  refine ⟨fun q hq => ?_, fun b hb => ⟨hb p r rfl, i2 p.1 fun q s e => ?_⟩⟩
  ·rcases List.mem_cons.1 hq with rfl | hq
   ·exact h0
   ·exact i1 q hq
  ·subst e
   have := (vEz (h 1 (by simp))).2 rfl
   simpa using this
theorem wpz : fitB L = true → Fit L := by
 intro h
 unfold fitB at h
 rw [List.all_eq_true] at h
 obtain ⟨h1, h2⟩ := fit_of (L := L) (fun j hj => h j (List.mem_range.2 hj))
 refine ⟨?_, h1⟩
 cases L with
 | nil => exact ⟨0, trivial⟩
 | cons p r => exact ⟨p.1 - 1, h2 _ (fun q s e => by cases e; omega)⟩
theorem wYz : ∀ {b c : Int}, Rc b L → c ≤ b → get L c = 2 := by
 induction L with
 | nil => intro b c _ _; rfl
 | cons p r ih =>
  intro b c h hc
  have hp := h.1
  simp only [get]
  rw [if_neg (by omega)]
  exact ih h.2 (by omega)
theorem k2z : ∀ {b : Int} {p : Int × Int}, Rc b L → p ∈ L → get L p.1 = p.2 := by
 induction L with
 | nil => intro b p _ hp; cases hp
 | cons q r ih =>
  intro b p h hp
  rcases List.mem_cons.1 hp with rfl | hp
  ·simp [get]
  ·have hg := ih h.2 hp
   simp only [get]
   by_cases he : q.1 = p.1
   ·have hlow := wYz h.2 (c := p.1) (by omega)
    exfalso
    have : ∀ {b : Int} {L : List (Int × Int)}, Rc b L → p ∈ L → b < p.1 := by
     intro b L
     induction L generalizing b with
     | nil => intro _ h; cases h
     | cons x y ihy =>
      intro h hm
      rcases List.mem_cons.1 hm with rfl | hm
      ·exact h.1
      ·have := ihy h.2 hm; have := h.1; omega
    have := this h.2 hp
    omega
   ·rw [if_neg he]; exact hg
theorem k1z (h : ∀ p ∈ L, lok p.2) (c : Int) : 0 ≤ get L c ∧ get L c ≤ 5 := by
 induction L with
 | nil => simp [get]
 | cons p r ih =>
  simp only [get]
  split
  ·exact ⟨(h p (by simp)).1, (h p (by simp)).2.1⟩
  ·exact ih (fun q hq => h q (by simp [hq]))
theorem ext_rc : ∀ {A C : List (Int × Int)} {b b' : Int}, Rc b A → Rc b' C → (∀ p ∈ A, lok p.2) → (∀ p ∈ C, lok p.2) → (∀ c, get A c = get C c) → A = C := by
 intro A
 induction A with
 | nil =>
  intro C b b' _ hC _ lC h
  cases C with
  | nil => rfl
  | cons q s =>
   have h1 := h q.1
   simp [get] at h1
   exact absurd h1.symm (lC q (by simp)).2.2
 | cons p r ih =>
  intro C b b' hA hC lA lC h
  cases C with
  | nil =>
   have h1 := h p.1
   simp [get] at h1
   exact absurd h1 (lA p (by simp)).2.2
  | cons q s =>
   have hpq : p.1 = q.1 := by
    rcases Int.lt_trichotomy p.1 q.1 with hlt | he | hgt
    ·exfalso
     have h1 := h p.1
     have h2 : get (q :: s) p.1 = 2 := wYz (b := p.1) (show Rc p.1 (q :: s) from ⟨hlt, hC.2⟩) (by omega)
     rw [h2] at h1
     simp [get] at h1
     exact (lA p (by simp)).2.2 h1
    ·exact he
    ·exfalso
     have h1 := h q.1
     have h2 : get (p :: r) q.1 = 2 := wYz (b := q.1) (show Rc q.1 (p :: r) from ⟨hgt, hA.2⟩) (by omega)
     rw [h2] at h1
     simp [get] at h1
     exact (lC q (by simp)).2.2 h1.symm
   have hv : p.2 = q.2 := by
    have h1 := h p.1
    simp [get, hpq] at h1
    exact h1
   have hrs : r = s := by
    refine ih hA.2 hC.2 (fun x hx => lA x (by simp [hx])) (fun x hx => lC x (by simp [hx])) (fun c => ?_)
    by_cases hc : c ≤ p.1
    ·rw [wYz hA.2 hc, wYz hC.2 (by omega)]
    ·have h1 := h c
     simp only [get] at h1
     rwa [if_neg (by omega), if_neg (by omega)] at h1
   rw [hrs, Prod.ext hpq hv]
variable {A C : List (Int × Int)}
theorem ext (hA : Fit A) (hC : Fit C) (h : ∀ c, get A c = get C c) : A = C := by
 obtain ⟨⟨b, r⟩, l⟩ := hA
 obtain ⟨⟨b', r'⟩, l'⟩ := hC
 exact ext_rc r r' l l' h
def k4z (h : Int → Int → Int → Int) (pre : List (Int × (Int × Int))) : List (Int × Int) := pre.foldl (fun acc x => snoc acc x.1 (h x.1 x.2.1 x.2.2)) []
theorem snoc_app (A : List (Int × Int)) (c l : Int) : snoc A c l = A ++ snoc [] c l := by unfold snoc; split <;> simp
theorem bAz (h : Int → Int → Int → Int) : ∀ (pre : List (Int × (Int × Int))) (acc : List (Int × Int)), pre.foldl (fun acc x => snoc acc x.1 (h x.1 x.2.1 x.2.2)) acc = acc ++ k4z h pre := by
 intro pre
 induction pre with
 | nil => intro acc; simp [k4z]
 | cons x r ih =>
  intro acc
  simp only [k4z, List.foldl_cons]
  rw [ih, ih (snoc [] x.1 (h x.1 x.2.1 x.2.2)), snoc_app acc]
  simp
theorem u5z (h : Int → Int → Int → Int) (x : Int × (Int × Int)) (r : List (Int × (Int × Int))) : k4z h (x :: r) = snoc [] x.1 (h x.1 x.2.1 x.2.2) ++ k4z h r := by
 simp only [k4z, List.foldl_cons]
 exact bAz h r _
theorem xmz {A : List (Int × Int)} {b c : Int} (h : Rc b A) (hc : ∀ p r, A = p :: r → c ≤ p.1) : Rc c (q6z A c) ∧ wzz A c = get A c ∧ ∀ k, k ≠ c → get (q6z A c) k = get A k := by
 cases A with
 | nil => exact ⟨trivial, rfl, fun _ _ => rfl⟩
 | cons p r =>
  have hcp := hc p r rfl
  by_cases he : p.1 = c
  ·have e1 : q6z (p :: r) c = r := by simp [q6z, he]
   rw [e1]
   refine ⟨he ▸ h.2, by simp [wzz, get, he], fun k hk => ?_⟩
   simp only [get]
   rw [if_neg (by omega)]
  ·have e1 : q6z (p :: r) c = p :: r := by simp [q6z, he]
   rw [e1]
   refine ⟨⟨by omega, h.2⟩, ?_, fun _ _ => rfl⟩
   have hlow : get (p :: r) c = 2 := wYz (b := c) (show Rc c (p :: r) from ⟨by omega, h.2⟩) (by omega)
   rw [hlow]
   simp [wzz, he]
theorem jyz (h : 0 < A.length + C.length) : (∀ p r, A = p :: r → fore A C ≤ p.1) ∧ (∀ p r, C = p :: r → fore A C ≤ p.1) ∧ ∀ b, Rc b A → Rc b C → b < fore A C := by
 cases A with
 | nil =>
  cases C with
  | nil => simp at h
  | cons q s => exact ⟨fun _ _ e => (by cases e), fun p r e => (by cases e; simp [fore]), fun b _ hC => hC.1⟩
 | cons p r =>
  cases C with
  | nil => exact ⟨fun _ _ e => (by cases e; simp [fore]), fun p r e => (by cases e), fun b hA _ => hA.1⟩
  | cons q s =>
   by_cases hpq : p.1 < q.1
   ·have e : fore (p :: r) (q :: s) = p.1 := by simp [fore, hpq]
    rw [e]
    exact ⟨fun _ _ e => (by cases e; omega), fun _ _ e => (by cases e; omega), fun b hA _ => hA.1⟩
   ·have e : fore (p :: r) (q :: s) = q.1 := by simp [fore, hpq]
    rw [e]
    exact ⟨fun _ _ e => (by cases e; omega), fun _ _ e => (by cases e; omega), fun b _ hC => hC.1⟩
theorem vRz (h : Int → Int → Int → Int) (h2 : ∀ k, h k 2 2 = 2) : ∀ (N : Nat) {A C : List (Int × Int)} {b : Int}, A.length + C.length ≤ N → Rc b A → Rc b C →
  Rc b (k4z h (both A C)) ∧ (∀ p ∈ k4z h (both A C), p.2 ≠ 2) ∧ ∀ k, get (k4z h (both A C)) k = h k (get A k) (get C k) := by
 intro N
 induction N with
 | zero =>
  intro A C b hN _ _
  have hA : A = [] := List.eq_nil_of_length_eq_zero (by omega)
  have hC : C = [] := List.eq_nil_of_length_eq_zero (by omega)
  subst hA hC
  exact ⟨trivial, fun p hp => (by cases hp), fun k => (h2 k).symm⟩
 | succ N ih =>
  intro A C b hN hA hC
  by_cases h0 : A.length + C.length = 0
  ·exact ih (by omega) hA hC
  ·obtain ⟨f1, f2, f3⟩ := jyz (A := A) (C := C) (by omega)
   have hbc := f3 b hA hC
   obtain ⟨a1, a2, a3⟩ := xmz (c := fore A C) hA f1
   obtain ⟨c1, c2, c3⟩ := xmz (c := fore A C) hC f2
   have hl := wMz (A := A) (C := C) (by omega)
   obtain ⟨i1, i2, i3⟩ := ih (A := q6z A (fore A C)) (C := q6z C (fore A C)) (b := fore A C) (by omega) a1 c1
   rw [k8z (by omega), u5z]
   dsimp only
   rw [a2, c2]
   by_cases hv : h (fore A C) (get A (fore A C)) (get C (fore A C)) = 2
   ·rw [yPz hv, List.nil_append]
    refine ⟨i1.low (by omega), i2, fun k => ?_⟩
    by_cases hk : k = fore A C
    ·rw [hk, hv]; exact wYz i1 (by omega)
    ·rw [i3, a3 k hk, c3 k hk]
   ·rw [yQz hv]
    simp only [List.nil_append, List.cons_append]
    refine ⟨⟨hbc, i1⟩, fun p hp => ?_, fun k => ?_⟩
    ·rcases List.mem_cons.1 hp with rfl | hp
     ·exact hv
     ·exact i2 p hp
    ·simp only [get]
     by_cases hk : fore A C = k
     ·rw [if_pos hk, ← hk]
     ·rw [if_neg hk, i3, a3 k (Ne.symm hk), c3 k (Ne.symm hk)]
theorem Rc.both_low (h : Rc b A) (k : Rc b' C) : Rc (min b b') A ∧ Rc (min b b') C := ⟨h.low (by omega), k.low (by omega)⟩
variable {h : Int → Int → Int → Int}
theorem unz (h2 : ∀ k, h k 2 2 = 2) (hA : Rc b A) (hC : Rc b' C) (k : Int) : get (k4z h (both A C)) k = h k (get A k) (get C k) :=
 (vRz h h2 _ (lrz _) (hA.both_low hC).1 (hA.both_low hC).2).2.2 k
theorem j1z (h2 : ∀ k, h k 2 2 = 2) (hA : Rc b A) (hC : Rc b' C) (hr : ∀ k, 0 ≤ h k (get A k) (get C k) ∧ h k (get A k) (get C k) ≤ 5) : Fit (k4z h (both A C)) := by
 obtain ⟨r, n2, g⟩ := vRz h h2 _ (lrz _) (hA.both_low hC).1 (hA.both_low hC).2
 refine ⟨⟨_, r⟩, fun p hp => ?_⟩
 have e := k2z r hp
 rw [g] at e
 have := hr p.1
 rw [e] at this
 exact ⟨this.1, this.2, n2 p hp⟩
theorem leq_main : ∀ (N : Nat) {A C : List (Int × Int)} {b : Int}, A.length + C.length ≤ N → Rc b A → Rc b C → (leqB A C = true ↔ ∀ k, Lv.leq (get A k) (get C k) = true) := by
 intro N
 induction N with
 | zero =>
  intro A C b hN _ _
  have hA : A = [] := List.eq_nil_of_length_eq_zero (by omega)
  have hC : C = [] := List.eq_nil_of_length_eq_zero (by omega)
  subst hA hC
  exact ⟨fun _ k => by show Lv.leq 2 2 = true; decide, fun _ => rfl⟩
 | succ N ih =>
  intro A C b hN hA hC
  by_cases h0 : A.length + C.length = 0
  ·exact ih (by omega) hA hC
  ·obtain ⟨f1, f2, f3⟩ := jyz (A := A) (C := C) (by omega)
   obtain ⟨a1, a2, a3⟩ := xmz (c := fore A C) hA f1
   obtain ⟨c1, c2, c3⟩ := xmz (c := fore A C) hC f2
   have hl := wMz (A := A) (C := C) (by omega)
   have i := ih (A := q6z A (fore A C)) (C := q6z C (fore A C)) (b := fore A C) (by omega) a1 c1
   unfold leqB at i ⊢
   rw [k8z (by omega), List.all_cons, Bool.and_eq_true, i]
   dsimp only
   rw [a2, c2]
   refine ⟨fun ⟨h1, h2⟩ k => ?_, fun h => ⟨h _, fun k => ?_⟩⟩
   ·by_cases hk : k = fore A C
    ·rw [hk]; exact h1
    ·have := h2 k; rwa [a3 k hk, c3 k hk] at this
   ·by_cases hk : k = fore A C
    ·rw [hk, wYz a1 (by omega), wYz c1 (by omega)]; decide
    ·rw [a3 k hk, c3 k hk]; exact h k
theorem leqB_iff (hA : Fit A) (hC : Fit C) : leqB A C = true ↔ ∀ k, get A k ≤ get C k := by
 obtain ⟨⟨b, r⟩, l⟩ := hA
 obtain ⟨⟨b', r'⟩, l'⟩ := hC
 rw [leq_main _ (lrz _) (r.both_low r').1 (r.both_low r').2]
 have key : ∀ k, Lv.leq (get A k) (get C k) = true ↔ get A k ≤ get C k := by
  intro k
  have h1 := k1z l k
  have h2 := k1z l' k
  rw [Lv.leq_iff, Lv.lv_of h1.1 h1.2, Lv.lv_of h2.1 h2.2]
 exact ⟨fun h k => (key k).1 (h k), fun h k => (key k).2 (h k)⟩
def vNz (A C : List (Int × Int)) : List (Int × Int) := xhz Lv.join (both A C)
def wsz (A : List (Int × Int)) : List (Int × Int) := xhz (fun x _ => Lv.raise x) (both A [])
theorem Fit.rc {A : List (Int × Int)} (h : Fit A) : ∃ b, Rc b A := h.1
theorem Fit.nil : Fit [] := ⟨⟨0, trivial⟩, fun p hp => (by cases hp)⟩
theorem Fit.range {A : List (Int × Int)} (h : Fit A) (k : Int) : 0 ≤ get A k ∧ get A k ≤ 5 := k1z h.2 k
theorem bnz (hA : Fit A) (hC : Fit C) : Fit (vNz A C) := by
 obtain ⟨b, r⟩ := hA.rc
 obtain ⟨b', r'⟩ := hC.rc
 exact j1z (h := fun _ x y => Lv.join x y) (fun _ => by decide) r r' (fun k => ⟨Lv.join_lo _ _, Lv.join_hi _ _⟩)
theorem uUz {A : List (Int × Int)} (hA : Fit A) (k : Int) : get (wsz A) k = if get A k = 0 then 5 else get A k := by
 obtain ⟨b, r⟩ := hA.rc
 have h := unz (h := fun _ x _ => Lv.raise x) (fun _ => by decide) r (C := []) (b' := 0) trivial k
 have h1 := hA.range k
 unfold Lv.raise at h
 rw [Lv.lv_of h1.1 h1.2] at h
 exact h
theorem jqz {A : List (Int × Int)} (hA : Fit A) : Fit (wsz A) := by
 obtain ⟨b, r⟩ := hA.rc
 exact j1z (h := fun _ x _ => Lv.raise x) (fun _ => by decide) r (C := []) (b' := 0) trivial (fun k => ⟨Lv.raise_lo _, Lv.raise_hi _⟩)
end
section
open Go.ChangeShapes Go.WideShapes Go.ChangeAt Go.RowKit
variable {w : World}
theorem g8z {ao ao' : Option Addr} {k k' cap cap' : Nat} {A C : List (Int × Int)} (hA : Lab w.heap.size w ao k cap A) (hC : Lab w.heap.size w ao' k' cap' C) (hk : k < 274877906944) (hk' : k' < 274877906944) :
  Calls prog 240 #[.slice ao k cap, .slice ao' k' cap'] w fun e w' => ∃ ao1 n1 cap1, e = .returned (.slice ao1 n1 cap1) ∧ OwnL w.heap.size w' ao1 n1 cap1 (xhz Lv.join (both A C)) ∧ Below w.heap.size w w' := by
 go_enter func240, ntmps240
 go_wp2_with (go_at_call 266; refine (uoz hA hC hk hk' 267 #[] (enters_of func267 (by kernel_rfl) rfl) Lv.join (fun x y W _ => by simpa using join_any x y W)).mono ?_; rintro e w1 ⟨ao1, n1, cap1, rfl, ho, hb⟩)
 go_ret
 exact ⟨_, _, _, rfl, ho, hb⟩
theorem bJz (g : Nat) (eg : ∀ args w, (callFunc g args).run prog w = .ok (.enter g args) w) (op : Int → Int) (hf : ∀ (x : Int) (W : World), Calls prog g #[.int .i64 x] W fun e W' => e = .returned (.int .i64 (op x)) ∧ W' = W)
  (x y : Int) (Bf : Nat) (w : World) (hc : w.cell? ⟨Bf, 0, none⟩ = some (.func (.func g) #[] #[])) :
  Calls prog 285 #[.int .i64 x, .int .i64 y, .pointer (some ⟨Bf, 0, none⟩)] w fun e W' => e = .returned (.int .i64 (op x)) ∧ Below w.heap.size w W' := by
 go_enter func285, ntmps285
 go_wp2_with (refine (hf _ _).mono ?_; rintro e w1 ⟨rfl, rfl⟩)
 go_ret
 exact ⟨rfl, brz _ _⟩
variable {ao : Option Addr} {A : List (Int × Int)} {k cap : Nat}
theorem each_any (hA : Lab w.heap.size w ao k cap A) (hk : k < 274877906944)
  (g : Nat) (eg : ∀ args w, (callFunc g args).run prog w = .ok (.enter g args) w) (op : Int → Int) (hf : ∀ (x : Int) (W : World), Calls prog g #[.int .i64 x] W fun e W' => e = .returned (.int .i64 (op x)) ∧ W' = W) :
  Calls prog 268 #[.slice ao k cap, .func (.func g) #[] #[]] w fun e w' => ∃ ao1 n1 cap1, e = .returned (.slice ao1 n1 cap1) ∧ OwnL w.heap.size w' ao1 n1 cap1 (xhz (fun x _ => op x) (both A [])) ∧ Below w.heap.size w w' := by
 have hB0 := (brz w.heap.size w).alloc (lrz _) (.cells #[.func (.func g) #[] #[]] 92)
 have bF := Boxed.new w 92 (.func (.func g) #[] #[])
 have hA1 := hA.next hB0
 have hC1 := Lab.nil (w.alloc (.cells #[.func (.func g) #[] #[]] 92)).heap.size (w.alloc (.cells #[.func (.func g) #[] #[]] 92))
 go_enter func268, ntmps268
 go_wp2_with (go_at_call 266; refine (uoz hA1 hC1 hk (by omega) 285 #[.pointer (some ⟨w.heap.size, 0, none⟩)] (enters_of func285 (by kernel_rfl) rfl) (fun x _ => op x) (fun x y W hW => by simpa using bJz g eg op hf x y w.heap.size W (cell_later hW bF.cell))).mono ?_; rintro e w1 ⟨ao1, n1, cap1, rfl, ho, hb⟩)
 go_ret
 refine ⟨_, _, _, rfl, ?_, hB0.trans (hb.mono (by simp))⟩
 exact g0z (by simp) ho
theorem jrz (hA : Lab w.heap.size w ao k cap A) (hk : k < 274877906944) :
  Calls prog 241 #[.slice ao k cap] w fun e w' => ∃ ao1 n1 cap1, e = .returned (.slice ao1 n1 cap1) ∧ OwnL w.heap.size w' ao1 n1 cap1 (xhz (fun x _ => Lv.raise x) (both A [])) ∧ Below w.heap.size w w' := by
 go_enter func241, ntmps241
 go_wp2_with (go_at_call 268; refine (each_any hA hk 269 (enters_of func269 (by kernel_rfl) rfl) Lv.raise (fun x W => gRz x W)).mono ?_; rintro e w1 ⟨ao1, n1, cap1, rfl, ho, hb⟩)
 go_ret
 exact ⟨_, _, _, rfl, ho, hb⟩
theorem bfz : laidOutB prog = true := by kernel_rfl
def numV : Value → Int
 | .int _ n => n
 | _ => 0
theorem yuz {H : Type} {enc : TypeId × Value → H} {n cap : Nat} {d : DataW H} {ps : List MemPlace}
  (h : DataW.Trod enc prog w 0 (fun _ => true) true 39 (.slice ao n cap) d ps) : ∃ L, Lab w.heap.size w ao n cap L := by
 obtain ⟨fuel, hf⟩ := h
 rcases Go.Deep.open_slice_pairs underlying39 underlying86 (by kernel_rfl) rfl rfl (by kernel_rfl) (by kernel_rfl) hf with ⟨e, _⟩ | ⟨a, len, cap', m, n', V0, V1, D0, D1, P0, P1, e, hb, hl, hm, hmm, _, hx⟩
 ·simp [Value.cells] at e
  obtain ⟨rfl, rfl, rfl⟩ := e
  exact ⟨[], Lab.nil _ _⟩
 ·simp [Value.cells] at e
  obtain ⟨rfl, rfl, rfl⟩ := e
  have hmc : m = cap := by rw [hmm]; rfl
  have key : ∀ i, i < n → w.cell? (a.add (i * 2)) = some (.int .u64 (numV (V0 i))) ∧ w.cell? (a.add (i * 2 + 1)) = some (.int .i64 (numV (V1 i))) := by
   intro i hi
   obtain ⟨c0, c1, t0, t1⟩ := hx i (by omega)
   obtain ⟨x, hx0, _, _⟩ := DataW.trod_int underlying22 t0
   obtain ⟨y, hy0, _, _⟩ := DataW.trod_int underlying3 t1
   simp at hx0 hy0
   rw [hx0] at c0
   rw [hy0] at c1
   rw [hx0, hy0]
   exact ⟨c0, c1⟩
  refine ⟨(List.range n).map fun i => (numV (V0 i), numV (V1 i)), by simp, hl, ⟨by unfold maxLen at hm; omega, fun hz => by cases hz⟩, fun hn => ?_⟩
  have hs : a.spot = none := by
   have h0 := (key 0 hn).1
   have ha : a.add (0 * 2) = a := by simp [Addr.add]
   rw [ha] at h0
   unfold World.cell? at h0
   cases hsp : a.spot with
   | none => rfl
   | some s => split at h0 <;> simp [hsp] at h0
  have hea : a = ⟨a.block, a.off, none⟩ := by cases a; simp at hs; simp [hs]
  have hadd : ∀ j, a.add j = ⟨a.block, a.off + j, none⟩ := by
   intro j
   unfold Addr.add
   split
   ·rename_i hj; subst hj; rw [Nat.add_zero]; exact hea
   ·rfl
  refine ⟨a.block, a.off, by rw [← hea], ?_, fun i hi => ?_⟩
  ·have h0 := (key 0 hn).1
   have := World.block_lt_of_cell? w _ h0
   rwa [hadd] at this
  ·have hk := key i hi
   rw [hadd, hadd] at hk
   have hg : ((List.range n).map fun i => (numV (V0 i), numV (V1 i))).getD i (0, 0) = (numV (V0 i), numV (V1 i)) := by
    rw [List.getD_eq_getElem?_getD, List.getElem?_eq_getElem (by simpa using hi)]; simp
   rw [hg]
   exact ⟨hk.1, by rw [Nat.add_assoc]; exact hk.2⟩
def Labs (w : World) (ls : List (Option Addr × Nat × Nat × List (Int × Int))) : Prop := ∀ x ∈ ls, Lab w.heap.size w x.1 x.2.1 x.2.2.1 x.2.2.2
theorem Labs.nil (w : World) : Labs w [] := fun x hx => by cases hx
variable {ls : List (Option Addr × Nat × Nat × List (Int × Int))} {L : List (Int × Int)}
theorem Labs.push (h : Labs w ls) {n cap : Nat} (l : Lab w.heap.size w ao n cap L) : Labs w ((ao, n, cap, L) :: ls) := fun x hx => by
 rcases List.mem_cons.1 hx with rfl | hx
 ·exact l
 ·exact h x hx
theorem Labs.next {w w' : World} (h : Labs w ls) (k : Below w.heap.size w w') : Labs w' ls := fun x hx => (h x hx).next k
theorem Labs.get (h : Labs w ls) {n cap : Nat} (hm : (ao, n, cap, L) ∈ ls) : Lab w.heap.size w ao n cap L := h _ hm
theorem ljoin_b {ao ao' : Option Addr} {k k' cap cap' : Nat} {A C : List (Int × Int)} (hA : Lab w.heap.size w ao k cap A) (hC : Lab w.heap.size w ao' k' cap' C) (hk : k < 274877906944) (hk' : k' < 274877906944) :
  Calls prog 240 #[.slice ao k cap, .slice ao' k' cap'] w fun e w' => ∃ ao1 n1 cap1, e = .returned (.slice ao1 n1 cap1) ∧ Lab w'.heap.size w' ao1 n1 cap1 (vNz A C) ∧ n1 ≤ k + k' ∧ Below w.heap.size w w' := by
 refine (g8z hA hC hk hk').mono ?_
 rintro e w' ⟨ao1, n1, cap1, rfl, ho, hb⟩
 refine ⟨ao1, n1, cap1, rfl, ho.lab, ?_, hb⟩
 have h1 := ho.1
 have h2 := k3z Lv.join (both A C)
 have h3 := vcz A C
 have h4 := hA.1
 have h5 := hC.1
 omega
theorem udz (hA : Lab w.heap.size w ao k cap A) (hk : k < 274877906944) :
  Calls prog 241 #[.slice ao k cap] w fun e w' => ∃ ao1 n1 cap1, e = .returned (.slice ao1 n1 cap1) ∧ Lab w'.heap.size w' ao1 n1 cap1 (wsz A) ∧ n1 ≤ k ∧ Below w.heap.size w w' := by
 refine (jrz hA hk).mono ?_
 rintro e w' ⟨ao1, n1, cap1, rfl, ho, hb⟩
 refine ⟨ao1, n1, cap1, rfl, ho.lab, ?_, hb⟩
 have h1 := ho.1
 have h2 := k3z (fun x _ => Lv.raise x) (both A [])
 have h3 := vcz A []
 have h4 := hA.1
 simp at h3
 omega
/- What the walks make of 'few'. -/
/-! The order and the lattice, as the statements ask for them. -/
end
section
def Ri : Int → List Int → Prop
 | _, [] => True
 | b, x :: r => b < x ∧ Ri x r
theorem Ri.low {b b' : Int} {C : List Int} (h : Ri b C) (k : b' ≤ b) : Ri b' C := by
 cases C with
 | nil => trivial
 | cons x r => exact ⟨by have := h.1; omega, h.2⟩
end
section
open Go.ChangeShapes Go.WideShapes Go.ChangeAt Go.RowKit
def rj1 (op : Int → Int → Int) (A C : List (Int × Int)) (k : Nat) : List (Int × Int) := (A.take k).foldl (fun O p => wiz O p.1 (op p.2 (get C p.1))) A
def rj2 (op : Int → Int → Int) (A C : List (Int × Int)) (k : Nat) : List (Int × Int) := (C.take k).foldl (fun O q => wiz O q.1 (op (get A q.1) q.2)) (rj1 op A C A.length)
def joz (op : Int → Int → Int) (A C : List (Int × Int)) : List (Int × Int) := rj2 op A C C.length
variable {op : Int → Int → Int} {A C : List (Int × Int)} {x y : Int}
theorem rj1_succ {k : Nat} (h : k < A.length) (e : A.getD k (0, 0) = (x, y)) : rj1 op A C (k + 1) = wiz (rj1 op A C k) x (op y (get C x)) := by
 have e' : A[k] = (x, y) := by simpa [List.getD_eq_getElem?_getD, List.getElem?_eq_getElem h] using e
 unfold rj1
 rw [List.take_succ_eq_append_getElem h, e', List.foldl_append]
 rfl
theorem rj2_succ {k : Nat} (h : k < C.length) (e : C.getD k (0, 0) = (x, y)) : rj2 op A C (k + 1) = wiz (rj2 op A C k) x (op (get A x) y) := by
 have e' : C[k] = (x, y) := by simpa [List.getD_eq_getElem?_getD, List.getElem?_eq_getElem h] using e
 unfold rj2
 rw [List.take_succ_eq_append_getElem h, e', List.foldl_append]
 rfl
def xEz (op : Int → Int) (A : List (Int × Int)) : List (Int × Int) := A.map fun p => (p.1, op p.2)
theorem gMz {op : Int → Int} {A : List (Int × Int)} {k : Nat} (h : k < A.length) (e : A.getD k (0, 0) = (x, y)) : xEz op (A.take (k + 1)) = xEz op (A.take k) ++ [(x, op y)] := by
 have e' : A[k] = (x, y) := by simpa [List.getD_eq_getElem?_getD, List.getElem?_eq_getElem h] using e
 unfold xEz
 rw [List.take_succ_eq_append_getElem h, e', List.map_append]
 rfl
theorem uQz {w : World} {ao ao' : Option Addr} {n n' cap cap' : Nat} {L L' : List (Int × Int)} (hL : Lab w.heap.size w ao n cap L) (hL' : Lab w.heap.size w ao' n' cap' L') (hk : n < 68719476736) (hk' : n' < 68719476736) :
  Calls prog 126 #[.slice ao n cap, .slice ao' n' cap'] w fun e w' => ∃ ao1 n1 cap1, e = .returned (.slice ao1 n1 cap1) ∧ Lab w'.heap.size w' ao1 n1 cap1 (joz Lv.join L L') ∧ n1 ≤ 2 * n + n' ∧ Below w.heap.size w w' := by
 have hn := hL.1
 have hcm := hL.2.2.1.1
 have hnc := hL.2.1
 have hn' := hL'.1
 have hcm' := hL'.2.2.1.1
 have hnc' := hL'.2.1
 go_enter func126, ntmps126
 go_wp2
 go_loopw [5, 6] (fun v i wr => ∃ (k : Nat) (ao1 : Option Addr) (n1 cap1 : Nat), k ≤ n ∧ i = .int .i64 k ∧ v = .slice ao1 n1 cap1 ∧ n1 ≤ n + k ∧ Lab wr.heap.size wr ao1 n1 cap1 (rj1 Lv.join L L' k) ∧ Below w.heap.size w wr) (fun _ i _ => n - (intOf i).toNat)
 case atStart => exact ⟨0, _, _, _, Nat.zero_le _, rfl, rfl, lrz _, hL, brz _ _⟩
 case round =>
  obtain ⟨k, ao1, n1, cap1, hkn, rfl, rfl, hn1, hO, hb⟩ := hrel
  have hbs := hb.size
  by_cases hlt : k < n
  ·obtain ⟨b, off, x, y, hao, hbB, d0, d1, hxy⟩ := hL.at hb hlt
   subst hao
   have hlt' : (k : Int) < n := by omega
   have hL1 := hL'.later hb.drew
   have hO1 := hO.later (brz wr.heap.size wr).drew
   have hs : Hid (rj1 Lv.join L L' (k + 1) = wiz (rj1 Lv.join L L' k) x (Lv.join y (get L' x))) := rj1_succ (by omega) hxy.out
   clear hL hL' hO
   go_wp2
   go_region_held3 (fun w' => w'.cell? ⟨b, off + k * 2, none⟩ = some (.int .u64 x) ∧ w'.cell? ⟨b, off + k * 2 + 1, none⟩ = some (.int .i64 y)) (go_keep) (first | (go_at_call 45; refine (xpz _ hL1).mono ?_; rintro e w' ⟨rfl, rfl⟩) | (go_at_call 167; refine (vxz _ _ _).mono ?_; rintro e w' ⟨rfl, rfl⟩) | (go_at_call 166; refine (vvz _ _ hO1 (lrz _) (by omega)).mono ?_; rintro e w1 ⟨ao2, n2, cap2, rfl, ho2, hb2⟩; have e0 := cell_later hb2 d0; have e1 := cell_later hb2 d1))
   go_wp2
   go_roundw
   case rel => exact ⟨k + 1, ao2, n2, cap2, by omega, by go_num, rfl, by have h1 := ho2.1; have h2 := jnz (rj1 Lv.join L L' k) x (Lv.join y (get L' x)); have h3 := hO1.1; omega, by rw [hs.out]; exact ho2.lab, hb.drew.trans (hb2.mono hbs)⟩
   case measure => simp [intOf]; omega
  ·have hkn2 : k = n := by omega
   subst hkn2
   have hO' : Lab wr.heap.size wr ao1 n1 cap1 (rj2 Lv.join L L' 0) := by
    have h : rj2 Lv.join L L' 0 = rj1 Lv.join L L' k := by unfold rj2; rw [hn]; rfl
    rw [h]; exact hO
   clear hO
   go_wp2
   go_loopw [5, 7] (fun v i wr => ∃ (j : Nat) (ao1 : Option Addr) (n1 cap1 : Nat), j ≤ n' ∧ i = .int .i64 j ∧ v = .slice ao1 n1 cap1 ∧ n1 ≤ 2 * k + j ∧ Lab wr.heap.size wr ao1 n1 cap1 (rj2 Lv.join L L' j) ∧ Below w.heap.size w wr) (fun _ i _ => n' - (intOf i).toNat)
   case atStart => exact ⟨0, _, _, _, Nat.zero_le _, rfl, rfl, by omega, hO', hb⟩
   case round =>
    clear hO' hb hbs hn1
    obtain ⟨j, ao1, n1, cap1, hjn, rfl, rfl, hn1, hO, hb⟩ := hrel
    have hbs := hb.size
    by_cases hlt : j < n'
    ·obtain ⟨b, off, x, y, hao, hbB, d0, d1, hxy⟩ := hL'.at hb hlt
     subst hao
     have hlt' : (j : Int) < n' := by omega
     have hL1 := hL.later hb.drew
     have hO1 := hO.later (brz wr.heap.size wr).drew
     have hs : Hid (rj2 Lv.join L L' (j + 1) = wiz (rj2 Lv.join L L' j) x (Lv.join (get L x) y)) := rj2_succ (by omega) hxy.out
     clear hL hL' hO
     go_wp2
     go_region_held3 (fun w' => w'.cell? ⟨b, off + j * 2, none⟩ = some (.int .u64 x) ∧ w'.cell? ⟨b, off + j * 2 + 1, none⟩ = some (.int .i64 y)) (go_keep) (first | (go_at_call 45; refine (xpz _ hL1).mono ?_; rintro e w' ⟨rfl, rfl⟩) | (go_at_call 167; refine (vxz _ _ _).mono ?_; rintro e w' ⟨rfl, rfl⟩) | (go_at_call 166; refine (vvz _ _ hO1 (lrz _) (by omega)).mono ?_; rintro e w1 ⟨ao2, n2, cap2, rfl, ho2, hb2⟩; have e0 := cell_later hb2 d0; have e1 := cell_later hb2 d1))
     go_wp2
     go_roundw
     case rel => exact ⟨j + 1, ao2, n2, cap2, by omega, by go_num, rfl, by have h1 := ho2.1; have h2 := jnz (rj2 Lv.join L L' j) x (Lv.join (get L x) y); have h3 := hO1.1; omega, by rw [hs.out]; exact ho2.lab, hb.drew.trans (hb2.mono hbs)⟩
     case measure => simp [intOf]; omega
    ·have hj : j = n' := by omega
     subst hj
     have hr : Hid (joz Lv.join L L' = rj2 Lv.join L L' j) := by show rj2 Lv.join L L' L'.length = _; rw [hn']
     clear hL hL'
     go_wp2
     go_ret
     exact ⟨_, _, _, rfl, by rw [hr.out]; exact hO, by omega, hb⟩
theorem ymz {w : World} {ao : Option Addr} {n cap : Nat} {L : List (Int × Int)} (hL : Lab w.heap.size w ao n cap L) (hk : n < 68719476736) :
  Calls prog 21 #[.slice ao n cap] w fun e w' => ∃ ao1 n1 cap1, e = .returned (.slice ao1 n1 cap1) ∧ Lab w'.heap.size w' ao1 n1 cap1 (xEz Lv.raise L) ∧ n1 ≤ n ∧ Below w.heap.size w w' := by
 obtain ⟨i0, hi, hz0, hz1, hz2⟩ := info_parts j0z
 have hn := hL.1
 have hcm := hL.2.2.1.1
 have hnc := hL.2.1
 go_enter func21, ntmps21
 go_wp2
 go_loopw [3, 4] (fun v i wr => ∃ (k : Nat) (ao1 : Option Addr) (cap1 : Nat), k ≤ n ∧ i = .int .i64 k ∧ v = .slice ao1 k cap1 ∧ OwnL w.heap.size wr ao1 k cap1 (xEz Lv.raise (L.take k)) ∧ Below w.heap.size w wr) (fun _ i _ => n - (intOf i).toNat)
 case atStart => exact ⟨0, _, _, Nat.zero_le _, rfl, rfl, OwnL.nil _ _, brz _ _⟩
 case round =>
  obtain ⟨k, ao1, cap1, hkn, rfl, rfl, hO, hb⟩ := hrel
  have hbs := hb.size
  by_cases hlt : k < n
  ·obtain ⟨b, off, x, y, hao, hbB, d0, d1, hxy⟩ := hL.at hb hlt
   subst hao
   have hbw : b < wr.heap.size := by omega
   have hlt' : (k : Int) < n := by omega
   obtain ⟨hOl, hrow⟩ := hO
   have hs : Hid (xEz Lv.raise (L.take (k + 1)) = xEz Lv.raise (L.take k) ++ [(x, Lv.raise y)]) := gMz (by omega) hxy.out
   have HOl : Hid ((xEz Lv.raise (L.take k)).length = k) := hOl
   clear hL hOl
   go_wp2
   go_region_held3 (fun w' => w'.cell? ⟨b, off + k * 2, none⟩ = some (.int .u64 x) ∧ w'.cell? ⟨b, off + k * 2 + 1, none⟩ = some (.int .i64 y)) (go_keep) (first | (go_at_call 46; refine (uKz _ _).mono ?_; rintro e w' ⟨rfl, rfl⟩) | (refine step_append_lies _ rfl _ _ 39 rfl w.heap.size 86 i0 (.agg #[.int .u64 0, .int .i64 0]) 2 16 underlying39 hi hz0 hz1 hz2 rfl (by decide) _ _ _ rfl (hrow.drew.alloc _) ⟨wr.heap.size, 0, none⟩ 1 1 [.int .u64 x, .int .i64 (Lv.raise y)] rfl rfl (wcz wr.drew _ _ _) (by simp [Value.oneCell']) (by omega) (by unfold maxLen; omega) (by omega) (by simp; omega) _ rfl ?_; intro g1 cp1 w1 hown1 hgrow1 hat hlt1; have hb1 := wGz hb.drew hrow.drew hgrow1 hbs; have e0 := (hb1.cell (p := ⟨b, off + k * 2, none⟩) hbB).trans ((hb.cell (p := ⟨b, off + k * 2, none⟩) hbB).symm.trans d0); have e1 := (hb1.cell (p := ⟨b, off + k * 2 + 1, none⟩) hbB).trans ((hb.cell (p := ⟨b, off + k * 2 + 1, none⟩) hbB).symm.trans d1)))
   go_wp2
   go_roundw
   case rel => exact ⟨k + 1, some ⟨g1, 0, none⟩, cp1, by omega, by go_num, rfl, ⟨by rw [hs.out]; simp [HOl.out], by rw [hs.out, qZz]; exact hown1⟩, hb1⟩
   case measure => simp [intOf]; omega
  ·have hkn2 : k = n := by omega
   subst hkn2
   have hr : Hid (xEz Lv.raise (L.take k) = xEz Lv.raise L) := by show xEz Lv.raise (L.take k) = _; rw [List.take_of_length_le (by omega)]
   clear hL
   go_wp2
   go_ret
   exact ⟨_, _, _, rfl, by rw [← hr.out]; exact hO.lab, lrz _, hb⟩
end
section
theorem wl_main (c l : Int) : ∀ (L : List (Int × Int)) (b : Int) (d : Bool), Rc b L → (d = true ∨ b < c) → Rc b (wl c l d L) ∧ (∀ k, get (wl c l d L) k = if k = c then (if d = true then 2 else l) else get L k) ∧ ∀ q ∈ wl c l d L, q ∈ L ∨ d = false ∧ q = (c, l) := by
 intro L
 induction L with
 | nil =>
  intro b d _ hd
  cases d with
  | true => exact ⟨trivial, fun k => (by simp [wl, get]), fun q hq => (by simp [wl] at hq)⟩
  | false =>
   refine ⟨?_, fun k => ?_, fun q hq => .inr ⟨rfl, by simpa [wl] using hq⟩⟩
   ·rcases hd with h | h
    ·cases h
    ·exact ⟨h, trivial⟩
   ·by_cases hk : k = c
    ·subst hk; simp [wl, get]
    ·simp [wl, get, hk]; intro h; exact absurd h.symm hk
 | cons p r ih =>
  intro b d hR hd
  have hbp := hR.1
  cases d with
  | true =>
   obtain ⟨i1, i2, i3⟩ := ih p.1 true hR.2 (.inl rfl)
   by_cases hpc : p.1 = c
   ·have e : wl c l true (p :: r) = wl c l true r := by simp [wl, hpc]
    rw [e]
    refine ⟨i1.low (by omega), fun k => ?_, fun q hq => ?_⟩
    ·rw [i2]
     by_cases hk : k = c
     ·simp [hk]
     ·simp only [get]; rw [if_neg hk, if_neg hk, if_neg (by omega)]
    ·rcases i3 q hq with h | h
     ·exact .inl (by simp [h])
     ·exact .inr h
   ·have e : wl c l true (p :: r) = p :: wl c l true r := by simp [wl, hpc]
    rw [e]
    refine ⟨⟨hbp, i1⟩, fun k => ?_, fun q hq => ?_⟩
    ·simp only [get]
     rw [i2]
     by_cases hk : k = c
     ·rw [if_neg (by omega)]; simp [hk]
     ·rw [if_neg hk, if_neg hk]
    ·rcases List.mem_cons.1 hq with rfl | hq
     ·exact .inl (by simp)
     ·rcases i3 q hq with h | h
      ·exact .inl (by simp [h])
      ·exact .inr h
  | false =>
   have hbc : b < c := by rcases hd with h | h; cases h; exact h
   by_cases hcp : c < p.1
   ·obtain ⟨i1, i2, i3⟩ := ih p.1 true hR.2 (.inl rfl)
    have hpc : ¬ p.1 = c := by omega
    have e : wl c l false (p :: r) = (c, l) :: p :: wl c l true r := by simp [wl, hpc, hcp]
    rw [e]
    refine ⟨⟨hbc, hcp, i1⟩, fun k => ?_, fun q hq => ?_⟩
    ·simp only [get]
     rw [i2]
     by_cases hk : k = c
     ·rw [if_pos hk.symm, if_pos hk]; rfl
     ·rw [if_neg (fun h => hk h.symm), if_neg hk, if_neg hk]
    ·rcases List.mem_cons.1 hq with rfl | hq
     ·exact .inr ⟨rfl, rfl⟩
     ·rcases List.mem_cons.1 hq with rfl | hq
      ·exact .inl (by simp)
      ·rcases i3 q hq with h | h
       ·exact .inl (by simp [h])
       ·exact absurd h.1 (by simp)
   ·by_cases hpc : p.1 = c
    ·obtain ⟨i1, i2, i3⟩ := ih (c - 1) false (hR.2.low (by omega)) (.inr (by omega))
     have e : wl c l false (p :: r) = wl c l false r := by simp [wl, hpc]
     rw [e]
     refine ⟨i1.low (by omega), fun k => ?_, fun q hq => ?_⟩
     ·rw [i2]
      by_cases hk : k = c
      ·simp [hk]
      ·simp only [get]; rw [if_neg hk, if_neg hk, if_neg (by omega)]
     ·rcases i3 q hq with h | h
      ·exact .inl (by simp [h])
      ·exact .inr h
    ·obtain ⟨i1, i2, i3⟩ := ih p.1 false hR.2 (.inr (by omega))
     have e : wl c l false (p :: r) = p :: wl c l false r := by simp [wl, hpc, hcp]
     rw [e]
     refine ⟨⟨hbp, i1⟩, fun k => ?_, fun q hq => ?_⟩
     ·simp only [get]
      rw [i2]
      by_cases hk : k = c
      ·rw [if_neg (by omega), if_pos hk, if_pos hk]
      ·rw [if_neg hk, if_neg hk]
     ·rcases List.mem_cons.1 hq with rfl | hq
      ·exact .inl (by simp)
      ·rcases i3 q hq with h | h
       ·exact .inl (by simp [h])
       ·exact .inr h
variable {L : List (Int × Int)}
theorem ykz (hL : Fit L) {c l : Int} (hl : 0 ≤ l ∧ l ≤ 5) : Fit (wiz L c l) ∧ ∀ k, get (wiz L c l) k = if k = c then l else get L k := by
 obtain ⟨⟨b, r⟩, lv⟩ := hL
 obtain ⟨h1, h2, h3⟩ := wl_main c l L (min b (c - 1)) (l == 2) (r.low (by omega)) (.inr (by omega))
 unfold wiz
 refine ⟨⟨⟨_, h1⟩, fun q hq => ?_⟩, fun k => ?_⟩
 ·rcases h3 q hq with h | ⟨h, rfl⟩
  ·exact lv q h
  ·exact ⟨hl.1, hl.2, by simpa using h⟩
 ·rw [h2]
  by_cases h : l = 2
  ·subst h; simp
  ·have : (l == 2) = false := by simpa using h
   rw [this]; simp
theorem x6z {k : Int} (h : get L k ≠ 2) : ∃ p ∈ L, p.1 = k ∧ p.2 = get L k := by
 induction L with
 | nil => simp [get] at h
 | cons p r ih =>
  simp only [get] at h ⊢
  by_cases hp : p.1 = k
  ·rw [if_pos hp]; exact ⟨p, by simp, hp, rfl⟩
  ·rw [if_neg hp] at h ⊢
   obtain ⟨q, h1, h2, h3⟩ := ih h
   exact ⟨q, by simp [h1], h2, h3⟩
variable {A C : List (Int × Int)}
theorem xFz (hA : Fit A) (hC : Fit C) : wWz A C = leqB A C := by
 obtain ⟨b, rA⟩ := hA.rc
 obtain ⟨b', rC⟩ := hC.rc
 have key : ∀ k, Lv.leq (get A k) (get C k) = true ↔ get A k ≤ get C k := by
  intro k
  have h1 := hA.range k
  have h2 := hC.range k
  rw [Lv.leq_iff, Lv.lv_of h1.1 h1.2, Lv.lv_of h2.1 h2.2]
 rw [Bool.eq_iff_iff, leqB_iff hA hC]
 unfold wWz
 rw [Bool.and_eq_true, List.all_eq_true, List.all_eq_true]
 constructor
 ·rintro ⟨h1, h2⟩ k
  by_cases hk : get A k = 2
  ·by_cases hk' : get C k = 2
   ·omega
   ·obtain ⟨q, hq, rfl, e⟩ := x6z hk'
    have := h2 q hq
    rw [e] at this
    exact (key _).1 this
  ·obtain ⟨p, hp, rfl, e⟩ := x6z hk
   have := h1 p hp
   rw [e] at this
   exact (key _).1 this
 ·intro h
  refine ⟨fun p hp => ?_, fun q hq => ?_⟩
  ·have e := k2z rA hp
   have := (key p.1).2 (h p.1)
   rwa [e] at this
  ·have e := k2z rC hq
   have := (key q.1).2 (h q.1)
   rwa [e] at this
theorem gAz (J : Int → Int) (hJ : ∀ k, 0 ≤ J k ∧ J k ≤ 5) (f : Int × Int → Int) : ∀ (ps O : List (Int × Int)), (∀ p ∈ ps, f p = J p.1) → Fit O →
  Fit (ps.foldl (fun O p => wiz O p.1 (f p)) O) ∧ ∀ k, get (ps.foldl (fun O p => wiz O p.1 (f p)) O) k = if k ∈ ps.map Prod.fst then J k else get O k := by
 intro ps
 induction ps with
 | nil => intro O _ hO; exact ⟨hO, fun k => by simp⟩
 | cons p r ih =>
  intro O hf hO
  have hp := hf p (by simp)
  obtain ⟨h1, h2⟩ := ykz hO (c := p.1) (l := f p) (by rw [hp]; exact hJ p.1)
  obtain ⟨i1, i2⟩ := ih (wiz O p.1 (f p)) (fun q hq => hf q (by simp [hq])) h1
  refine ⟨i1, fun k => ?_⟩
  simp only [List.foldl_cons]
  rw [i2, h2, hp]
  rw [List.map_cons]
  by_cases hm : k ∈ r.map Prod.fst
  ·rw [if_pos hm, if_pos (List.mem_cons_of_mem _ hm)]
  ·rw [if_neg hm]
   by_cases hk : k = p.1
   ·subst hk; rw [if_pos rfl, if_pos (List.mem_cons_self)]
   ·rw [if_neg hk, if_neg (fun h => (List.mem_cons.1 h).elim hk hm)]
theorem bzz {k : Int} (h : k ∉ L.map Prod.fst) : get L k = 2 := by
 by_cases hk : get L k = 2
 ·exact hk
 ·obtain ⟨p, hp, e, _⟩ := x6z hk
  exact absurd (List.mem_map.2 ⟨p, hp, e⟩) h
theorem rfold_eq {op : Int → Int → Int} (h2 : op 2 2 = 2) (hop : ∀ x y, 0 ≤ op x y ∧ op x y ≤ 5) (hA : Fit A) (hC : Fit C) : joz op A C = xhz op (both A C) := by
 obtain ⟨b, rA⟩ := hA.rc
 obtain ⟨b', rC⟩ := hC.rc
 have hJ : ∀ k, 0 ≤ op (get A k) (get C k) ∧ op (get A k) (get C k) ≤ 5 := fun k => hop _ _
 obtain ⟨f1, g1⟩ := gAz (fun k => op (get A k) (get C k)) hJ (fun p => op p.2 (get C p.1)) A A (fun p hp => by rw [k2z rA hp]) hA
 obtain ⟨f2, g2⟩ := gAz (fun k => op (get A k) (get C k)) hJ (fun q => op (get A q.1) q.2) C _ (fun q hq => by rw [k2z rC hq]) f1
 have e : joz op A C = C.foldl (fun O q => wiz O q.1 (op (get A q.1) q.2)) (A.foldl (fun O p => wiz O p.1 (op p.2 (get C p.1))) A) := by
  unfold joz rj2 rj1
  rw [List.take_length, List.take_length]
 rw [e]
 refine ext f2 (j1z (h := fun _ x y => op x y) (fun _ => h2) rA rC hJ) fun k => ?_
 rw [g2, g1]
 refine Eq.trans ?_ (unz (h := fun _ x y => op x y) (fun _ => h2) rA rC k).symm
 by_cases h1 : k ∈ C.map Prod.fst
 ·rw [if_pos h1]
 ·rw [if_neg h1]
  by_cases h3 : k ∈ A.map Prod.fst
  ·rw [if_pos h3]
  ·rw [if_neg h3, bzz h3, bzz h1, h2]
theorem rjoin_eq (hA : Fit A) (hC : Fit C) : joz Lv.join A C = vNz A C := rfold_eq (by decide) (fun x y => ⟨Lv.join_lo x y, Lv.join_hi x y⟩) hA hC
theorem rmap_get {op : Int → Int} (h2 : op 2 = 2) (A : List (Int × Int)) (k : Int) : get (xEz op A) k = op (get A k) := by
 induction A with
 | nil => exact h2.symm
 | cons p r ih =>
  show get ((p.1, op p.2) :: xEz op r) k = _
  simp only [get]
  split
  ·rfl
  ·exact ih
theorem rmap_rc {op : Int → Int} : ∀ {A : List (Int × Int)} {b : Int}, Rc b A → Rc b (xEz op A) := by
 intro A
 induction A with
 | nil => intro b _; trivial
 | cons p r ih => intro b h; exact ⟨h.1, ih h.2⟩
theorem gIz {A : List (Int × Int)} (hA : Fit A) : xEz Lv.raise A = wsz A := by
 obtain ⟨b, rA⟩ := hA.rc
 refine ext ⟨⟨b, rmap_rc rA⟩, fun p hp => ?_⟩ (jqz hA) fun k => ?_
 ·obtain ⟨q, hq, rfl⟩ := List.mem_map.1 hp
  have h := hA.2 q hq
  show lok (Lv.raise q.2)
  unfold Lv.raise
  rw [Lv.lv_of h.1 h.2.1]
  split
  ·exact ⟨by omega, by omega, by omega⟩
  ·exact h
 ·have h1 := hA.range k
  rw [rmap_get (by decide), uUz hA]
  unfold Lv.raise
  rw [Lv.lv_of h1.1 h1.2]
end
end Go.Proofs.YtloghnpfplljgaaGreat
