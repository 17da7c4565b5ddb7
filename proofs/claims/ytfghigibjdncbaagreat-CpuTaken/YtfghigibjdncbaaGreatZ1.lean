/-
 PROVED HERE: plain facts on labels as lists of pairs of integers (no Go text), and what it means that a slice in memory hol. What is asked stands at each.
-/
import Derived.WalkKit
import Derived.Below
import Derived.OwnWalk
import Derived.Test.YtfghigibjdncbaaGreatZ0
namespace Go.Proofs.YtfghigibjdncbaaGreat
set_option maxRecDepth 100000
set_option maxHeartbeats 8000000
open Go.RowKit

def LabD (D : Nat → Prop) (w : World) (ao : Option Addr) (n cap : Nat) (L : List (Int × Int)) : Prop :=
 L.length = n ∧ n ≤ cap ∧ (cap ≤ 9223372036854775807 ∧ (ao = none → cap = 0)) ∧
 (0 < n → ∃ b off, ao = some ⟨b, off, none⟩ ∧ D b ∧
  ∀ i, i < n → w.cell? ⟨b, off + i * 2, none⟩ = some (.int .u64 (L.getD i (0, 0)).1) ∧ w.cell? ⟨b, off + i * 2 + 1, none⟩ = some (.int .i64 (L.getD i (0, 0)).2))
def Lab (B : Nat) (w : World) (ao : Option Addr) (n cap : Nat) (L : List (Int × Int)) : Prop := LabD (fun b => b < B) w ao n cap L
def Keeps (D : Nat → Prop) (W W' : World) : Prop := W.heap.size ≤ W'.heap.size ∧ ∀ b, D b → W'.heap[b]? = W.heap[b]?
theorem Keeps.refl (D : Nat → Prop) (W : World) : Keeps D W W := ⟨Nat.le_refl _, fun _ _ => rfl⟩
theorem Keeps.trans {D : Nat → Prop} {A B C : World} (h : Keeps D A B) (k : Keeps D B C) : Keeps D A C := ⟨Nat.le_trans h.1 k.1, fun b hb => (k.2 b hb).trans (h.2 b hb)⟩
theorem LabD.later {D : Nat → Prop} {w w' : World} {ao : Option Addr} {n cap : Nat} {L : List (Int × Int)} (h : LabD D w ao n cap L) (k : Keeps D w w') : LabD D w' ao n cap L := by
 obtain ⟨h1, h2, h3, h4⟩ := h
 refine ⟨h1, h2, h3, fun hn => ?_⟩
 obtain ⟨b, off, e, hb, hc⟩ := h4 hn
 refine ⟨b, off, e, hb, fun i hi => ?_⟩
 obtain ⟨c0, c1⟩ := hc i hi
 exact ⟨(World.cell?_of_block (w := w) (a := ⟨b, off + i * 2, none⟩) (k.2 b hb)).trans c0, (World.cell?_of_block (w := w) (a := ⟨b, off + i * 2 + 1, none⟩) (k.2 b hb)).trans c1⟩
theorem LabD.lab {D : Nat → Prop} {w : World} {ao : Option Addr} {n cap : Nat} {L : List (Int × Int)} {B : Nat} (h : LabD D w ao n cap L) (hD : ∀ b, D b → b < B) : Lab B w ao n cap L := by
 obtain ⟨h1, h2, h3, h4⟩ := h
 refine ⟨h1, h2, h3, fun hn => ?_⟩
 obtain ⟨b, off, e, hb, hc⟩ := h4 hn
 exact ⟨b, off, e, hD b hb, hc⟩
theorem Lab.later {w w' : World} {ao : Option Addr} {n cap : Nat} {L : List (Int × Int)} {B : Nat} (h : Lab B w ao n cap L) (k : Below B w w') : Lab B w' ao n cap L := by
 obtain ⟨h1, h2, h3, h4⟩ := h
 refine ⟨h1, h2, h3, fun hn => ?_⟩
 obtain ⟨b, off, e, hb, hc⟩ := h4 hn
 refine ⟨b, off, e, hb, fun i hi => ?_⟩
 obtain ⟨c0, c1⟩ := hc i hi
 exact ⟨(k.cell (p := ⟨b, off + i * 2, none⟩) hb).trans c0, (k.cell (p := ⟨b, off + i * 2 + 1, none⟩) hb).trans c1⟩
theorem Lab.wide {w : World} {ao : Option Addr} {n cap : Nat} {L : List (Int × Int)} {B B' : Nat} (h : Lab B w ao n cap L) (k : B ≤ B') : Lab B' w ao n cap L := by
 obtain ⟨h1, h2, h3, h4⟩ := h
 refine ⟨h1, h2, h3, fun hn => ?_⟩
 obtain ⟨b, off, e, hb, hc⟩ := h4 hn
 exact ⟨b, off, e, Nat.lt_of_lt_of_le hb k, hc⟩
theorem Lab.next {w w' : World} {ao : Option Addr} {n cap : Nat} {L : List (Int × Int)} (h : Lab w.heap.size w ao n cap L) (k : Below w.heap.size w w') : Lab w'.heap.size w' ao n cap L := (h.later k).wide k.size
theorem Lab.len {w : World} {ao : Option Addr} {n cap : Nat} {L : List (Int × Int)} {B : Nat} (h : Lab B w ao n cap L) : L.length = n := h.1
theorem Lab.nil (B : Nat) (w : World) : Lab B w none 0 0 [] := ⟨rfl, Nat.le_refl _, ⟨by omega, fun _ => rfl⟩, fun h => absurd h (by omega)⟩

theorem Lab.at {w wr : World} {ao : Option Addr} {n cap : Nat} {L : List (Int × Int)} {B : Nat} (h : Lab B w ao n cap L) (k : Below B w wr) {i : Nat} (hi : i < n) :
  ∃ (b off : Nat) (x y : Int), ao = some ⟨b, off, none⟩ ∧ b < B ∧ wr.cell? ⟨b, off + i * 2, none⟩ = some (.int .u64 x) ∧ wr.cell? ⟨b, off + i * 2 + 1, none⟩ = some (.int .i64 y) ∧ Hid (L.getD i (0, 0) = (x, y)) := by
 obtain ⟨h1, h2, h3, h4⟩ := h.later k
 obtain ⟨b, off, e, hb, hc⟩ := h4 (by omega)
 exact ⟨b, off, _, _, e, hb, (hc i hi).1, (hc i hi).2, rfl⟩

theorem cellLater {w : World} {a : Addr} {v : Value} (h : w.cell? a = some v) (o : Obj) : (w.alloc o).cell? a = some v := by
 by_cases hb : a.block < w.heap.size
 ·exact (((Below.refl w.heap.size w).alloc (Nat.le_refl _) o).cell hb).trans h
 ·exfalso
  have hn : w.heap[a.block]? = none := by simp; omega
  simp [World.cell?, hn] at h
def get : List (Int × Int) → Int → Int
 | [], _ => 2
 | p :: r, c => if p.1 = c then p.2 else get r c
def okAt (L : List (Int × Int)) (k : Nat) : Bool := Lv.fit (L.getD k (0, 0)).2 && (!decide ((L.getD k (0, 0)).2 = 2) && (decide (k = 0) || decide ((L.getD (k - 1) (0, 0)).1 < (L.getD k (0, 0)).1)))
def fitB (L : List (Int × Int)) : Bool := (List.range L.length).all (okAt L)
theorem all_succ {p : Nat → Bool} {k : Nat} (h : ∀ i, i < k → p i = true) (hk : p k = true) : ∀ i, i < k + 1 → p i = true := fun i hi => by
 rcases Nat.lt_or_ge i k with h' | h'
 ·exact h i h'
 ·have : i = k := by omega
  rw [this]; exact hk

theorem eq_succ {p q : Nat → Int × Int} {k : Nat} (h : ∀ i, i < k → p i = q i) (hk : p k = q k) : ∀ i, i < k + 1 → p i = q i := fun i hi => by
 rcases Nat.lt_or_ge i k with h' | h'
 ·exact h i h'
 ·have : i = k := by omega
  rw [this]; exact hk

def sameB (A C : List (Int × Int)) : Bool := decide (A = C)
theorem sameB_len {A C : List (Int × Int)} (h : A.length ≠ C.length) : sameB A C = false := by
 unfold sameB; rw [decide_eq_false_iff_not]; exact fun e => h (by rw [e])
theorem sameB_at {A C : List (Int × Int)} {k : Nat} {p q : Int × Int} (e : A.getD k (0, 0) = p) (f : C.getD k (0, 0) = q) (h : p ≠ q) : sameB A C = false := by
 unfold sameB; rw [decide_eq_false_iff_not]; intro x; rw [x] at e; exact h (e.symm.trans f)
theorem sameB_all {A C : List (Int × Int)} (h : A.length = C.length) (k : ∀ i, i < A.length → A.getD i (0, 0) = C.getD i (0, 0)) : sameB A C = true := by
 unfold sameB; rw [decide_eq_true_iff]
 apply List.ext_getElem h
 intro i h1 h2
 have := k i h1
 simpa [List.getD_eq_getElem?_getD, List.getElem?_eq_getElem h1, List.getElem?_eq_getElem h2] using this
def takeV : List (Int × Int) → Int → Int
 | [], _ => 2
 | p :: _, c => if p.1 = c then p.2 else 2
def takeR : List (Int × Int) → Int → List (Int × Int)
 | [], _ => []
 | p :: r, c => if p.1 = c then r else p :: r
def fore : List (Int × Int) → List (Int × Int) → Int
 | [], [] => 0
 | p :: _, [] => p.1
 | [], q :: _ => q.1
 | p :: _, q :: _ => if p.1 < q.1 then p.1 else q.1

end Go.Proofs.YtfghigibjdncbaaGreat
