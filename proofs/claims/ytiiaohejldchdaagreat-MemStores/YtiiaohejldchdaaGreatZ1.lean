/-
 PROVED HERE: plain facts on labels as lists of pairs of integers (no Go text), and what it means that a slice in memory hol. What is asked stands at each.
-/
import Derived.WalkKit
import Derived.Below
import Derived.OwnWalk
import Derived.Test.YtiiaohejldchdaaGreatZ0
namespace Go.Proofs.YtiiaohejldchdaaGreat
set_option maxRecDepth 100000
set_option maxHeartbeats 8000000
open Go.RowKit

def LabD (D : Nat → Prop) (w : World) (ao : Option Addr) (n cap : Nat) (L : List (Int × Int)) : Prop :=
 L.length = n ∧ n ≤ cap ∧ (cap ≤ 9223372036854775807 ∧ (ao = none → cap = 0)) ∧
 (0 < n → ∃ b off, ao = some ⟨b, off, none⟩ ∧ D b ∧
  ∀ i, i < n → w.cell? ⟨b, off + i * 2, none⟩ = some (.int .u64 (L.getD i (0, 0)).1) ∧ w.cell? ⟨b, off + i * 2 + 1, none⟩ = some (.int .i64 (L.getD i (0, 0)).2))
def Lab (B : Nat) (w : World) (ao : Option Addr) (n cap : Nat) (L : List (Int × Int)) : Prop := LabD (fun b => b < B) w ao n cap L
def Keeps (D : Nat → Prop) (W W' : World) : Prop := W.heap.size ≤ W'.heap.size ∧ ∀ b, D b → W'.heap[b]? = W.heap[b]?
theorem Keeps.refl (D : Nat → Prop) (W : World) : Keeps D W W := ⟨Nat.le_refl _, fun _ _ => rfl⟩
theorem Keeps.trans {D : Nat → Prop} {A B C : World} (h : Keeps D A B) (k : Keeps D B C) : Keeps D A C := ⟨Nat.le_trans h.1 k.1, fun b hb => (k.2 b hb).trans (h.2 b hb)⟩
theorem keeps_of_below {B : Nat} {W W' : World} (h : Below B W W') : Keeps (fun b => b < B) W W' := ⟨h.size, fun b hb => h.block b hb⟩
theorem LabD.later {D : Nat → Prop} {w w' : World} {ao : Option Addr} {n cap : Nat} {L : List (Int × Int)} (h : LabD D w ao n cap L) (k : Keeps D w w') : LabD D w' ao n cap L := by
 obtain ⟨h1, h2, h3, h4⟩ := h
 refine ⟨h1, h2, h3, fun hn => ?_⟩
 obtain ⟨b, off, e, hb, hc⟩ := h4 hn
 refine ⟨b, off, e, hb, fun i hi => ?_⟩
 obtain ⟨c0, c1⟩ := hc i hi
 exact ⟨(World.cell?_of_block (w := w) (a := ⟨b, off + i * 2, none⟩) (k.2 b hb)).trans c0, (World.cell?_of_block (w := w) (a := ⟨b, off + i * 2 + 1, none⟩) (k.2 b hb)).trans c1⟩
theorem LabD.lab {D : Nat → Prop} {w : World} {ao : Option Addr} {n cap : Nat} {L : List (Int × Int)} {B : Nat} (h : LabD D w ao n cap L) (hD : ∀ b, D b → b < B) : Lab B w ao n cap L := by
 obtain ⟨h1, h2, h3, h4⟩ := h
 refine ⟨h1, h2, h3, fun hn => ?_⟩
 obtain ⟨b, off, e, hb, hc⟩ := h4 hn
 exact ⟨b, off, e, hD b hb, hc⟩
theorem Lab.later {w w' : World} {ao : Option Addr} {n cap : Nat} {L : List (Int × Int)} {B : Nat} (h : Lab B w ao n cap L) (k : Below B w w') : Lab B w' ao n cap L := by
 obtain ⟨h1, h2, h3, h4⟩ := h
 refine ⟨h1, h2, h3, fun hn => ?_⟩
 obtain ⟨b, off, e, hb, hc⟩ := h4 hn
 refine ⟨b, off, e, hb, fun i hi => ?_⟩
 obtain ⟨c0, c1⟩ := hc i hi
 exact ⟨(k.cell (p := ⟨b, off + i * 2, none⟩) hb).trans c0, (k.cell (p := ⟨b, off + i * 2 + 1, none⟩) hb).trans c1⟩
theorem Lab.wide {w : World} {ao : Option Addr} {n cap : Nat} {L : List (Int × Int)} {B B' : Nat} (h : Lab B w ao n cap L) (k : B ≤ B') : Lab B' w ao n cap L := by
 obtain ⟨h1, h2, h3, h4⟩ := h
 refine ⟨h1, h2, h3, fun hn => ?_⟩
 obtain ⟨b, off, e, hb, hc⟩ := h4 hn
 exact ⟨b, off, e, Nat.lt_of_lt_of_le hb k, hc⟩
theorem Lab.next {w w' : World} {ao : Option Addr} {n cap : Nat} {L : List (Int × Int)} (h : Lab w.heap.size w ao n cap L) (k : Below w.heap.size w w') : Lab w'.heap.size w' ao n cap L := (h.later k).wide k.size
theorem Lab.len {w : World} {ao : Option Addr} {n cap : Nat} {L : List (Int × Int)} {B : Nat} (h : Lab B w ao n cap L) : L.length = n := h.1
theorem Lab.nil (B : Nat) (w : World) : Lab B w none 0 0 [] := ⟨rfl, Nat.le_refl _, ⟨by omega, fun _ => rfl⟩, fun h => absurd h (by omega)⟩

theorem Lab.at {w wr : World} {ao : Option Addr} {n cap : Nat} {L : List (Int × Int)} {B : Nat} (h : Lab B w ao n cap L) (k : Below B w wr) {i : Nat} (hi : i < n) :
  ∃ (b off : Nat) (x y : Int), ao = some ⟨b, off, none⟩ ∧ b < B ∧ wr.cell? ⟨b, off + i * 2, none⟩ = some (.int .u64 x) ∧ wr.cell? ⟨b, off + i * 2 + 1, none⟩ = some (.int .i64 y) ∧ Hid (L.getD i (0, 0) = (x, y)) := by
 obtain ⟨h1, h2, h3, h4⟩ := h.later k
 obtain ⟨b, off, e, hb, hc⟩ := h4 (by omega)
 exact ⟨b, off, _, _, e, hb, (hc i hi).1, (hc i hi).2, rfl⟩

theorem cellLater {w : World} {a : Addr} {v : Value} (h : w.cell? a = some v) (o : Obj) : (w.alloc o).cell? a = some v := by
 by_cases hb : a.block < w.heap.size
 ·exact (((Below.refl w.heap.size w).alloc (Nat.le_refl _) o).cell hb).trans h
 ·exfalso
  have hn : w.heap[a.block]? = none := by simp; omega
  simp [World.cell?, hn] at h
theorem wrapN {m : Nat} (h : m < 9223372036854775807) : IntKind.i64.wrap (m : Int) = m := by rw [IntKind.wrap_i64]; omega

def get : List (Int × Int) → Int → Int
 | [], _ => 2
 | p :: r, c => if p.1 = c then p.2 else get r c
theorem get_drop {L : List (Int × Int)} {k : Nat} (h : k < L.length) (c : Int) : get (L.drop k) c = if (L.getD k (0, 0)).1 = c then (L.getD k (0, 0)).2 else get (L.drop (k + 1)) c := by
 rw [List.drop_eq_getElem_cons h]
 simp [get, List.getD_eq_getElem?_getD, List.getElem?_eq_getElem h]
theorem get_hit {L : List (Int × Int)} {k : Nat} {x y c : Int} (h : k < L.length) (e : L.getD k (0, 0) = (x, y)) (hx : x = c) : get (L.drop k) c = y := by
 rw [get_drop h, e, if_pos hx]
theorem get_miss {L : List (Int × Int)} {k : Nat} {x y c : Int} (h : k < L.length) (e : L.getD k (0, 0) = (x, y)) (hx : ¬ x = c) : get (L.drop k) c = get (L.drop (k + 1)) c := by
 rw [get_drop h, e, if_neg hx]
theorem get_end {L : List (Int × Int)} {k : Nat} (h : L.length ≤ k) (c : Int) : get (L.drop k) c = 2 := by
 rw [List.drop_eq_nil_of_le h]; rfl

def okAt (L : List (Int × Int)) (k : Nat) : Bool := Lv.fit (L.getD k (0, 0)).2 && (!decide ((L.getD k (0, 0)).2 = 2) && (decide (k = 0) || decide ((L.getD (k - 1) (0, 0)).1 < (L.getD k (0, 0)).1)))
def fitB (L : List (Int × Int)) : Bool := (List.range L.length).all (okAt L)
theorem fitB_no {L : List (Int × Int)} {k : Nat} (h : k < L.length) (e : okAt L k = false) : fitB L = false := by
 unfold fitB
 rw [List.all_eq_false]
 exact ⟨k, List.mem_range.2 h, by simp [e]⟩
theorem fitB_yes {L : List (Int × Int)} (h : ∀ k, k < L.length → okAt L k = true) : fitB L = true := by
 unfold fitB
 rw [List.all_eq_true]
 exact fun k hk => h k (List.mem_range.1 hk)
theorem okAt_lev {L : List (Int × Int)} {k : Nat} {x y : Int} (e : L.getD k (0, 0) = (x, y)) (h : Lv.fit y = false) : okAt L k = false := by
 unfold okAt; rw [e]; simp [h]
theorem okAt_two {L : List (Int × Int)} {k : Nat} {x y : Int} (e : L.getD k (0, 0) = (x, y)) (h : y = 2) : okAt L k = false := by
 unfold okAt; rw [e]; simp [h]
theorem okAt_cat {L : List (Int × Int)} {k : Nat} {x y x' y' : Int} (e : L.getD k (0, 0) = (x, y)) (e' : L.getD (k - 1) (0, 0) = (x', y')) (hk : 0 < k) (h : x ≤ x') : okAt L k = false := by
 unfold okAt; rw [e, e']
 have h1 : decide (k = 0) = false := by simp; omega
 have h2 : decide (x' < x) = false := by simp; omega
 simp [h1, h2]
theorem okAt_yes {L : List (Int × Int)} {k : Nat} {x y x' y' : Int} (e : L.getD k (0, 0) = (x, y)) (hf : Lv.fit y = true) (h2 : ¬ y = 2) (e' : L.getD (k - 1) (0, 0) = (x', y')) (h : x' < x) : okAt L k = true := by
 unfold okAt; rw [e, e']; simp [hf, h2, h]
theorem okAt_yes0 {L : List (Int × Int)} {x y : Int} (e : L.getD 0 (0, 0) = (x, y)) (hf : Lv.fit y = true) (h2 : ¬ y = 2) : okAt L 0 = true := by
 unfold okAt; rw [e]; simp [hf, h2]
theorem all_succ {p : Nat → Bool} {k : Nat} (h : ∀ i, i < k → p i = true) (hk : p k = true) : ∀ i, i < k + 1 → p i = true := fun i hi => by
 rcases Nat.lt_or_ge i k with h' | h'
 ·exact h i h'
 ·have : i = k := by omega
  rw [this]; exact hk

theorem eq_succ {p q : Nat → Int × Int} {k : Nat} (h : ∀ i, i < k → p i = q i) (hk : p k = q k) : ∀ i, i < k + 1 → p i = q i := fun i hi => by
 rcases Nat.lt_or_ge i k with h' | h'
 ·exact h i h'
 ·have : i = k := by omega
  rw [this]; exact hk

def sameB (A C : List (Int × Int)) : Bool := decide (A = C)
theorem sameB_len {A C : List (Int × Int)} (h : A.length ≠ C.length) : sameB A C = false := by
 unfold sameB; rw [decide_eq_false_iff_not]; exact fun e => h (by rw [e])
theorem sameB_at {A C : List (Int × Int)} {k : Nat} {p q : Int × Int} (e : A.getD k (0, 0) = p) (f : C.getD k (0, 0) = q) (h : p ≠ q) : sameB A C = false := by
 unfold sameB; rw [decide_eq_false_iff_not]; intro x; rw [x] at e; exact h (e.symm.trans f)
theorem sameB_all {A C : List (Int × Int)} (h : A.length = C.length) (k : ∀ i, i < A.length → A.getD i (0, 0) = C.getD i (0, 0)) : sameB A C = true := by
 unfold sameB; rw [decide_eq_true_iff]
 apply List.ext_getElem h
 intro i h1 h2
 have := k i h1
 simpa [List.getD_eq_getElem?_getD, List.getElem?_eq_getElem h1, List.getElem?_eq_getElem h2] using this
theorem sameB_refl (A : List (Int × Int)) : sameB A A = true := by unfold sameB; simp

theorem Lab.head {w : World} {ao : Option Addr} {n cap B : Nat} {p : Int × Int} {r : List (Int × Int)} (h : Lab B w ao n cap (p :: r)) :
  ∃ b off, ao = some ⟨b, off, none⟩ ∧ b < B ∧ w.cell? ⟨b, off, none⟩ = some (.int .u64 p.1) ∧ w.cell? ⟨b, off + 1, none⟩ = some (.int .i64 p.2) ∧ n = r.length + 1 := by
 obtain ⟨h1, h2, h3, h4⟩ := h
 have hn : n = r.length + 1 := by simpa using h1.symm
 obtain ⟨b, off, e, hb, hc⟩ := h4 (by omega)
 have h0 := hc 0 (by omega)
 simp at h0
 exact ⟨b, off, e, hb, h0.1, h0.2, hn⟩
theorem LabD.tail {D : Nat → Prop} {w : World} {b off n cap : Nat} {p : Int × Int} {r : List (Int × Int)} (h : LabD D w (some ⟨b, off, none⟩) n cap (p :: r)) {ao : Option Addr} (ha : ao = some ⟨b, off + 2, none⟩ ∨ ao = some ⟨b, off, none⟩ ∧ r.length = 0) : LabD D w ao r.length (cap - 1) r := by
 obtain ⟨h1, h2, h3, h4⟩ := h
 have hn : n = r.length + 1 := by simpa using h1.symm
 refine ⟨rfl, by omega, ⟨by omega, fun hz => by rcases ha with ha | ha; rw [ha] at hz; cases hz; rw [ha.1] at hz; cases hz⟩, fun hr => ?_⟩
 obtain ⟨b', off', e, hb, hc⟩ := h4 (by omega)
 simp only [Option.some.injEq, Addr.mk.injEq, and_true] at e
 obtain ⟨rfl, rfl⟩ := e
 refine ⟨b, off + 2, by rcases ha with ha | ha; exact ha; omega, hb, fun i hi => ?_⟩
 have := hc (i + 1) (by omega)
 have e1 : off + (i + 1) * 2 = off + 2 + i * 2 := by omega
 rw [e1] at this
 simpa using this
theorem Lab.empty {w : World} {ao : Option Addr} {n cap B : Nat} (h : Lab B w ao n cap []) : n = 0 := by simpa using h.1.symm

def takeV : List (Int × Int) → Int → Int
 | [], _ => 2
 | p :: _, c => if p.1 = c then p.2 else 2
def takeR : List (Int × Int) → Int → List (Int × Int)
 | [], _ => []
 | p :: r, c => if p.1 = c then r else p :: r
def lenOf : Value → Nat
 | .slice _ n _ => n
 | _ => 0
def fore : List (Int × Int) → List (Int × Int) → Int
 | [], [] => 0
 | p :: _, [] => p.1
 | [], q :: _ => q.1
 | p :: _, q :: _ => if p.1 < q.1 then p.1 else q.1

end Go.Proofs.YtiiaohejldchdaaGreat
