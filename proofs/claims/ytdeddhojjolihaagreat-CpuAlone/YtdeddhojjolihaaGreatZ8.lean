/-
 PROVED HERE: plain facts on the maps of an address space as lists of six fields each (no Go text); memory's words for maps . What is asked stands at each.
-/
import Derived.WalkKit
import Derived.RangeFuncNested
import Derived.RangeFuncBound
import Derived.RangeFuncBox
import Derived.Shelf.Abstract
import Derived.Shelf.RegionOpen
import Derived.Below
import Derived.OwnWalk
import Derived.WalkSmall
import Derived.Laws.EntriesVeiled
import Derived.Deep.QuietTactic
import Derived.Test.YtdeddhojjolihaaGreatRows
import Derived.Laws.AppendOwn
import Derived.Laws.OwnMore
import Derived.Laws.AppendOwnNone
import Derived.Maps.AppendAt
import Derived.Deep.RegionHeld3
import Derived.Deep.RegionWith
namespace Go.Proofs.YtdeddhojjolihaaGreat
set_option maxRecDepth 100000
set_option maxHeartbeats 8000000
set_option linter.unusedVariables false
open Go.Proofs.Tryz
section
theorem btp {w W W' : World} (h : Go.RowKit.Below w.heap.size w W) (k : Go.RowKit.Below W.heap.size W W') : Go.RowKit.Below w.heap.size w W' := h.trans (k.mono h.size)
abbrev tp : Bool := true
abbrev fp : Bool := false
end
namespace PgM
namespace Pg
structure Mp where
 va : Int
 n : Int
 cont : Int
 seg : Int
 off : Int
 wr : Bool
instance : Inhabited Mp := ⟨⟨0, 0, 0, 0, 0, false⟩⟩
def I64 (x : Int) : Prop := -9223372036854775808 ≤ x ∧ x ≤ 9223372036854775807
def Mp.ok (m : Mp) : Prop := I64 m.va ∧ I64 m.n ∧ I64 m.off
def oneB (m : Mp) : Bool := decide (0 ≤ m.va ∧ 1 ≤ m.n ∧ 0 ≤ m.off ∧ m.va + m.n ≤ 1048576 ∧ m.off + m.n ≤ 1048576)
theorem oneB_iff {m : Mp} : oneB m = true ↔ 0 ≤ m.va ∧ 1 ≤ m.n ∧ 0 ≤ m.off ∧ m.va + m.n ≤ 1048576 ∧ m.off + m.n ≤ 1048576 := by unfold oneB; rw [decide_eq_true_iff]
def mat (L : List Mp) (i : Nat) : Mp := L.getD i default
def okAt (L : List Mp) (i : Nat) : Bool := oneB (mat L i) && (decide (i = 0) || decide ((mat L (i - 1)).va + (mat L (i - 1)).n ≤ (mat L i).va))
def fitB (L : List Mp) : Bool := decide (L.length ≤ 16) && (List.range L.length).all (okAt L)
def Fit (L : List Mp) : Prop := L.length ≤ 16 ∧ (∀ x ∈ L, oneB x = true) ∧ L.Pairwise (fun x y => x.va + x.n ≤ y.va)
section
variable {L M : List Mp} {i j k : Nat} {m x : Mp} {P : Mp → Bool} {p v : Int}
theorem mat_get (h : i < L.length) : mat L i = L[i] := by unfold mat; rw [List.getD_eq_getElem?_getD, List.getElem?_eq_getElem h]; rfl
theorem jsz (h : i < L.length) : mat L i ∈ L := by rw [mat_get h]; exact List.getElem_mem h
theorem uQz (h : x ∈ L) : ∃ i, i < L.length ∧ mat L i = x := by
 obtain ⟨i, hi, e⟩ := List.mem_iff_getElem.1 h
 exact ⟨i, hi, by rw [mat_get hi]; exact e⟩
theorem gdz (h : 16 < L.length) : fitB L = false := by unfold fitB; rw [decide_eq_false (by omega)]; rfl
theorem fitB_no (h : k < L.length) (e : okAt L k = false) : fitB L = false := by
 unfold fitB
 rw [Bool.and_eq_false_iff]
 right
 rw [List.all_eq_false]
 exact ⟨k, List.mem_range.2 h, by simp [e]⟩
theorem fitB_yes (hl : L.length ≤ 16) (h : ∀ k, k < L.length → okAt L k = true) : fitB L = true := by
 unfold fitB
 rw [decide_eq_true hl, Bool.true_and, List.all_eq_true]
 exact fun k hk => h k (List.mem_range.1 hk)
theorem fit_iff : fitB L = true ↔ Fit L := by
 constructor
 ·intro h
  unfold fitB at h
  rw [Bool.and_eq_true, decide_eq_true_iff, List.all_eq_true] at h
  obtain ⟨h1, h2⟩ := h
  have hok : ∀ k, k < L.length → oneB (mat L k) = true ∧ (0 < k → (mat L (k - 1)).va + (mat L (k - 1)).n ≤ (mat L k).va) := by
   intro k hk
   have := h2 k (List.mem_range.2 hk)
   unfold okAt at this
   rw [Bool.and_eq_true, Bool.or_eq_true, decide_eq_true_iff, decide_eq_true_iff] at this
   exact ⟨this.1, fun h0 => this.2.resolve_left (by omega)⟩
  refine ⟨h1, fun x hx => ?_, ?_⟩
  ·obtain ⟨i, hi, rfl⟩ := uQz hx
   exact (hok i hi).1
  ·rw [List.pairwise_iff_getElem]
   have key : ∀ d i, i + d + 1 < L.length → (mat L i).va + (mat L i).n ≤ (mat L (i + d + 1)).va := by
    intro d
    induction d with
    | zero => intro i hi; exact (hok (i + 1) hi).2 (by omega)
    | succ d ih =>
     intro i hi
     have a := ih i (by omega)
     have b := (hok (i + (d + 1) + 1) hi).2 (by omega)
     have c := oneB_iff.1 (hok (i + d + 1) (by omega)).1
     rw [show i + (d + 1) + 1 - 1 = i + d + 1 by omega] at b
     omega
   intro i j hi hj hij
   have := key (j - i - 1) i (by omega)
   rw [show i + (j - i - 1) + 1 = j by omega, mat_get hi, mat_get hj] at this
   exact this
 ·rintro ⟨h1, h2, h3⟩
  refine fitB_yes h1 fun k hk => ?_
  unfold okAt
  rw [h2 _ (jsz hk), Bool.true_and, Bool.or_eq_true, decide_eq_true_iff, decide_eq_true_iff]
  by_cases h0 : k = 0
  ·exact .inl h0
  ·right
   have := List.pairwise_iff_getElem.1 h3 (k - 1) k (by omega) hk (by omega)
   rw [mat_get hk, mat_get (by omega)]
   exact this
theorem Fit.rise (h : Fit L) (hij : i < j) (hj : j < L.length) : (mat L i).va + (mat L i).n ≤ (mat L j).va := by
 have := List.pairwise_iff_getElem.1 h.2.2 i j (by omega) hj hij
 rw [mat_get hj, mat_get (by omega)]
 exact this
theorem Fit.one (h : Fit L) (hi : i < L.length) : 0 ≤ (mat L i).va ∧ 1 ≤ (mat L i).n ∧ 0 ≤ (mat L i).off ∧ (mat L i).va + (mat L i).n ≤ 1048576 ∧ (mat L i).off + (mat L i).n ≤ 1048576 := oneB_iff.1 (h.2.1 _ (jsz hi))
theorem Fit.nil : Fit [] := ⟨by simp, fun x (hx : x ∈ []) => (by cases hx), List.Pairwise.nil⟩
def ps (P : Mp → Bool) (L : List Mp) : Nat := (L.takeWhile P).length
theorem ps_spec (hk : k ≤ L.length) (h : ∀ i, i < k → P (mat L i) = true) (h' : k < L.length → P (mat L k) = false) : ps P L = k := by
  induction L generalizing k with
  | nil => have : k = 0 := by simpa using hk
           subst this; rfl
  | cons x r ih =>
    cases k with
    | zero =>
      have : P x = false := h' (by simp)
      unfold ps
      rw [List.takeWhile_cons, this]; rfl
    | succ k =>
      have hx : P x = true := h 0 (by omega)
      unfold ps
      rw [List.takeWhile_cons, hx]
      have := ih (k := k) (by simpa using hk) (fun i hi => h (i + 1) (by omega)) (fun hl => h' (by simpa using hl))
      simpa [ps] using this
theorem uBz : ps P L ≤ L.length ∧ (∀ i, i < ps P L → P (mat L i) = true) ∧ (ps P L < L.length → P (mat L (ps P L)) = false) := by
 induction L with
 | nil => exact ⟨Nat.le_refl _, fun i hi => absurd hi (by simp [ps]), fun h => absurd h (by simp)⟩
 | cons x r ih =>
  cases hx : P x with
  | false =>
   have e : ps P (x :: r) = 0 := by unfold ps; rw [List.takeWhile_cons, hx]; rfl
   rw [e]
   exact ⟨Nat.zero_le _, fun i hi => absurd hi (by omega), fun _ => hx⟩
  | true =>
   have e : ps P (x :: r) = ps P r + 1 := by unfold ps; rw [List.takeWhile_cons, hx]; rfl
   rw [e]
   refine ⟨by simpa using ih.1, fun i hi => ?_, fun hl => ih.2.2 (by simpa using hl)⟩
   cases i with
   | zero => exact hx
   | succ i => exact ih.2.1 i (by omega)
theorem ps_le : ps P L ≤ L.length := uBz.1
def eP (p : Int) (x : Mp) : Bool := decide (x.va + x.n ≤ p)
def hasB (x : Mp) (p : Int) : Bool := decide (x.va ≤ p ∧ p < x.va + x.n)
theorem eP_iff : eP p x = true ↔ x.va + x.n ≤ p := by unfold eP; rw [decide_eq_true_iff]
theorem eP_no : eP p x = false ↔ p < x.va + x.n := by unfold eP; rw [decide_eq_false_iff_not]; omega
theorem hasB_iff : hasB x p = true ↔ x.va ≤ p ∧ p < x.va + x.n := by unfold hasB; rw [decide_eq_true_iff]
def Falls (P : Mp → Bool) (L : List Mp) : Prop := ∀ i j, i < j → j < L.length → P (mat L j) = true → P (mat L i) = true
theorem falls_e (h : Fit L) : Falls (eP p) L := fun i j hij hj e => by
 rw [eP_iff] at e ⊢
 have := h.rise hij hj
 have := (h.one hj).2.1
 omega
def fnd (L : List Mp) (p : Int) : Option Mp := if ps (eP p) L < L.length ∧ (mat L (ps (eP p) L)).va ≤ p then some (mat L (ps (eP p) L)) else none
theorem fnd_some (h : Fit L) : fnd L p = some x ↔ x ∈ L ∧ hasB x p = true := by
 obtain ⟨h1, h2, h3⟩ := uBz (P := eP p) (L := L)
 unfold fnd
 constructor
 ·intro e
  split at e
  ·rename_i hc
   cases e
   exact ⟨jsz hc.1, hasB_iff.2 ⟨hc.2, eP_no.1 (h3 hc.1)⟩⟩
  ·cases e
 ·rintro ⟨hx, hp⟩
  obtain ⟨i, hi, rfl⟩ := uQz hx
  rw [hasB_iff] at hp
  have hki : ¬ i < ps (eP p) L := fun hlt => by have := eP_iff.1 (h2 i hlt); omega
  have hkl : ps (eP p) L < L.length := by omega
  have hk3 := eP_no.1 (h3 hkl)
  have : ps (eP p) L = i := by
   by_cases hlt : ps (eP p) L < i
   ·have := h.rise hlt hi; omega
   ·omega
  rw [this, if_pos ⟨hi, hp.1⟩]
def fM (L : List Mp) (p : Int) : Mp := (fnd L p).getD default
def fN (L : List Mp) (p : Int) : Int := match fnd L p with
 | none => 0
 | some x => x.off + p - x.va
def fF (L : List Mp) (p : Int) : Bool := (fnd L p).isSome
end
def eqB (x y : Mp) : Bool := x.va == y.va && x.n == y.n && x.cont == y.cont && x.seg == y.seg && x.off == y.off && x.wr == y.wr
theorem eqB_iff {x y : Mp} : eqB x y = true ↔ x = y := by
 cases x; cases y
 simp [eqB, and_assoc]
theorem ybz (x : Mp) : eqB x x = true := eqB_iff.2 rfl
def sameB (A C : List Mp) : Bool := A.length == C.length && (List.range A.length).all (fun i => eqB (mat A i) (mat C i))
variable {A C : List Mp}
theorem sameB_len (h : A.length ≠ C.length) : sameB A C = false := by
 unfold sameB; rw [beq_eq_false_iff_ne.2 h]; rfl
theorem sameB_at {k : Nat} (hk : k < A.length) (h : eqB (mat A k) (mat C k) = false) : sameB A C = false := by
 unfold sameB
 rw [Bool.and_eq_false_iff]; right
 rw [List.all_eq_false]
 exact ⟨k, List.mem_range.2 hk, by simp [h]⟩
theorem sameB_all (h : A.length = C.length) (k : ∀ i, i < A.length → eqB (mat A i) (mat C i) = true) : sameB A C = true := by
 unfold sameB
 rw [beq_iff_eq.2 h, Bool.true_and, List.all_eq_true]
 exact fun i hi => k i (List.mem_range.1 hi)
theorem sameB_refl (A : List Mp) : sameB A A = true := sameB_all rfl fun _ _ => ybz _
end Pg
end PgM
namespace PgM
open Go.RowKit Go.Shelf
attribute [local go_sem] Oper.semAt_some
open Pg
def Keeps (D : Nat → Prop) (W W' : World) : Prop := W.heap.size ≤ W'.heap.size ∧ ∀ b, D b → W'.heap[b]? = W.heap[b]?
theorem Keeps.refl (D : Nat → Prop) (W : World) : Keeps D W W := ⟨Nat.le_refl _, fun _ _ => rfl⟩
variable {D : Nat → Prop}
theorem Keeps.trans {A B C : World} (h : Keeps D A B) (k : Keeps D B C) : Keeps D A C := ⟨Nat.le_trans h.1 k.1, fun b hb => (k.2 b hb).trans (h.2 b hb)⟩
theorem Keeps.of_below {W W' : World} (hD : ∀ b, D b → b < W.heap.size) (h : Below W.heap.size W W') : Keeps D W W' := ⟨h.size, fun b hb => h.block b (hD b hb)⟩
theorem cellK {w w' : World} (k : Keeps D w w') {b off : Nat} (hb : D b) : w'.cell? ⟨b, off, none⟩ = w.cell? ⟨b, off, none⟩ := World.cell?_of_block (w := w) (a := ⟨b, off, none⟩) (k.2 b hb)
theorem Boxed.next {W W' : World} {B : Nat} {t : TypeId} {v : Value} (h : Boxed W B t v) (k : Below W.heap.size W W') : Boxed W' B t v := (k.block B h.lt).trans h
theorem cellLater {w : World} {a : Addr} {v : Value} (h : w.cell? a = some v) (o : Obj) : (w.alloc o).cell? a = some v := by
 by_cases hb : a.block < w.heap.size
 ·exact (((Below.refl w.heap.size w).alloc (Nat.le_refl _) o).cell hb).trans h
 ·exfalso
  have hn : w.heap[a.block]? = none := by simp; omega
  simp [World.cell?, hn] at h
theorem wqz {W : World} {b i g j : Nat} {u : Value} (hne : b ≠ g) : (W.setCell ⟨g, j, none⟩ u).cell? ⟨b, i, none⟩ = W.cell? ⟨b, i, none⟩ := World.cell?_of_block (w := W) (a := ⟨b, i, none⟩) (Below.heap_setCell _ _ _ _ hne)
def mpV (x : Mp) : Array Value := #[.int .i64 x.va, .int .i64 x.n, .int .u64 x.cont, .int .u64 x.seg, .int .i64 x.off, .bool x.wr]
def Mb (W : World) (B : Nat) (x : Mp) : Prop := W.heap[B]? = some (.cells #[.int .i64 x.va, .int .i64 x.n, .int .u64 x.cont, .int .u64 x.seg, .int .i64 x.off, .bool x.wr] 113 (0, 0))
section
variable {W W' : World} {B : Nat} {x : Mp}
theorem Mb.lt (h : Mb W B x) : B < W.heap.size := (Array.getElem?_eq_some_iff.1 h).1
theorem Mb.cells (h : Mb W B x) : W.cell? ⟨B, 0, none⟩ = some (.int .i64 x.va) ∧ W.cell? ⟨B, 1, none⟩ = some (.int .i64 x.n) ∧ W.cell? ⟨B, 2, none⟩ = some (.int .u64 x.cont) ∧ W.cell? ⟨B, 3, none⟩ = some (.int .u64 x.seg) ∧ W.cell? ⟨B, 4, none⟩ = some (.int .i64 x.off) ∧ W.cell? ⟨B, 5, none⟩ = some (.bool x.wr) := by
 simp [World.cell?, show W.heap[B]? = _ from h]
theorem Mb.new (W : World) (x : Mp) : Mb (W.alloc (.cells #[.int .i64 x.va, .int .i64 x.n, .int .u64 x.cont, .int .u64 x.seg, .int .i64 x.off, .bool x.wr] 113)) W.heap.size x := World.alloc_heap_new W _
theorem Mb.frozen (h : Mb W B x) (j : Nat) : W.frozen? ⟨B, j, none⟩ = false := by simp [World.frozen?, show W.heap[B]? = _ from h]
theorem Mb.other {g j : Nat} {v : Value} (h : Mb W B x) (hne : B ≠ g) : Mb (W.setCell ⟨g, j, none⟩ v) B x := (Below.heap_setCell _ _ _ _ hne).trans h
theorem Mb.next (h : Mb W B x) (k : Below W.heap.size W W') : Mb W' B x := (k.block B h.lt).trans h
theorem Mb.alloc (h : Mb W B x) (o : Obj) : Mb (W.alloc o) B x := h.next ((Below.refl _ W).alloc (Nat.le_refl _) o)
end
def set6 (W : World) (B : Nat) (x : Mp) : World := (((((W.setCell ⟨B, 0, none⟩ (.int .i64 x.va)).setCell ⟨B, 1, none⟩ (.int .i64 x.n)).setCell ⟨B, 2, none⟩ (.int .u64 x.cont)).setCell ⟨B, 3, none⟩ (.int .u64 x.seg)).setCell ⟨B, 4, none⟩ (.int .i64 x.off)).setCell ⟨B, 5, none⟩ (.bool x.wr)
section
variable {W : World} {B g : Nat} {x y : Mp}
theorem Mb.set6 (h : Mb W B x) : Mb (set6 W B y) B y := by
 unfold Go.Proofs.YtdeddhojjolihaaGreat.PgM.set6
 have h0 := (heap_setCell_same W B 0 _ 113 (.int .i64 y.va) h).trans (by simp; rfl)
 have h1 := (heap_setCell_same _ B 1 _ 113 (.int .i64 y.n) h0).trans (by simp; rfl)
 have h2 := (heap_setCell_same _ B 2 _ 113 (.int .u64 y.cont) h1).trans (by simp; rfl)
 have h3 := (heap_setCell_same _ B 3 _ 113 (.int .u64 y.seg) h2).trans (by simp; rfl)
 have h4 := (heap_setCell_same _ B 4 _ 113 (.int .i64 y.off) h3).trans (by simp; rfl)
 exact (heap_setCell_same _ B 5 _ 113 (.bool y.wr) h4).trans (by simp)
theorem Mb.other6 (h : Mb W B x) (hne : B ≠ g) : Mb (Go.Proofs.YtdeddhojjolihaaGreat.PgM.set6 W g y) B x := (((((h.other hne).other hne).other hne).other hne).other hne).other hne
theorem xYz {A : Nat} {w : World} (h : Below A w W) (hg : A ≤ g) : Below A w (Go.Proofs.YtdeddhojjolihaaGreat.PgM.set6 W g y) := (((((h.setCell (p := ⟨g, 0, none⟩) hg _).setCell (p := ⟨g, 1, none⟩) hg _).setCell (p := ⟨g, 2, none⟩) hg _).setCell (p := ⟨g, 3, none⟩) hg _).setCell (p := ⟨g, 4, none⟩) hg _).setCell (p := ⟨g, 5, none⟩) hg _
end
def MpsD (D : Nat → Prop) (w : World) (ao : Option Addr) (n cap : Nat) (l : List Mp) : Prop :=
 l.length = n ∧ n ≤ cap ∧ (cap ≤ 9223372036854775807 ∧ (ao = none → cap = 0)) ∧
 (0 < n → ∃ b off, ao = some ⟨b, off, none⟩ ∧ D b ∧ ∀ i, i < n → ∀ j v, (mpV (mat l i))[j]? = some v → w.cell? ⟨b, off + i * 6 + j, none⟩ = some v)
def Mps (B : Nat) (w : World) (ao : Option Addr) (n cap : Nat) (l : List Mp) : Prop := MpsD (fun b => b < B) w ao n cap l
section
variable {D : Nat → Prop} {w w' : World} {ao : Option Addr} {n cap B B' : Nat} {l : List Mp}
theorem MpsD.laterK (h : MpsD D w ao n cap l) (k : ∀ b, D b → w'.heap[b]? = w.heap[b]?) : MpsD D w' ao n cap l := by
 obtain ⟨h1, h2, h3, h4⟩ := h
 refine ⟨h1, h2, h3, fun hn => ?_⟩
 obtain ⟨b, off, e, hb, hc⟩ := h4 hn
 exact ⟨b, off, e, hb, fun i hi j v hv => (World.cell?_of_block (w := w) (a := ⟨b, off + i * 6 + j, none⟩) (k b hb)).trans (hc i hi j v hv)⟩
theorem Mps.later (h : Mps B w ao n cap l) (k : Below B w w') : Mps B w' ao n cap l := MpsD.laterK h fun b hb => k.block b hb
theorem MpsD.wide {D' : Nat → Prop} (h : MpsD D w ao n cap l) (k : ∀ b, D b → D' b) : MpsD D' w ao n cap l := by
 obtain ⟨h1, h2, h3, h4⟩ := h
 refine ⟨h1, h2, h3, fun hn => ?_⟩
 obtain ⟨b, off, e, hb, hc⟩ := h4 hn
 exact ⟨b, off, e, k b hb, hc⟩
theorem Mps.wide (h : Mps B w ao n cap l) (k : B ≤ B') : Mps B' w ao n cap l := MpsD.wide h fun b hb => Nat.lt_of_lt_of_le hb k
theorem Mps.next (h : Mps w.heap.size w ao n cap l) (k : Below w.heap.size w w') : Mps w'.heap.size w' ao n cap l := (h.later k).wide k.size
theorem Mps.nil (B : Nat) (w : World) : Mps B w none 0 0 [] := ⟨rfl, Nat.le_refl _, ⟨by omega, fun _ => rfl⟩, fun h => absurd h (by omega)⟩
theorem Mps.len (h : Mps B w ao n cap l) : l.length = n := h.1
theorem MpsD.at (h : MpsD D w ao n cap l) {i : Nat} (hi : i < n) : ∃ (b off : Nat) (va nn cont seg of : Int) (wr : Bool), ao = some ⟨b, off, none⟩ ∧ D b ∧ Hid (mat l i = ⟨va, nn, cont, seg, of, wr⟩) ∧
  w.cell? ⟨b, off + i * 6, none⟩ = some (.int .i64 va) ∧ w.cell? ⟨b, off + i * 6 + 1, none⟩ = some (.int .i64 nn) ∧ w.cell? ⟨b, off + i * 6 + 2, none⟩ = some (.int .u64 cont) ∧ w.cell? ⟨b, off + i * 6 + 3, none⟩ = some (.int .u64 seg) ∧ w.cell? ⟨b, off + i * 6 + 4, none⟩ = some (.int .i64 of) ∧ w.cell? ⟨b, off + i * 6 + 5, none⟩ = some (.bool wr) := by
 obtain ⟨h1, h2, h3, h4⟩ := h
 obtain ⟨b, off, e, hb, hc⟩ := h4 (by omega)
 obtain ⟨x, hx⟩ : ∃ x, mat l i = x := ⟨_, rfl⟩
 obtain ⟨va, nn, cont, seg, of, wr⟩ := x
 have hc' := hc i hi
 rw [hx] at hc'
 exact ⟨b, off, va, nn, cont, seg, of, wr, e, hb, hx, hc' 0 _ rfl, hc' 1 _ rfl, hc' 2 _ rfl, hc' 3 _ rfl, hc' 4 _ rfl, hc' 5 _ rfl⟩
end
namespace Pg
end Pg
section
variable (va nn cont seg of : Int) (wr : Bool) (w : World)
theorem gvz (w : World) (o o' : Obj) : Below w.heap.size w ((w.alloc o).alloc o') := ((Below.refl _ w).alloc (Nat.le_refl _) o).alloc (by simp) o'
theorem yrz : Calls prog 176 #[.agg #[.int .i64 va, .int .i64 nn, .int .u64 cont, .int .u64 seg, .int .i64 of, .bool wr]] w fun e w' => e = .returned (.agg #[.int .i64 va, .int .i64 nn]) ∧ Below w.heap.size w w' := by
 go_enter func176, ntmps176
 go_wp2
 refine bodyPost_ret (v := .agg #[.int .i64 va, .int .i64 nn]) (by simp [results, Tryz.f176, go_sem]) rfl ?_
 exact ⟨rfl, gvz w _ _⟩
end
theorem end_any (f n : Int) (h0 : 0 ≤ f) (h1 : 0 ≤ n) (h2 : f + n ≤ 1048576) (w : World) : Calls prog 177 #[.agg #[.int .i64 f, .int .i64 n]] w fun e w' => e = .returned (.int .i64 (f + n)) ∧ Below w.heap.size w w' := by
 go_enter func177, ntmps177
 go_wp2
 go_ret
 exact ⟨rfl, (Below.refl _ w).alloc (Nat.le_refl _) _⟩
theorem ends_any (f n p : Int) (h0 : 0 ≤ f) (h1 : 0 ≤ n) (h2 : f + n ≤ 1048576) (w : World) : Calls prog 163 #[.agg #[.int .i64 f, .int .i64 n], .int .i64 p] w fun e w' => e = .returned (.bool (decide (f + n ≤ p))) ∧ Below w.heap.size w w' := by
 have hB := (Below.refl w.heap.size w).alloc (Nat.le_refl _) (.cells #[.int .i64 f, .int .i64 n] 204)
 go_enter func163, ntmps163
 go_wp2_with (go_at_call 177; refine (end_any f n h0 h1 h2 _).mono ?_; rintro e w1 ⟨rfl, hb1⟩)
 go_ret
 exact ⟨rfl, btp hB hb1⟩
section
variable (va nn cont seg of : Int) (wr : Bool) (w : World)
theorem rone_any : Calls prog 116 #[.agg #[.int .i64 va, .int .i64 nn, .int .u64 cont, .int .u64 seg, .int .i64 of, .bool wr]] w fun e w' => e = .returned (.bool (oneB ⟨va, nn, cont, seg, of, wr⟩)) ∧ Below w.heap.size w w' := by
 have hr : Hid (oneB ⟨va, nn, cont, seg, of, wr⟩ = decide (0 ≤ va ∧ 1 ≤ nn ∧ 0 ≤ of ∧ va + nn ≤ 1048576 ∧ of + nn ≤ 1048576)) := rfl
 go_enter func116, ntmps116
 go_wp2
 all_goals (go_ret; refine ⟨?_, (Below.refl _ w).alloc (Nat.le_refl _) _⟩; rw [hr.out]; first | (rw [decide_eq_false (by omega)]; rfl) | (refine congrArg (fun z => Ending.returned (.bool z)) (?_ : decide (nn ≤ 1048576 - of) = _); rw [decide_eq_decide]; omega))
end
namespace Pg
def spP (a : Int) : Int := if a / 16 < 1048576 then a / 16 else 0
def spW (a : Int) : Int := if a / 16 < 1048576 then a % 16 else 0
def spB (a : Int) : Bool := decide (a / 16 < 1048576)
end Pg
theorem split_any (a : Int) (h0 : 0 ≤ a) (h1 : a ≤ 18446744073709551615) (w : World) : Calls prog 148 #[.int .u64 a] w fun e w' => e = .returned (.tuple #[.int .i64 (spP a), .int .i64 (spW a), .bool (spB a)]) ∧ w' = w := by
 by_cases h : a / 16 < 1048576
 ·have r1 : Hid (spP a = a / 16) := by show _ = _; unfold spP; rw [if_pos h]
  have r2 : Hid (spW a = a % 16) := by show _ = _; unfold spW; rw [if_pos h]
  have r3 : Hid (spB a = true) := by show _ = _; unfold spB; rw [decide_eq_true h]
  rw [r1.out, r2.out, r3.out]
  go_enter func148, ntmps148
  go_wp2
  go_ret3
  exact ⟨rfl, rfl⟩
 ·have r1 : Hid (spP a = 0) := by show _ = _; unfold spP; rw [if_neg h]
  have r2 : Hid (spW a = 0) := by show _ = _; unfold spW; rw [if_neg h]
  have r3 : Hid (spB a = false) := by show _ = _; unfold spB; rw [decide_eq_false h]
  rw [r1.out, r2.out, r3.out]
  go_enter func148, ntmps148
  go_wp2
  go_ret3
  exact ⟨rfl, rfl⟩
end PgM
namespace PgM
open Go.RowKit Go.Shelf
attribute [local go_sem] Oper.semAt_some
open Pg
def mpC (l : List Mp) : List Value := l.flatMap fun x => (mpV x).toList
theorem mpC_len (l : List Mp) : (mpC l).length = l.length * 6 := by
 induction l with
 | nil => rfl
 | cons x l ih => show ((mpV x).toList ++ mpC l).length = _; rw [List.length_append, ih]; show 6 + _ = _; simp; omega
variable {l : List Mp}
theorem mpC_at : ∀ {i j : Nat} {v : Value}, i < l.length → (mpV (mat l i))[j]? = some v → (mpC l)[i * 6 + j]? = some v := by
 induction l with
 | nil => intro i j v hi; simp at hi
 | cons x l ih =>
  intro i j v hi hv
  have hs : (mpV x).toList.length = 6 := rfl
  show ((mpV x).toList ++ mpC l)[i * 6 + j]? = some v
  cases i with
  | zero =>
   have hj : j < 6 := (Array.getElem?_eq_some_iff.1 hv).1
   rw [List.getElem?_append_left (by omega)]
   simpa [mat] using hv
  | succ i =>
   rw [List.getElem?_append_right (by omega), hs, show (i + 1) * 6 + j - 6 = i * 6 + j by omega]
   exact ih (by simpa using hi) (by simpa [mat] using hv)
theorem mpC_back : ∀ {j : Nat} {v : Value}, (mpC l)[j]? = some v → j / 6 < l.length ∧ (mpV (mat l (j / 6)))[j % 6]? = some v := by
 intro j v h
 have hj : j < l.length * 6 := by rw [← mpC_len]; exact (List.getElem?_eq_some_iff.1 h).1
 have hl : j / 6 < l.length := by omega
 have hm : j % 6 < (mpV (mat l (j / 6))).size := by show _ < 6; omega
 refine ⟨hl, ?_⟩
 have := mpC_at hl (Array.getElem?_eq_getElem hm)
 rw [show j / 6 * 6 + j % 6 = j by omega, h] at this
 rw [Array.getElem?_eq_getElem hm, ← this]
theorem mpC_one (l : List Mp) : ∀ u ∈ mpC l, u.oneCell' = true := by
 intro u hu
 obtain ⟨x, _, hx⟩ := List.mem_flatMap.1 hu
 simp [mpV] at hx
 rcases hx with rfl | rfl | rfl | rfl | rfl | rfl <;> rfl
variable {D : Nat → Prop} {w : World}
theorem MpsD.cells {ad : Addr} {n cap : Nat} (h : MpsD D w (some ad) n cap l) : ∀ j u, (mpC l)[j]? = some u → w.cell? (ad.add j) = some u := by
 intro j u hj
 obtain ⟨h1, h2⟩ := mpC_back hj
 obtain ⟨e1, _, _, e4⟩ := h
 obtain ⟨b, off, e, hb, hc⟩ := e4 (by omega)
 cases e
 have := hc (j / 6) (by omega) (j % 6) u h2
 have ea : (⟨b, off, none⟩ : Addr).add j = ⟨b, off + j / 6 * 6 + j % 6, none⟩ := by
  unfold Addr.add
  split
  ·rename_i h0; subst h0; rfl
  ·rw [show off + j / 6 * 6 + j % 6 = off + j by omega]
 rw [ea]
 exact this
theorem grownBy_refl (w : World) (r : Option Nat) : w.grownBy w r := ⟨rfl, rfl, rfl, Nat.le_refl _, fun _ _ _ => rfl⟩
theorem mat_take {k i : Nat} (h : i < k) : mat (l.take k) i = mat l i := by
 unfold mat; rw [List.getD_eq_getElem?_getD, List.getElem?_take, if_pos h, List.getD_eq_getElem?_getD]
theorem mat_drop {k i : Nat} : mat (l.drop k) i = mat l (k + i) := by
 unfold mat; rw [List.getD_eq_getElem?_getD, List.getElem?_drop, List.getD_eq_getElem?_getD]
variable {ao : Option Addr}
theorem MpsD.take {n cap k : Nat} (h : MpsD D w ao n cap l) (hk : k ≤ n) : MpsD D w ao k cap (l.take k) := by
 obtain ⟨h1, h2, h3, h4⟩ := h
 refine ⟨by rw [List.length_take]; omega, by omega, h3, fun hn => ?_⟩
 obtain ⟨b, off, e, hb, hc⟩ := h4 (by omega)
 exact ⟨b, off, e, hb, fun i hi => by rw [mat_take hi]; exact hc i (by omega)⟩
theorem MpsD.drop {b off : Nat} {n cap k : Nat} (h : MpsD D w (some ⟨b, off, none⟩) n cap l) (hk : k ≤ n) (ha : ao = some ⟨b, off + k * 6, none⟩ ∨ (ao = some ⟨b, off, none⟩ ∧ k = n)) : MpsD D w ao (n - k) (cap - k) (l.drop k) := by
 obtain ⟨h1, h2, h3, h4⟩ := h
 refine ⟨by rw [List.length_drop]; omega, by omega, ⟨by omega, fun hz => by rcases ha with ha | ha; rw [ha] at hz; cases hz; rw [ha.1] at hz; cases hz⟩, fun hn => ?_⟩
 obtain ⟨b', off', e, hb, hc⟩ := h4 (by omega)
 cases e
 refine ⟨b, off + k * 6, by rcases ha with ha | ha; exact ha; omega, hb, fun i hi j v hv => ?_⟩
 rw [mat_drop] at hv
 have := hc (k + i) (by omega) j v hv
 rw [show off + (k + i) * 6 + j = off + k * 6 + i * 6 + j by omega] at this
 exact this
def AsksM (D : Nat → Prop) (w : World) (q : Value) (P : Mp → Bool) : Prop := ∃ (g : Nat) (lb : Array Value), q = .func (.func g) #[] lb ∧ (∀ args w, (callFunc g args).run prog w = .ok (.enter g args) w) ∧
 ∀ W, Keeps D w W → ∀ (va nn cont seg of : Int) (wr : Bool), oneB ⟨va, nn, cont, seg, of, wr⟩ = true → Calls prog g (#[.agg #[.int .i64 va, .int .i64 nn, .int .u64 cont, .int .u64 seg, .int .i64 of, .bool wr]] ++ lb) W fun e W' => e = .returned (.bool (P ⟨va, nn, cont, seg, of, wr⟩)) ∧ Below W.heap.size W W'
theorem seek_any {n cap : Nat} {L : List Mp} (hL : Mps w.heap.size w ao n cap L) (hF : Fit L) {q : Value} {P : Mp → Bool} (hP : Falls P L) (hq : AsksM (fun b => b < w.heap.size) w q P) :
  Calls prog 174 #[.slice ao n cap, q] w fun e w' => e = .returned (.int .i64 (ps P L : Nat)) ∧ Below w.heap.size w w' := by
 obtain ⟨g, lb, rfl, eg, hc⟩ := hq
 have hln : Hid (L.length = n) := hL.1
 have hn16 : n ≤ 16 := by rw [← hln.out]; exact hF.1
 have hF' : Hid (Fit L) := hF
 have hP' : Hid (Falls P L) := hP
 clear hF hP
 go_enter func174, ntmps174
 go_wp2
 go_loopw [5, 6] (fun vl vh wr => ∃ lo hi : Nat, lo ≤ hi ∧ hi ≤ n ∧ vl = .int .i64 lo ∧ vh = .int .i64 hi ∧ Hid (∀ i, i < lo → P (mat L i) = true) ∧ Hid (∀ i, hi ≤ i → i < n → P (mat L i) = false) ∧ Below w.heap.size w wr) (fun vl vh _ => (intOf vh).toNat - (intOf vl).toNat)
 case atStart => exact ⟨0, n, Nat.zero_le _, Nat.le_refl _, rfl, rfl, fun i hi => absurd hi (by omega), fun i h1 h2 => absurd h2 (by omega), Below.refl _ _⟩
 case round =>
  obtain ⟨lo, hi, hlh, hhn, rfl, rfl, hlo, hhi, hb⟩ := hrel
  by_cases hlt : lo < hi
  ·obtain ⟨d, hd⟩ : ∃ d : Nat, d = (hi - lo) / 2 := ⟨_, rfl⟩
   have hdi : ((hi : Int) - lo) / 2 = d := by omega
   obtain ⟨m, hm⟩ : ∃ m : Nat, m = lo + d := ⟨_, rfl⟩
   have hmi : (lo : Int) + d = m := by omega
   have hmn : m < n := by omega
   have hm1 : lo ≤ m := by omega
   have hm2 : m < hi := by omega
   obtain ⟨b, off, va, nn, cont, seg, of, wrt, rfl, hbb, hx, c0, c1, c2, c3, c4, c5⟩ := MpsD.at (hL.later hb) hmn
   have h1 : oneB ⟨va, nn, cont, seg, of, wrt⟩ = true := by rw [← hx.out]; exact hF'.out.2.1 _ (jsz (by rw [hln.out]; exact hmn))
   have hcall := hc wr (Keeps.of_below (fun b hb' => hb') hb) va nn cont seg of wrt h1
   clear hd hm
   cases hPm : P ⟨va, nn, cont, seg, of, wrt⟩ with
   | true =>
    rw [hPm] at hcall
    have hlo2 : Hid (∀ i, i < m + 1 → P (mat L i) = true) := fun i hi => by
     by_cases e : i = m
     ·rw [e, hx.out]; exact hPm
     ·exact hP'.out i m (by omega) (by rw [hln.out]; exact hmn) (by rw [hx.out]; exact hPm)
    clear hPm
    go_wp2_with (refine Calls.mono hcall ?_; rintro e w1 ⟨rfl, hb1⟩)
    go_roundw
    case rel => exact ⟨m + 1, hi, by omega, hhn, by simp, rfl, hlo2, hhi, btp hb hb1⟩
    case measure => simp [intOf]; omega
   | false =>
    rw [hPm] at hcall
    have hhi2 : Hid (∀ i, m ≤ i → i < n → P (mat L i) = false) := fun i hi hin => by
     by_cases e : i = m
     ·rw [e, hx.out]; exact hPm
     ·cases hq : P (mat L i) with
      | false => rfl
      | true => have := hP'.out m i (by omega) (by rw [hln.out]; exact hin) hq; rw [hx.out, hPm] at this; cases this
    clear hPm
    go_wp2_with (refine Calls.mono hcall ?_; rintro e w1 ⟨rfl, hb1⟩)
    go_roundw
    case rel => exact ⟨lo, m, by omega, by omega, rfl, rfl, hlo, hhi2, btp hb hb1⟩
    case measure => simp [intOf]; omega
  ·obtain rfl : lo = hi := by omega
   have hr : Hid (ps P L = lo) := ps_spec (by rw [hln.out]; exact hhn) hlo.out (fun h => hhi.out lo (Nat.le_refl _) (by rw [← hln.out]; exact h))
   go_wp2
   go_ret
   exact ⟨by rw [hr.out]; rfl, hb⟩
def AsksI (g : Nat) (Q : Int → Int → Int → Bool) : Prop := (∀ args w, (callFunc g args).run prog w = .ok (.enter g args) w) ∧
 ∀ (W : World) (f n p : Int), 0 ≤ f → 0 ≤ n → f + n ≤ 1048576 → Calls prog g #[.agg #[.int .i64 f, .int .i64 n], .int .i64 p] W fun e W' => e = .returned (.bool (Q f n p)) ∧ Below W.heap.size W W'
theorem gwz : AsksI 163 (fun f n p => decide (f + n ≤ p)) :=
 ⟨enters_of func163 (by kernel_rfl) rfl, fun W f n p h0 h1 h2 => ends_any f n p h0 h1 h2 W⟩
def Pl (w : World) (A B Bp g : Nat) (p : Int) (x : Mp) (W : World) : Prop := W.cell? ⟨B, 0, none⟩ = some (.func (.func g) #[] #[]) ∧ W.cell? ⟨Bp, 0, none⟩ = some (.int .i64 p) ∧ Mb W A x ∧ Below w.heap.size w W
def PlS (w : World) (A B Bp g : Nat) (p va nn cont seg of : Int) (wr : Bool) (W : World) : Prop :=
 W.cell? ⟨A, 0, none⟩ = some (.int .i64 va) ∧ W.cell? ⟨A, 1, none⟩ = some (.int .i64 nn) ∧ W.cell? ⟨A, 2, none⟩ = some (.int .u64 cont) ∧ W.cell? ⟨A, 3, none⟩ = some (.int .u64 seg) ∧ W.cell? ⟨A, 4, none⟩ = some (.int .i64 of) ∧ W.cell? ⟨A, 5, none⟩ = some (.bool wr) ∧
 W.cell? ⟨B, 0, none⟩ = some (.func (.func g) #[] #[]) ∧ W.cell? ⟨Bp, 0, none⟩ = some (.int .i64 p) ∧ Pl w A B Bp g p ⟨va, nn, cont, seg, of, wr⟩ W
section
variable {w X Y : World} {A B Bp g : Nat} {p va nn cont seg of : Int} {wr : Bool}
theorem Pl.mem (h : Pl w A B Bp g p ⟨va, nn, cont, seg, of, wr⟩ X) : PlS w A B Bp g p va nn cont seg of wr X := by
 obtain ⟨c0, c1, c2, c3, c4, c5⟩ := h.2.2.1.cells
 exact ⟨c0, c1, c2, c3, c4, c5, h.1, h.2.1, h⟩
theorem PlS.pl (h : PlS w A B Bp g p va nn cont seg of wr X) : Pl w A B Bp g p ⟨va, nn, cont, seg, of, wr⟩ X := h.2.2.2.2.2.2.2.2
theorem Pl.next {x : Mp} (h : Pl w A B Bp g p x X) (hb : Below X.heap.size X Y) : Pl w A B Bp g p x Y :=
 ⟨(hb.cell (World.block_lt_of_cell? _ _ h.1)).trans h.1, (hb.cell (World.block_lt_of_cell? _ _ h.2.1)).trans h.2.1, h.2.2.1.next hb, h.2.2.2.trans (hb.mono h.2.2.2.size)⟩
theorem PlS.next (h : PlS w A B Bp g p va nn cont seg of wr X) (hb : Below X.heap.size X Y) : PlS w A B Bp g p va nn cont seg of wr Y := (h.pl.next hb).mem
end
variable {Q : Int → Int → Int → Bool} {w : World}
theorem yFz {g : Nat} (hg : AsksI g Q) {B Bp : Nat} {p : Int} (hB : w.cell? ⟨B, 0, none⟩ = some (.func (.func g) #[] #[])) (hP : w.cell? ⟨Bp, 0, none⟩ = some (.int .i64 p)) (va nn cont seg of : Int) (wr : Bool) (h1 : oneB ⟨va, nn, cont, seg, of, wr⟩ = true) :
  Calls prog 175 #[.agg #[.int .i64 va, .int .i64 nn, .int .u64 cont, .int .u64 seg, .int .i64 of, .bool wr], .pointer (some ⟨B, 0, none⟩), .pointer (some ⟨Bp, 0, none⟩)] w fun e w' => e = .returned (.bool (Q va nn p)) ∧ Below w.heap.size w w' := by
 obtain ⟨eg, hc⟩ := hg
 have h1' := oneB_iff.1 h1
 simp only at h1'
 have hq : ∀ W, Calls prog g #[.agg #[.int .i64 va, .int .i64 nn], .int .i64 p] W fun e W' => e = .returned (.bool (Q va nn p)) ∧ Below W.heap.size W W' := fun W => hc W va nn p (by omega) (by omega) (by omega)
 clear h1 h1' hc
 have hB1 := (Below.refl w.heap.size w).alloc (Nat.le_refl _) (.cells #[.int .i64 va, .int .i64 nn, .int .u64 cont, .int .u64 seg, .int .i64 of, .bool wr] 113)
 have hc1 := cellLater hB (.cells #[.int .i64 va, .int .i64 nn, .int .u64 cont, .int .u64 seg, .int .i64 of, .bool wr] 113)
 have hp1 := cellLater hP (.cells #[.int .i64 va, .int .i64 nn, .int .u64 cont, .int .u64 seg, .int .i64 of, .bool wr] 113)
 have hM := Mb.new w ⟨va, nn, cont, seg, of, wr⟩
 have HS : PlS w w.heap.size B Bp g p va nn cont seg of wr (w.alloc (.cells #[.int .i64 va, .int .i64 nn, .int .u64 cont, .int .u64 seg, .int .i64 of, .bool wr] 113)).drew := (Pl.next ⟨hc1, hp1, hM, hB1⟩ (Below.refl _ _).drew).mem
 clear hB1 hc1 hp1 hM hB hP
 go_enter func175, ntmps175
 go_wp2
 go_region_held3 (fun W => W.cell? ⟨w.heap.size, 0, none⟩ = some (.int .i64 va) ∧ W.cell? ⟨w.heap.size, 1, none⟩ = some (.int .i64 nn) ∧ W.cell? ⟨w.heap.size, 2, none⟩ = some (.int .u64 cont) ∧ W.cell? ⟨w.heap.size, 3, none⟩ = some (.int .u64 seg) ∧ W.cell? ⟨w.heap.size, 4, none⟩ = some (.int .i64 of) ∧ W.cell? ⟨w.heap.size, 5, none⟩ = some (.bool wr) ∧ W.cell? ⟨B, 0, none⟩ = some (.func (.func g) #[] #[]) ∧ W.cell? ⟨Bp, 0, none⟩ = some (.int .i64 p) ∧ Pl w w.heap.size B Bp g p ⟨va, nn, cont, seg, of, wr⟩ W) (first | exact HS | exact PlS.next (by assumption) hb | go_keep) (first | (go_at_call 176; (with_reducible refine (yrz va nn cont seg of wr _).mono ?_); rintro e w' ⟨rfl, hb⟩) | (go_at_fn g; (with_reducible refine (hq _).mono ?_); rintro e w' ⟨rfl, hb⟩))
 have hfin : Below w.heap.size w w' := (PlS.pl (by assumption : PlS w w.heap.size B Bp g p va nn cont seg of wr w')).2.2.2
 go_wp2
 go_ret
 exact ⟨rfl, hfin⟩
theorem place_any {ao : Option Addr} {n cap : Nat} {L : List Mp} (hL : Mps w.heap.size w ao n cap L) (hF : Fit L) {g : Nat} (hg : AsksI g Q) {p : Int} {P : Mp → Bool} (hQ : ∀ x, P x = Q x.va x.n p) (hP : Falls P L) :
  Calls prog 162 #[.slice ao n cap, .func (.func g) #[] #[], .int .i64 p] w fun e w' => e = .returned (.int .i64 (ps P L : Nat)) ∧ Below w.heap.size w w' := by
 obtain ⟨W1, hW1⟩ : ∃ W1, W1 = w.alloc (.cells #[.func (.func g) #[] #[]] 202) := ⟨_, rfl⟩
 obtain ⟨W2, hW2⟩ : ∃ W2, W2 = W1.alloc (.cells #[.int .i64 p] 3) := ⟨_, rfl⟩
 have s1 : W1.heap.size = w.heap.size + 1 := by rw [hW1]; simp
 have s2 : W2.heap.size = w.heap.size + 2 := by rw [hW2]; simp [s1]
 have b1 : Below w.heap.size w W1 := by rw [hW1]; exact (Below.refl _ w).alloc (Nat.le_refl _) _
 have b12 : Below W1.heap.size W1 W2 := by rw [hW2]; exact (Below.refl _ W1).alloc (Nat.le_refl _) _
 have b2 : Below w.heap.size w W2 := btp b1 b12
 have c1 : W1.cell? ⟨w.heap.size, 0, none⟩ = some (.func (.func g) #[] #[]) := by rw [hW1]; simp
 have c1' : W2.cell? ⟨w.heap.size, 0, none⟩ = some (.func (.func g) #[] #[]) := (b12.cell (World.block_lt_of_cell? _ _ c1)).trans c1
 have c2 : W2.cell? ⟨w.heap.size + 1, 0, none⟩ = some (.int .i64 p) := by rw [hW2, ← s1]; simp
 have hq : AsksM (fun b => b < W2.heap.size) W2 (.func (.func 175) #[] #[.pointer (some ⟨w.heap.size, 0, none⟩), .pointer (some ⟨w.heap.size + 1, 0, none⟩)]) P :=
  ⟨175, _, rfl, enters_of func175 (by kernel_rfl) rfl, fun W hW va nn cont seg of wr h1 => by
   rw [hQ]
   exact yFz hg ((cellK hW (by show w.heap.size < _; omega)).trans c1') ((cellK hW (by show w.heap.size + 1 < _; omega)).trans c2) va nn cont seg of wr h1⟩
 have hc := seek_any (hL.next b2) hF hP hq
 rw [hW2, hW1] at hc
 go_enter func162, ntmps162
 go_wp2_with (go_at_call 174; refine hc.mono ?_; rintro e w' ⟨rfl, hb⟩)
 go_ret
 refine ⟨rfl, ?_⟩
 rw [← hW1, ← hW2] at hb
 exact btp b2 hb
theorem place_e {ao : Option Addr} {n cap : Nat} {L : List Mp} (hL : Mps w.heap.size w ao n cap L) (hF : Fit L) (p : Int) :
  Calls prog 162 #[.slice ao n cap, .func (.func 163) #[] #[], .int .i64 p] w fun e w' => e = .returned (.int .i64 (ps (eP p) L : Nat)) ∧ Below w.heap.size w w' :=
 place_any hL hF gwz (fun x => rfl) (falls_e hF)
end PgM
namespace PgM
open Go.RowKit Go.Shelf
attribute [local go_sem] Oper.semAt_some
open Pg
theorem find_any {w : World} {ao : Option Addr} {n cap : Nat} {L : List Mp} (hL : Mps w.heap.size w ao n cap L) (hF : Fit L) (p : Int) :
  Calls prog 149 #[.slice ao n cap, .int .i64 p] w fun e w' => e = .returned (.tuple #[.agg (mpV (fM L p)), .int .i64 (fN L p), .bool (fF L p)]) ∧ Below w.heap.size w w' := by
 have hln : Hid (L.length = n) := hL.1
 have hB0 : Below w.heap.size w (w.alloc (.cells #[.int .i64 0, .int .i64 0, .int .u64 0, .int .u64 0, .int .i64 0, .bool false] 113)) := (Below.refl _ w).alloc (Nat.le_refl _) _
 have hZ := Mb.new w ⟨0, 0, 0, 0, 0, false⟩
 have hL0 := hL.next hB0
 have hpl := place_e hL0 hF p
 have hk := ps_le (P := eP p) (L := L)
 have hat := (uBz (P := eP p) (L := L)).2.2
 obtain ⟨k, hk2⟩ : ∃ k, Hid (ps (eP p) L = k) := ⟨_, rfl⟩
 rw [hk2.out] at hpl hk hat
 rw [hln.out] at hk hat
 by_cases hkn : k < n
 ·have hat' := eP_no.1 (hat hkn)
  have hone := hF.one (i := k) (by rw [hln.out]; exact hkn)
  have hfd : Hid (fnd L p = if (mat L k).va ≤ p then some (mat L k) else none) := by
   show _ = _
   unfold fnd
   rw [hk2.out, hln.out]
   by_cases q : (mat L k).va ≤ p
   ·rw [if_pos ⟨hkn, q⟩, if_pos q]
   ·rw [if_neg (fun h => q h.2), if_neg q]
  clear hat hF hk2
  have hkn' : (k : Int) < n := by omega
  have hke : ((k : Int) == (n : Int)) = false := by rw [beq_eq_false_iff_ne]; omega
  obtain ⟨b, off, va, nn, cont, seg, of, wrt, rfl, hbb, hx, _⟩ := MpsD.at hL0 hkn
  have hx' := hx.out
  rw [hx'] at hat' hone hfd
  obtain ⟨o1, o2, o3, o4, o5⟩ := hone
  simp only at hat' o1 o2 o3 o4 o5
  have hfd' : Hid (fnd L p = if va ≤ p then some ⟨va, nn, cont, seg, of, wrt⟩ else none) := hfd.out
  clear hfd hx' hbb
  by_cases hp : va ≤ p
  ·have r : Hid (fnd L p = some ⟨va, nn, cont, seg, of, wrt⟩) := by show _ = _; rw [hfd'.out, if_pos hp]
   have r1 : Hid (fM L p = ⟨va, nn, cont, seg, of, wrt⟩) := by show _ = _; unfold fM; rw [r.out]; rfl
   have r2 : Hid (fN L p = of + p - va) := by show _ = _; unfold fN; rw [r.out]
   have r3 : Hid (fF L p = true) := by show _ = _; unfold fF; rw [r.out]; rfl
   rw [r1.out, r2.out, r3.out]
   clear hfd' r r1 r2 r3
   go_enter func149, ntmps149
   go_wp2_with (go_at_call 162; refine hpl.mono ?_; rintro e w1 ⟨rfl, hb1⟩; obtain ⟨b', off', va', nn', cont', seg', of', wrt', e0, hbb, hx2, c0, c1, c2, c3, c4, c5⟩ := MpsD.at (hL0.later hb1) hkn; cases e0; (have e9 := hx2.out; rw [hx.out] at e9; cases e9); have hZ1 := hZ.next hb1; obtain ⟨z0, z1, z2, z3, z4, z5⟩ := hZ1.cells; have zf := hZ1.frozen)
   have hM2 := Mb.new w1 ⟨va, nn, cont, seg, of, wrt⟩
   have hZ2 := hZ1.alloc (.cells #[.int .i64 va, .int .i64 nn, .int .u64 cont, .int .u64 seg, .int .i64 of, .bool wrt] 113)
   have hlt : w.heap.size < w1.heap.size := hZ1.lt
   have hne : w1.heap.size ≠ w.heap.size := by omega
   have hb2 : Below w.heap.size w (w1.alloc (.cells #[.int .i64 va, .int .i64 nn, .int .u64 cont, .int .u64 seg, .int .i64 of, .bool wrt] 113)) := (btp hB0 hb1).alloc (by omega) _
   obtain ⟨W2, hW2⟩ : ∃ W2, w1.alloc (.cells #[.int .i64 va, .int .i64 nn, .int .u64 cont, .int .u64 seg, .int .i64 of, .bool wrt] 113) = W2 := ⟨_, rfl⟩
   obtain ⟨B2, hB2⟩ : ∃ B2, w1.heap.size = B2 := ⟨_, rfl⟩
   rw [hW2, hB2] at hM2
   rw [hW2] at hZ2 hb2
   rw [hB2] at hne
   simp only [hW2, hB2]
   clear hZ1 c0 c1 c2 c3 c4 c5 z0 z1 z2 z3 z4 z5 zf hW2 hB2
   obtain ⟨m0, m1, m2, m3, m4, m5⟩ := hM2.cells
   obtain ⟨z0, z1, z2, z3, z4, z5⟩ := hZ2.cells
   have zf := hZ2.frozen
   have hS2 := Mb.cells (Mb.next (Mb.other6 (g := w.heap.size) (y := ⟨va, nn, cont, seg, of, wrt⟩) hM2 hne) (Below.refl _ _).drew)
   have hS3 := Mb.cells (Mb.other6 (g := w.heap.size) (y := ⟨va, nn, cont, seg, of, wrt⟩) (hM2.next (Below.refl _ _).drew) hne)
   unfold set6 at hS2 hS3
   simp only at hS2 hS3
   go_region_held3 (fun W => W.cell? ⟨B2, 0, none⟩ = some (.int .i64 va) ∧ W.cell? ⟨B2, 1, none⟩ = some (.int .i64 nn) ∧ W.cell? ⟨B2, 2, none⟩ = some (.int .u64 cont) ∧ W.cell? ⟨B2, 3, none⟩ = some (.int .u64 seg) ∧ W.cell? ⟨B2, 4, none⟩ = some (.int .i64 of) ∧ W.cell? ⟨B2, 5, none⟩ = some (.bool wrt)) (first | go_keep | exact hS2 | exact hS3) (fail)
   have hw1 : IntKind.i64.wrap (of + p) = of + p := by rw [IntKind.wrap_i64]; omega
   have hw2 : IntKind.i64.wrap (of + p - va) = of + p - va := by rw [IntKind.wrap_i64]; omega
   simp only [hw1, hw2]
   obtain ⟨g0, g1, g2, g3, g4, g5⟩ := ((Mb.set6 (y := ⟨va, nn, cont, seg, of, wrt⟩) hZ2).next (Below.refl _ _).drew).cells
   unfold set6 at g0 g1 g2 g3 g4 g5
   go_wp2
   refine bodyPost_ret (v := .tuple #[.agg #[.int .i64 va, .int .i64 nn, .int .u64 cont, .int .u64 seg, .int .i64 of, .bool wrt], .int .i64 (of + p - va), .bool true]) (by simp [results, Tryz.f149, go_sem, g0, g1, g2, g3, g4, g5]) rfl ?_
   exact ⟨rfl, (xYz (y := ⟨va, nn, cont, seg, of, wrt⟩) hb2 (Nat.le_refl _)).drew⟩
  ·have r : Hid (fnd L p = none) := by show _ = _; rw [hfd'.out, if_neg hp]
   have r1 : Hid (fM L p = ⟨0, 0, 0, 0, 0, false⟩) := by show _ = _; unfold fM; rw [r.out]; rfl
   have r2 : Hid (fN L p = 0) := by show _ = _; unfold fN; rw [r.out]
   have r3 : Hid (fF L p = false) := by show _ = _; unfold fF; rw [r.out]; rfl
   rw [r1.out, r2.out, r3.out]
   clear hfd' r r1 r2 r3
   have hp' : p < va := by omega
   go_enter func149, ntmps149
   go_wp2_with (go_at_call 162; refine hpl.mono ?_; rintro e w1 ⟨rfl, hb1⟩; obtain ⟨b', off', va', nn', cont', seg', of', wrt', e0, hbb, hx2, c0, c1, c2, c3, c4, c5⟩ := MpsD.at (hL0.later hb1) hkn; cases e0; (have e9 := hx2.out; rw [hx.out] at e9; cases e9); have hZ1 := hZ.next hb1; obtain ⟨z0, z1, z2, z3, z4, z5⟩ := hZ1.cells; have zf := hZ1.frozen)
   obtain ⟨g0, g1, g2, g3, g4, g5⟩ := (Mb.set6 (y := ⟨0, 0, 0, 0, 0, false⟩) hZ1).cells
   unfold set6 at g0 g1 g2 g3 g4 g5
   refine bodyPost_ret (v := .tuple #[.agg #[.int .i64 0, .int .i64 0, .int .u64 0, .int .u64 0, .int .i64 0, .bool false], .int .i64 0, .bool false]) (by simp [results, Tryz.f149, go_sem, g0, g1, g2, g3, g4, g5]) rfl ?_
   exact ⟨rfl, xYz (y := ⟨0, 0, 0, 0, 0, false⟩) (btp hB0 hb1) (Nat.le_refl _)⟩
 ·obtain rfl : k = n := by omega
  have r : Hid (fnd L p = none) := by show _ = _; unfold fnd; rw [hk2.out, hln.out, if_neg (fun h => by omega)]
  have r1 : Hid (fM L p = ⟨0, 0, 0, 0, 0, false⟩) := by show _ = _; unfold fM; rw [r.out]; rfl
  have r2 : Hid (fN L p = 0) := by show _ = _; unfold fN; rw [r.out]
  have r3 : Hid (fF L p = false) := by show _ = _; unfold fF; rw [r.out]; rfl
  rw [r1.out, r2.out, r3.out]
  clear r r1 r2 r3 hat hF hk2
  go_enter func149, ntmps149
  go_wp2_with (go_at_call 162; refine hpl.mono ?_; rintro e w1 ⟨rfl, hb1⟩; have hZ1 := hZ.next hb1; obtain ⟨z0, z1, z2, z3, z4, z5⟩ := hZ1.cells; have zf := hZ1.frozen)
  obtain ⟨g0, g1, g2, g3, g4, g5⟩ := (Mb.set6 (y := ⟨0, 0, 0, 0, 0, false⟩) hZ1).cells
  unfold set6 at g0 g1 g2 g3 g4 g5
  refine bodyPost_ret (v := .tuple #[.agg #[.int .i64 0, .int .i64 0, .int .u64 0, .int .u64 0, .int .i64 0, .bool false], .int .i64 0, .bool false]) (by simp [results, Tryz.f149, go_sem, g0, g1, g2, g3, g4, g5]) rfl ?_
  exact ⟨rfl, xYz (y := ⟨0, 0, 0, 0, 0, false⟩) (btp hB0 hb1) (Nat.le_refl _)⟩
end PgM
namespace PgM
open Go.RowKit Go.Shelf
attribute [local go_sem] Oper.semAt_some
open Pg
def Pu (w2 : World) (b o A : Nat) (v0 v1 v2 v3 v4 : Int) (v5 : Bool) (u0 u1 u2 u3 u4 : Int) (u5 : Bool) (W : World) : Prop :=
 W.cell? ⟨b, o, none⟩ = some (.int .i64 v0) ∧ W.cell? ⟨b, o + 1, none⟩ = some (.int .i64 v1) ∧ W.cell? ⟨b, o + 2, none⟩ = some (.int .u64 v2) ∧ W.cell? ⟨b, o + 3, none⟩ = some (.int .u64 v3) ∧ W.cell? ⟨b, o + 4, none⟩ = some (.int .i64 v4) ∧ W.cell? ⟨b, o + 5, none⟩ = some (.bool v5) ∧
 W.cell? ⟨A, 0, none⟩ = some (.int .i64 u0) ∧ W.cell? ⟨A, 1, none⟩ = some (.int .i64 u1) ∧ W.cell? ⟨A, 2, none⟩ = some (.int .u64 u2) ∧ W.cell? ⟨A, 3, none⟩ = some (.int .u64 u3) ∧ W.cell? ⟨A, 4, none⟩ = some (.int .i64 u4) ∧ W.cell? ⟨A, 5, none⟩ = some (.bool u5) ∧ Below w2.heap.size w2 W
variable {u0 u1 u2 u3 u4 : Int} {u5 : Bool} {v0 v1 v2 v3 v4 : Int}
theorem Pu.next {w2 X Y : World} {b o A : Nat} {v5 : Bool} (h : Pu w2 b o A v0 v1 v2 v3 v4 v5 u0 u1 u2 u3 u4 u5 X) (hb : Below X.heap.size X Y) : Pu w2 b o A v0 v1 v2 v3 v4 v5 u0 u1 u2 u3 u4 u5 Y := by
 have f : ∀ {a : Addr} {v : Value}, X.cell? a = some v → Y.cell? a = some v := fun h => (hb.cell (World.block_lt_of_cell? _ _ h)).trans h
 obtain ⟨a0, a1, a2, a3, a4, a5, b0, b1, b2, b3, b4, b5, hB⟩ := h
 exact ⟨f a0, f a1, f a2, f a3, f a4, f a5, f b0, f b1, f b2, f b3, f b4, f b5, btp hB hb⟩
theorem Pu.bel {w2 X : World} {b o A : Nat} {v5 : Bool} (h : Pu w2 b o A v0 v1 v2 v3 v4 v5 u0 u1 u2 u3 u4 u5 X) : Below w2.heap.size w2 X := h.2.2.2.2.2.2.2.2.2.2.2.2
def Pw (w2 : World) (A : Nat) (u0 u1 u2 u3 u4 : Int) (u5 : Bool) (W : World) : Prop :=
 W.cell? ⟨A, 0, none⟩ = some (.int .i64 u0) ∧ W.cell? ⟨A, 1, none⟩ = some (.int .i64 u1) ∧ W.cell? ⟨A, 2, none⟩ = some (.int .u64 u2) ∧ W.cell? ⟨A, 3, none⟩ = some (.int .u64 u3) ∧ W.cell? ⟨A, 4, none⟩ = some (.int .i64 u4) ∧ W.cell? ⟨A, 5, none⟩ = some (.bool u5) ∧ Below w2.heap.size w2 W
theorem Pw.next {w2 X Y : World} {A : Nat} (h : Pw w2 A u0 u1 u2 u3 u4 u5 X) (hA : A < w2.heap.size) (hb : Below w2.heap.size X Y) : Pw w2 A u0 u1 u2 u3 u4 u5 Y := by
 have f : ∀ {j : Nat} {v : Value}, X.cell? ⟨A, j, none⟩ = some v → Y.cell? ⟨A, j, none⟩ = some v := fun h => (hb.cell (p := ⟨A, _, none⟩) hA).trans h
 obtain ⟨b0, b1, b2, b3, b4, b5, hB⟩ := h
 exact ⟨f b0, f b1, f b2, f b3, f b4, f b5, hB.trans hb⟩
theorem Pw.bel {w2 X : World} {A : Nat} (h : Pw w2 A u0 u1 u2 u3 u4 u5 X) : Below w2.heap.size w2 X := h.2.2.2.2.2.2
end PgM
namespace PgM
open Go.RowKit Go.Shelf
attribute [local go_sem] Oper.semAt_some
open Pg
theorem all_succ {p : Nat → Bool} {k : Nat} (h : ∀ i, i < k → p i = true) (hk : p k = true) : ∀ i, i < k + 1 → p i = true := fun i hi => by
 rcases Nat.lt_or_ge i k with h' | h'
 ·exact h i h'
 ·have : i = k := by omega
  rw [this]; exact hk
theorem below_drewN {B : Nat} {w W : World} (h : Below B w W) (m : Nat) : Below B w (W.drewN m) := h.trans ⟨rfl, rfl, rfl, Nat.le_refl _, fun _ _ => rfl⟩
theorem region_out {P : Program} {ops : Array Oper} {Q : Exit → Act → World → Prop} {S : World → Prop} {id : Nat} {a : Act} {w : World} (hm : P.follows .mixedOrders = true)
  (hS : S w.drew) (h : S w.drew → wpAnyH P .any ops Q S ops.size (Array.replicate ops.size false) a w.drew) : (Code.region id ops true).wp P Q a w :=
 wp_region_any hm (wpAny_of_held _ _ _ _ (h hS))
def It (W : World) (b o : Nat) (v0 v1 v2 v3 v4 : Int) (v5 : Bool) : Prop := W.cell? ⟨b, o, none⟩ = some (.int .i64 v0) ∧ W.cell? ⟨b, o + 1, none⟩ = some (.int .i64 v1) ∧ W.cell? ⟨b, o + 2, none⟩ = some (.int .u64 v2) ∧ W.cell? ⟨b, o + 3, none⟩ = some (.int .u64 v3) ∧ W.cell? ⟨b, o + 4, none⟩ = some (.int .i64 v4) ∧ W.cell? ⟨b, o + 5, none⟩ = some (.bool v5)
theorem It.next {X Y : World} {b o : Nat} {v0 v1 v2 v3 v4 : Int} {v5 : Bool} (h : It X b o v0 v1 v2 v3 v4 v5) (hb : Below X.heap.size X Y) : It Y b o v0 v1 v2 v3 v4 v5 := by
 have f : ∀ {a : Addr} {v : Value}, X.cell? a = some v → Y.cell? a = some v := fun h => (hb.cell (World.block_lt_of_cell? _ _ h)).trans h
 obtain ⟨a0, a1, a2, a3, a4, a5⟩ := h
 exact ⟨f a0, f a1, f a2, f a3, f a4, f a5⟩
def Pq (w2 : World) (b o o' : Nat) (v0 v1 u0 u1 u2 u3 u4 : Int) (u5 : Bool) (W : World) : Prop :=
 W.cell? ⟨b, o, none⟩ = some (.int .i64 v0) ∧ W.cell? ⟨b, o + 1, none⟩ = some (.int .i64 v1) ∧ W.cell? ⟨b, o', none⟩ = some (.int .i64 u0) ∧ W.cell? ⟨b, o' + 1, none⟩ = some (.int .i64 u1) ∧ W.cell? ⟨b, o' + 2, none⟩ = some (.int .u64 u2) ∧ W.cell? ⟨b, o' + 3, none⟩ = some (.int .u64 u3) ∧ W.cell? ⟨b, o' + 4, none⟩ = some (.int .i64 u4) ∧ W.cell? ⟨b, o' + 5, none⟩ = some (.bool u5) ∧ Below w2.heap.size w2 W
variable {v0 v1 u0 u1 u2 u3 u4 : Int}
theorem Pq.next {w2 X Y : World} {b o o' : Nat} {u5 : Bool} (h : Pq w2 b o o' v0 v1 u0 u1 u2 u3 u4 u5 X) (hb : Below X.heap.size X Y) : Pq w2 b o o' v0 v1 u0 u1 u2 u3 u4 u5 Y := by
 have f : ∀ {a : Addr} {v : Value}, X.cell? a = some v → Y.cell? a = some v := fun h => (hb.cell (World.block_lt_of_cell? _ _ h)).trans h
 obtain ⟨a0, a1, b0, b1, b2, b3, b4, b5, hB⟩ := h
 exact ⟨f a0, f a1, f b0, f b1, f b2, f b3, f b4, f b5, btp hB hb⟩
theorem Pq.bel {w2 X : World} {b o o' : Nat} {u5 : Bool} (h : Pq w2 b o o' v0 v1 u0 u1 u2 u3 u4 u5 X) : Below w2.heap.size w2 X := h.2.2.2.2.2.2.2.2
theorem rfit_any {w : World} {ao : Option Addr} {n cap : Nat} {L : List Mp} (hL : Mps w.heap.size w ao n cap L) :
  Calls prog 94 #[.slice ao n cap] w fun e w' => e = .returned (.bool (fitB L)) ∧ Below w.heap.size w w' := by
 have hln : Hid (L.length = n) := hL.1
 have hmx : prog.follows .mixedOrders = true := by kernel_rfl
 by_cases h16 : 16 < n
 ·have hr : Hid (fitB L = false) := gdz (by rw [hln.out]; exact h16)
  rw [hr.out]
  go_enter func94, ntmps94
  go_wp2
  go_ret
  exact ⟨rfl, Below.refl _ _⟩
 ·have hn16 : n ≤ 16 := by omega
  have hn16' : Hid (n ≤ 16) := hn16
  go_enter func94, ntmps94
  go_wp2
  go_loopw [3] (fun i wr => ∃ k : Nat, k ≤ n ∧ i = .int .i64 k ∧ Hid (∀ i, i < k → okAt L i = true) ∧ Below w.heap.size w wr) (fun i _ => n - (intOf i).toNat)
  case atStart => exact ⟨0, Nat.zero_le _, rfl, fun j hj => absurd hj (by omega), Below.refl _ _⟩
  case round =>
   obtain ⟨k, hk, rfl, hal, hb⟩ := hrel
   by_cases hkn : k < n
   ·obtain ⟨b, off, va, nn, cont, seg, of, wrt, rfl, hbb, hx, c0, c1, c2, c3, c4, c5⟩ := MpsD.at (hL.later hb) hkn
    have hkl : Hid (k < L.length) := by show k < L.length; rw [hln.out]; exact hkn
    have hkn' : (k : Int) < n := by omega
    have hbs := hb.size
    have hfit := fun W => rone_any va nn cont seg of wrt W
    cases h1 : oneB ⟨va, nn, cont, seg, of, wrt⟩ with
    | false =>
     rw [h1] at hfit
     have hr : Hid (fitB L = false) := fitB_no hkl.out (by unfold okAt; rw [hx.out, h1]; rfl)
     clear h1
     go_wp2
     refine region_out (S := fun W => It W b (off + k * 6) va nn cont seg of wrt) hmx (It.next ⟨c0, c1, c2, c3, c4, c5⟩ (Below.refl _ _).drew) (fun hS => ?_)
     have hBd : Below w.heap.size w wr.drew := hb.drew
     generalize wr.drew = W3 at hS hBd ⊢
     refine wpAnyH_take (i := 0) (v := .slice (some ⟨b, off, none⟩) n cap) rfl (by kernel_rfl) (by kernel_rfl) (by kernel_rfl) (fun _ _ _ h => h) (Or.inl ⟨by kernel_rfl, fun w2 hS2 => by go_simp⟩) hS ?_
     simp only [Act.put]
     refine wpAnyH_take (i := 1) (v := .int .i64 (k : Int)) rfl (by kernel_rfl) (by kernel_rfl) (by kernel_rfl) (fun _ _ _ h => h) (Or.inl ⟨by kernel_rfl, fun w2 hS2 => by go_simp⟩) hS ?_
     simp only [Act.put]
     refine wpAnyH_take (i := 2) (v := .pointer (some ⟨b, off + k * 6, none⟩)) rfl (by kernel_rfl) (by kernel_rfl) (by kernel_rfl) (fun _ _ _ h => h) (Or.inl ⟨by kernel_rfl, fun w2 hS2 => by go_simp⟩) hS ?_
     simp only [Act.put]
     refine wpAnyH_take (i := 3) (v := .agg #[.int .i64 va, .int .i64 nn, .int .u64 cont, .int .u64 seg, .int .i64 of, .bool wrt]) rfl (by kernel_rfl) (by kernel_rfl) (by kernel_rfl) (fun _ _ _ h => h) (Or.inl ⟨by kernel_rfl, fun w2 hS2 => by obtain ⟨q0, q1, q2, q3, q4, q5⟩ := hS2; go_simp⟩) hS ?_
     simp only [Act.put]
     refine wpAnyH_ready (rs := [4]) (by kernel_rfl) (by simp) ?_
     refine AllReadyH.cons rfl (fun K hK => ?_) AllReadyH.nil
     go_simp
     refine (hfit _).mono ?_
     rintro e w1 ⟨rfl, hb1⟩
     have hS : It w1 b (off + k * 6) va nn cont seg of wrt := It.next hS hb1
     have hB3 : Below w.heap.size w w1 := btp hBd hb1
     refine hK.out _ _ hS (fun hS => ?_)
     clear hK K
     refine wpAnyH_take (i := 5) (v := .bool true) rfl (by kernel_rfl) (by kernel_rfl) (by kernel_rfl) (fun _ _ _ h => h) (Or.inl ⟨by kernel_rfl, fun w2 hS2 => by go_simp⟩) hS ?_
     simp only [Act.put]
     refine wpAnyH_take (i := 6) (v := .bool true) rfl (by kernel_rfl) (by kernel_rfl) (by kernel_rfl) (fun _ _ _ h => h) (Or.inl ⟨by kernel_rfl, fun w2 hS2 => by go_simp⟩) hS ?_
     simp only [Act.put]
     refine wpAnyH_take (i := 7) (v := undef) rfl (by kernel_rfl) (by kernel_rfl) (by kernel_rfl) (fun _ _ _ h => h) (Or.inr ⟨by kernel_rfl, rfl⟩) hS ?_
     simp only [Act.put]
     refine wpAnyH_take (i := 8) (v := undef) rfl (by kernel_rfl) (by kernel_rfl) (by kernel_rfl) (fun _ _ _ h => h) (Or.inr ⟨by kernel_rfl, rfl⟩) hS ?_
     simp only [Act.put]
     refine wpAnyH_take (i := 9) (v := undef) rfl (by kernel_rfl) (by kernel_rfl) (by kernel_rfl) (fun _ _ _ h => h) (Or.inr ⟨by kernel_rfl, rfl⟩) hS ?_
     simp only [Act.put]
     refine wpAnyH_take (i := 10) (v := undef) rfl (by kernel_rfl) (by kernel_rfl) (by kernel_rfl) (fun _ _ _ h => h) (Or.inr ⟨by kernel_rfl, rfl⟩) hS ?_
     simp only [Act.put]
     refine wpAnyH_take (i := 11) (v := undef) rfl (by kernel_rfl) (by kernel_rfl) (by kernel_rfl) (fun _ _ _ h => h) (Or.inr ⟨by kernel_rfl, rfl⟩) hS ?_
     simp only [Act.put]
     refine wpAnyH_take (i := 12) (v := undef) rfl (by kernel_rfl) (by kernel_rfl) (by kernel_rfl) (fun _ _ _ h => h) (Or.inr ⟨by kernel_rfl, rfl⟩) hS ?_
     simp only [Act.put]
     refine wpAnyH_take (i := 13) (v := undef) rfl (by kernel_rfl) (by kernel_rfl) (by kernel_rfl) (fun _ _ _ h => h) (Or.inr ⟨by kernel_rfl, rfl⟩) hS ?_
     simp only [Act.put]
     refine wpAnyH_take (i := 14) (v := undef) rfl (by kernel_rfl) (by kernel_rfl) (by kernel_rfl) (fun _ _ _ h => h) (Or.inr ⟨by kernel_rfl, rfl⟩) hS ?_
     simp only [Act.put]
     refine wpAnyH_take (i := 15) (v := undef) rfl (by kernel_rfl) (by kernel_rfl) (by kernel_rfl) (fun _ _ _ h => h) (Or.inr ⟨by kernel_rfl, rfl⟩) hS ?_
     simp only [Act.put]
     refine wpAnyH_take (i := 16) (v := undef) rfl (by kernel_rfl) (by kernel_rfl) (by kernel_rfl) (fun _ _ _ h => h) (Or.inr ⟨by kernel_rfl, rfl⟩) hS ?_
     simp only [Act.put]
     refine wpAnyH_take (i := 17) (v := undef) rfl (by kernel_rfl) (by kernel_rfl) (by kernel_rfl) (fun _ _ _ h => h) (Or.inr ⟨by kernel_rfl, rfl⟩) hS ?_
     simp only [Act.put]
     refine wpAnyH_take (i := 18) (v := undef) rfl (by kernel_rfl) (by kernel_rfl) (by kernel_rfl) (fun _ _ _ h => h) (Or.inr ⟨by kernel_rfl, rfl⟩) hS ?_
     simp only [Act.put]
     refine wpAnyH_take (i := 19) (v := undef) rfl (by kernel_rfl) (by kernel_rfl) (by kernel_rfl) (fun _ _ _ h => h) (Or.inr ⟨by kernel_rfl, rfl⟩) hS ?_
     simp only [Act.put]
     refine wpAnyH_take (i := 20) (v := undef) rfl (by kernel_rfl) (by kernel_rfl) (by kernel_rfl) (fun _ _ _ h => h) (Or.inr ⟨by kernel_rfl, rfl⟩) hS ?_
     simp only [Act.put]
     refine wpAnyH_take (i := 21) (v := undef) rfl (by kernel_rfl) (by kernel_rfl) (by kernel_rfl) (fun _ _ _ h => h) (Or.inr ⟨by kernel_rfl, rfl⟩) hS ?_
     simp only [Act.put]
     refine wpAnyH_take (i := 22) (v := undef) rfl (by kernel_rfl) (by kernel_rfl) (by kernel_rfl) (fun _ _ _ h => h) (Or.inr ⟨by kernel_rfl, rfl⟩) hS ?_
     simp only [Act.put]
     refine wpAnyH_take (i := 23) (v := undef) rfl (by kernel_rfl) (by kernel_rfl) (by kernel_rfl) (fun _ _ _ h => h) (Or.inr ⟨by kernel_rfl, rfl⟩) hS ?_
     simp only [Act.put]
     refine wpAnyH_take (i := 24) (v := undef) rfl (by kernel_rfl) (by kernel_rfl) (by kernel_rfl) (fun _ _ _ h => h) (Or.inr ⟨by kernel_rfl, rfl⟩) hS ?_
     simp only [Act.put]
     refine wpAnyH_take (i := 25) (v := undef) rfl (by kernel_rfl) (by kernel_rfl) (by kernel_rfl) (fun _ _ _ h => h) (Or.inr ⟨by kernel_rfl, rfl⟩) hS ?_
     simp only [Act.put]
     refine wpAnyH_take (i := 26) (v := undef) rfl (by kernel_rfl) (by kernel_rfl) (by kernel_rfl) (fun _ _ _ h => h) (Or.inr ⟨by kernel_rfl, rfl⟩) hS ?_
     simp only [Act.put]
     refine wpAnyH_take (i := 27) (v := undef) rfl (by kernel_rfl) (by kernel_rfl) (by kernel_rfl) (fun _ _ _ h => h) (Or.inr ⟨by kernel_rfl, rfl⟩) hS ?_
     simp only [Act.put]
     refine wpAnyH_take (i := 28) (v := undef) rfl (by kernel_rfl) (by kernel_rfl) (by kernel_rfl) (fun _ _ _ h => h) (Or.inr ⟨by kernel_rfl, rfl⟩) hS ?_
     simp only [Act.put]
     refine wpAnyH_take (i := 29) (v := undef) rfl (by kernel_rfl) (by kernel_rfl) (by kernel_rfl) (fun _ _ _ h => h) (Or.inr ⟨by kernel_rfl, rfl⟩) hS ?_
     simp only [Act.put]
     refine wpAnyH_take (i := 30) (v := .bool true) rfl (by kernel_rfl) (by kernel_rfl) (by kernel_rfl) (fun _ _ _ h => h) (Or.inl ⟨by kernel_rfl, fun w2 hS2 => by go_simp⟩) hS ?_
     simp only [Act.put]
     refine wpAnyH_done (by kernel_rfl) ?_ _
     go_simp
     go_wp2
     go_ret
     exact ⟨by rw [hr.out]; rfl, hB3⟩
    | true =>
     rw [h1] at hfit
     by_cases hk0 : k = 0
     ·have hal2 : Hid (∀ i, i < k + 1 → okAt L i = true) := all_succ hal.out (by unfold okAt; rw [hx.out, h1, hk0]; rfl)
      have hk0' : ¬ 0 < k := by omega
      clear h1 hk0
      go_wp2
      refine region_out (S := fun W => It W b (off + k * 6) va nn cont seg of wrt) hmx (It.next ⟨c0, c1, c2, c3, c4, c5⟩ (Below.refl _ _).drew) (fun hS => ?_)
      have hBd : Below w.heap.size w wr.drew := hb.drew
      generalize wr.drew = W3 at hS hBd ⊢
      refine wpAnyH_take (i := 0) (v := .slice (some ⟨b, off, none⟩) n cap) rfl (by kernel_rfl) (by kernel_rfl) (by kernel_rfl) (fun _ _ _ h => h) (Or.inl ⟨by kernel_rfl, fun w2 hS2 => by go_simp⟩) hS ?_
      simp only [Act.put]
      refine wpAnyH_take (i := 1) (v := .int .i64 (k : Int)) rfl (by kernel_rfl) (by kernel_rfl) (by kernel_rfl) (fun _ _ _ h => h) (Or.inl ⟨by kernel_rfl, fun w2 hS2 => by go_simp⟩) hS ?_
      simp only [Act.put]
      refine wpAnyH_take (i := 2) (v := .pointer (some ⟨b, off + k * 6, none⟩)) rfl (by kernel_rfl) (by kernel_rfl) (by kernel_rfl) (fun _ _ _ h => h) (Or.inl ⟨by kernel_rfl, fun w2 hS2 => by go_simp⟩) hS ?_
      simp only [Act.put]
      refine wpAnyH_take (i := 3) (v := .agg #[.int .i64 va, .int .i64 nn, .int .u64 cont, .int .u64 seg, .int .i64 of, .bool wrt]) rfl (by kernel_rfl) (by kernel_rfl) (by kernel_rfl) (fun _ _ _ h => h) (Or.inl ⟨by kernel_rfl, fun w2 hS2 => by obtain ⟨q0, q1, q2, q3, q4, q5⟩ := hS2; go_simp⟩) hS ?_
      simp only [Act.put]
      refine wpAnyH_ready (rs := [4]) (by kernel_rfl) (by simp) ?_
      refine AllReadyH.cons rfl (fun K hK => ?_) AllReadyH.nil
      go_simp
      refine (hfit _).mono ?_
      rintro e w1 ⟨rfl, hb1⟩
      have hS : It w1 b (off + k * 6) va nn cont seg of wrt := It.next hS hb1
      have hB3 : Below w.heap.size w w1 := btp hBd hb1
      refine hK.out _ _ hS (fun hS => ?_)
      clear hK K
      refine wpAnyH_take (i := 5) (v := .bool false) rfl (by kernel_rfl) (by kernel_rfl) (by kernel_rfl) (fun _ _ _ h => h) (Or.inl ⟨by kernel_rfl, fun w2 hS2 => by go_simp⟩) hS ?_
      simp only [Act.put]
      refine wpAnyH_take (i := 6) (v := .bool false) rfl (by kernel_rfl) (by kernel_rfl) (by kernel_rfl) (fun _ _ _ h => h) (Or.inl ⟨by kernel_rfl, fun w2 hS2 => by go_simp⟩) hS ?_
      simp only [Act.put]
      refine wpAnyH_take (i := 7) (v := .int .i64 (k : Int)) rfl (by kernel_rfl) (by kernel_rfl) (by kernel_rfl) (fun _ _ _ h => h) (Or.inl ⟨by kernel_rfl, fun w2 hS2 => by go_simp⟩) hS ?_
      simp only [Act.put]
      refine wpAnyH_take (i := 8) (v := .bool false) rfl (by kernel_rfl) (by kernel_rfl) (by kernel_rfl) (fun _ _ _ h => h) (Or.inl ⟨by kernel_rfl, fun w2 hS2 => by go_simp⟩) hS ?_
      simp only [Act.put]
      refine wpAnyH_take (i := 9) (v := .bool false) rfl (by kernel_rfl) (by kernel_rfl) (by kernel_rfl) (fun _ _ _ h => h) (Or.inl ⟨by kernel_rfl, fun w2 hS2 => by go_simp⟩) hS ?_
      simp only [Act.put]
      refine wpAnyH_take (i := 10) (v := undef) rfl (by kernel_rfl) (by kernel_rfl) (by kernel_rfl) (fun _ _ _ h => h) (Or.inr ⟨by kernel_rfl, rfl⟩) hS ?_
      simp only [Act.put]
      refine wpAnyH_take (i := 11) (v := undef) rfl (by kernel_rfl) (by kernel_rfl) (by kernel_rfl) (fun _ _ _ h => h) (Or.inr ⟨by kernel_rfl, rfl⟩) hS ?_
      simp only [Act.put]
      refine wpAnyH_take (i := 12) (v := undef) rfl (by kernel_rfl) (by kernel_rfl) (by kernel_rfl) (fun _ _ _ h => h) (Or.inr ⟨by kernel_rfl, rfl⟩) hS ?_
      simp only [Act.put]
      refine wpAnyH_take (i := 13) (v := undef) rfl (by kernel_rfl) (by kernel_rfl) (by kernel_rfl) (fun _ _ _ h => h) (Or.inr ⟨by kernel_rfl, rfl⟩) hS ?_
      simp only [Act.put]
      refine wpAnyH_take (i := 14) (v := undef) rfl (by kernel_rfl) (by kernel_rfl) (by kernel_rfl) (fun _ _ _ h => h) (Or.inr ⟨by kernel_rfl, rfl⟩) hS ?_
      simp only [Act.put]
      refine wpAnyH_take (i := 15) (v := undef) rfl (by kernel_rfl) (by kernel_rfl) (by kernel_rfl) (fun _ _ _ h => h) (Or.inr ⟨by kernel_rfl, rfl⟩) hS ?_
      simp only [Act.put]
      refine wpAnyH_take (i := 16) (v := undef) rfl (by kernel_rfl) (by kernel_rfl) (by kernel_rfl) (fun _ _ _ h => h) (Or.inr ⟨by kernel_rfl, rfl⟩) hS ?_
      simp only [Act.put]
      refine wpAnyH_take (i := 17) (v := undef) rfl (by kernel_rfl) (by kernel_rfl) (by kernel_rfl) (fun _ _ _ h => h) (Or.inr ⟨by kernel_rfl, rfl⟩) hS ?_
      simp only [Act.put]
      refine wpAnyH_take (i := 18) (v := undef) rfl (by kernel_rfl) (by kernel_rfl) (by kernel_rfl) (fun _ _ _ h => h) (Or.inr ⟨by kernel_rfl, rfl⟩) hS ?_
      simp only [Act.put]
      refine wpAnyH_take (i := 19) (v := undef) rfl (by kernel_rfl) (by kernel_rfl) (by kernel_rfl) (fun _ _ _ h => h) (Or.inr ⟨by kernel_rfl, rfl⟩) hS ?_
      simp only [Act.put]
      refine wpAnyH_take (i := 20) (v := undef) rfl (by kernel_rfl) (by kernel_rfl) (by kernel_rfl) (fun _ _ _ h => h) (Or.inr ⟨by kernel_rfl, rfl⟩) hS ?_
      simp only [Act.put]
      refine wpAnyH_take (i := 21) (v := undef) rfl (by kernel_rfl) (by kernel_rfl) (by kernel_rfl) (fun _ _ _ h => h) (Or.inr ⟨by kernel_rfl, rfl⟩) hS ?_
      simp only [Act.put]
      refine wpAnyH_take (i := 22) (v := undef) rfl (by kernel_rfl) (by kernel_rfl) (by kernel_rfl) (fun _ _ _ h => h) (Or.inr ⟨by kernel_rfl, rfl⟩) hS ?_
      simp only [Act.put]
      refine wpAnyH_take (i := 23) (v := undef) rfl (by kernel_rfl) (by kernel_rfl) (by kernel_rfl) (fun _ _ _ h => h) (Or.inr ⟨by kernel_rfl, rfl⟩) hS ?_
      simp only [Act.put]
      refine wpAnyH_take (i := 24) (v := undef) rfl (by kernel_rfl) (by kernel_rfl) (by kernel_rfl) (fun _ _ _ h => h) (Or.inr ⟨by kernel_rfl, rfl⟩) hS ?_
      simp only [Act.put]
      refine wpAnyH_take (i := 25) (v := undef) rfl (by kernel_rfl) (by kernel_rfl) (by kernel_rfl) (fun _ _ _ h => h) (Or.inr ⟨by kernel_rfl, rfl⟩) hS ?_
      simp only [Act.put]
      refine wpAnyH_take (i := 26) (v := undef) rfl (by kernel_rfl) (by kernel_rfl) (by kernel_rfl) (fun _ _ _ h => h) (Or.inr ⟨by kernel_rfl, rfl⟩) hS ?_
      simp only [Act.put]
      refine wpAnyH_take (i := 27) (v := undef) rfl (by kernel_rfl) (by kernel_rfl) (by kernel_rfl) (fun _ _ _ h => h) (Or.inr ⟨by kernel_rfl, rfl⟩) hS ?_
      simp only [Act.put]
      refine wpAnyH_take (i := 28) (v := undef) rfl (by kernel_rfl) (by kernel_rfl) (by kernel_rfl) (fun _ _ _ h => h) (Or.inr ⟨by kernel_rfl, rfl⟩) hS ?_
      simp only [Act.put]
      refine wpAnyH_take (i := 29) (v := .bool false) rfl (by kernel_rfl) (by kernel_rfl) (by kernel_rfl) (fun _ _ _ h => h) (Or.inl ⟨by kernel_rfl, fun w2 hS2 => by go_simp⟩) hS ?_
      simp only [Act.put]
      refine wpAnyH_take (i := 30) (v := .bool false) rfl (by kernel_rfl) (by kernel_rfl) (by kernel_rfl) (fun _ _ _ h => h) (Or.inl ⟨by kernel_rfl, fun w2 hS2 => by go_simp⟩) hS ?_
      simp only [Act.put]
      refine wpAnyH_done (by kernel_rfl) ?_ _
      go_simp
      go_wp2
      go_roundw
      case rel => exact ⟨k + 1, by omega, by simp, hal2, hB3⟩
      case measure => simp [intOf]; omega
     ·obtain ⟨j, hj⟩ : ∃ j, Hid (k = j + 1) := ⟨k - 1, by show _ = _; omega⟩
      have hw : IntKind.i64.wrap ((k : Int) - 1) = (j : Int) := by have := hj.out; rw [IntKind.wrap_i64]; omega
      have hkp : 0 < k := by omega
      have hjn : j < n := by have := hj.out; omega
      have hjn' : (j : Int) < n := by omega
      obtain ⟨b', off', va0, nn0, cont0, seg0, of0, wrt0, e0, _, hx0, d0, d1, _⟩ := MpsD.at (hL.later hb) hjn
      cases e0
      have h10 : oneB ⟨va0, nn0, cont0, seg0, of0, wrt0⟩ = true := by
       have := hal.out j (by rw [hj.out]; omega)
       unfold okAt at this
       rw [hx0.out, Bool.and_eq_true] at this
       exact this.1
      have h10' := oneB_iff.1 h10
      simp only at h10'
      have hok : Hid (okAt L k = decide (va0 + nn0 ≤ va)) := by
       show _ = _
       unfold okAt
       rw [show k - 1 = j by rw [hj.out]; omega, hx.out, hx0.out, h1, decide_eq_false hk0]
       rfl
      have hw2 : IntKind.i64.wrap (va0 + nn0) = va0 + nn0 := by rw [IntKind.wrap_i64]; omega
      clear h10 h10' hk0 h1
      by_cases hq : va0 + nn0 ≤ va
      ·have hal2 : Hid (∀ i, i < k + 1 → okAt L i = true) := all_succ hal.out (by rw [hok.out, decide_eq_true hq])
       have hq' : decide (va < va0 + nn0) = false := by rw [decide_eq_false_iff_not]; omega
       clear hok
       go_wp2
       have HS : Pq wr b (off + j * 6) (off + k * 6) va0 nn0 va nn cont seg of wrt wr.drew := Pq.next ⟨d0, d1, c0, c1, c2, c3, c4, c5, Below.refl _ _⟩ (Below.refl _ _).drew
       clear d0 d1 c0 c1 c2 c3 c4 c5
       go_region_held3 (fun W => W.cell? ⟨b, off + j * 6, none⟩ = some (.int .i64 va0) ∧ W.cell? ⟨b, off + j * 6 + 1, none⟩ = some (.int .i64 nn0) ∧ W.cell? ⟨b, off + k * 6, none⟩ = some (.int .i64 va) ∧ W.cell? ⟨b, off + k * 6 + 1, none⟩ = some (.int .i64 nn) ∧ W.cell? ⟨b, off + k * 6 + 2, none⟩ = some (.int .u64 cont) ∧ W.cell? ⟨b, off + k * 6 + 3, none⟩ = some (.int .u64 seg) ∧ W.cell? ⟨b, off + k * 6 + 4, none⟩ = some (.int .i64 of) ∧ W.cell? ⟨b, off + k * 6 + 5, none⟩ = some (.bool wrt) ∧ Below wr.heap.size wr W) (first | exact HS | exact Pq.next (by assumption) hb2 | go_keep | fail) (first | (go_at_call 116; (with_reducible refine (hfit _).mono ?_); rintro e w' ⟨rfl, hb2⟩) | fail)
       have hfin : Below wr.heap.size wr w' := Pq.bel (by assumption : Pq wr b (off + j * 6) (off + k * 6) va0 nn0 va nn cont seg of wrt w')
       have hB3 : Below w.heap.size w w' := btp hb hfin
       go_wp2
       go_roundw
       case rel => exact ⟨k + 1, by omega, by simp, hal2, hB3⟩
       case measure => simp [intOf]; omega
      ·have hr : Hid (fitB L = false) := fitB_no hkl.out (by rw [hok.out, decide_eq_false hq])
       have hq' : decide (va < va0 + nn0) = true := by rw [decide_eq_true_iff]; omega
       clear hok
       go_wp2
       have HS : Pq wr b (off + j * 6) (off + k * 6) va0 nn0 va nn cont seg of wrt wr.drew := Pq.next ⟨d0, d1, c0, c1, c2, c3, c4, c5, Below.refl _ _⟩ (Below.refl _ _).drew
       clear d0 d1 c0 c1 c2 c3 c4 c5
       go_region_held3 (fun W => W.cell? ⟨b, off + j * 6, none⟩ = some (.int .i64 va0) ∧ W.cell? ⟨b, off + j * 6 + 1, none⟩ = some (.int .i64 nn0) ∧ W.cell? ⟨b, off + k * 6, none⟩ = some (.int .i64 va) ∧ W.cell? ⟨b, off + k * 6 + 1, none⟩ = some (.int .i64 nn) ∧ W.cell? ⟨b, off + k * 6 + 2, none⟩ = some (.int .u64 cont) ∧ W.cell? ⟨b, off + k * 6 + 3, none⟩ = some (.int .u64 seg) ∧ W.cell? ⟨b, off + k * 6 + 4, none⟩ = some (.int .i64 of) ∧ W.cell? ⟨b, off + k * 6 + 5, none⟩ = some (.bool wrt) ∧ Below wr.heap.size wr W) (first | exact HS | exact Pq.next (by assumption) hb2 | go_keep | fail) (first | (go_at_call 116; (with_reducible refine (hfit _).mono ?_); rintro e w' ⟨rfl, hb2⟩) | fail)
       have hfin : Below wr.heap.size wr w' := Pq.bel (by assumption : Pq wr b (off + j * 6) (off + k * 6) va0 nn0 va nn cont seg of wrt w')
       have hB3 : Below w.heap.size w w' := btp hb hfin
       go_wp2
       go_ret
       exact ⟨by rw [hr.out]; rfl, hB3⟩
   ·obtain rfl : k = n := by omega
    have hr : Hid (fitB L = true) := fitB_yes (by rw [hln.out]; exact hn16'.out) (fun i hi => hal.out i (by rw [hln.out] at hi; exact hi))
    go_wp2
    go_ret
    exact ⟨by rw [hr.out]; rfl, hb⟩
end PgM
namespace PgM
open Go.RowKit Go.Shelf
attribute [local go_sem] Oper.semAt_some
open Pg
theorem eqB_no {x y : Mp} (h : ¬ x = y) : eqB x y = false := by
 cases hq : eqB x y with
 | false => rfl
 | true => exact absurd (eqB_iff.1 hq) h
theorem diff {a0 a1 a2 a3 a4 : Int} {a5 : Bool} {b0 b1 b2 b3 b4 : Int} {b5 : Bool} (h : ¬ (⟨a0, a1, a2, a3, a4, a5⟩ : Mp) = ⟨b0, b1, b2, b3, b4, b5⟩) :
  (a0 == b0) = false ∨ (a0 = b0 ∧ (a1 == b1) = false) ∨ (a0 = b0 ∧ a1 = b1 ∧ (a2 == b2) = false) ∨ (a0 = b0 ∧ a1 = b1 ∧ a2 = b2 ∧ (a3 == b3) = false) ∨ (a0 = b0 ∧ a1 = b1 ∧ a2 = b2 ∧ a3 = b3 ∧ (a4 == b4) = false) ∨ (a0 = b0 ∧ a1 = b1 ∧ a2 = b2 ∧ a3 = b3 ∧ a4 = b4 ∧ (a5 == b5) = false) := by
 by_cases h0 : a0 = b0
 ·by_cases h1 : a1 = b1
  ·by_cases h2 : a2 = b2
   ·by_cases h3 : a3 = b3
    ·by_cases h4 : a4 = b4
     ·by_cases h5 : a5 = b5
      ·exact absurd (by rw [h0, h1, h2, h3, h4, h5]) h
      ·exact .inr (.inr (.inr (.inr (.inr ⟨h0, h1, h2, h3, h4, by rw [beq_eq_false_iff_ne]; exact h5⟩))))
     ·exact .inr (.inr (.inr (.inr (.inl ⟨h0, h1, h2, h3, by rw [beq_eq_false_iff_ne]; exact h4⟩))))
    ·exact .inr (.inr (.inr (.inl ⟨h0, h1, h2, by rw [beq_eq_false_iff_ne]; exact h3⟩)))
   ·exact .inr (.inr (.inl ⟨h0, h1, by rw [beq_eq_false_iff_ne]; exact h2⟩))
  ·exact .inr (.inl ⟨h0, by rw [beq_eq_false_iff_ne]; exact h1⟩)
 ·exact .inl (by rw [beq_eq_false_iff_ne]; exact h0)
theorem eqs_succ {p q : Nat → Mp} {k : Nat} (h : ∀ i, i < k → eqB (p i) (q i) = true) (hk : eqB (p k) (q k) = true) : ∀ i, i < k + 1 → eqB (p i) (q i) = true := fun i hi => by
 rcases Nat.lt_or_ge i k with h' | h'
 ·exact h i h'
 ·have : i = k := by omega
  rw [this]; exact hk
theorem rsame_any {w : World} {a a' : Option Addr} {n c n' c' : Nat} {L M : List Mp} (h : Mps w.heap.size w a n c L) (h' : Mps w.heap.size w a' n' c' M) :
  Calls prog 34 #[.slice a n c, .slice a' n' c'] w fun e w' => e = .returned (.bool (sameB L M)) ∧ Below w.heap.size w w' := by
 have hn : Hid (L.length = n) := h.1
 have hn' : Hid (M.length = n') := h'.1
 have hnc := h.2.1
 have hcm := h.2.2.1.1
 have hnc' := h'.2.1
 have hcm' := h'.2.2.1.1
 by_cases hnn : n = n'
 ·subst hnn
  go_enter func34, ntmps34
  go_wp2
  go_loopw [5] (fun i wr => ∃ k : Nat, k ≤ n ∧ i = .int .i64 k ∧ Hid (∀ j, j < k → eqB (mat L j) (mat M j) = true) ∧ Below w.heap.size w wr) (fun i _ => n - (intOf i).toNat)
  case atStart => exact ⟨0, Nat.zero_le _, rfl, fun j hj => absurd hj (by omega), Below.refl _ _⟩
  case round =>
   obtain ⟨k, hk, rfl, hal, hb⟩ := hrel
   by_cases hkn : k < n
   ·obtain ⟨b, off, va, nn, cont, seg, of, wrt, rfl, hB, hx, c0, c1, c2, c3, c4, c5⟩ := MpsD.at (h.later hb) hkn
    obtain ⟨b', off', va', nn', cont', seg', of', wrt', rfl, hB', hx', d0, d1, d2, d3, d4, d5⟩ := MpsD.at (h'.later hb) hkn
    have hkn' : (k : Int) < n := by omega
    by_cases hxx : (⟨va, nn, cont, seg, of, wrt⟩ : Mp) = ⟨va', nn', cont', seg', of', wrt'⟩
    ·have hal2 : Hid (∀ j, j < k + 1 → eqB (mat L j) (mat M j) = true) := eqs_succ hal.out (by rw [hx.out, hx'.out, hxx]; exact ybz _)
     simp only [Mp.mk.injEq] at hxx
     obtain ⟨rfl, rfl, rfl, rfl, rfl, rfl⟩ := hxx
     go_wp2
     go_quiet (fail)
     go_wp2
     go_roundw
     case rel => exact ⟨k + 1, by omega, by go_num, hal2, below_drewN hb _⟩
     case measure => simp [intOf]; omega
    ·have hf : Hid (sameB L M = false) := sameB_at (k := k) (by rw [hn.out]; exact hkn) (by rw [hx.out, hx'.out]; exact eqB_no hxx)
     rcases diff hxx with hd | ⟨rfl, hd⟩ | ⟨rfl, rfl, hd⟩ | ⟨rfl, rfl, rfl, hd⟩ | ⟨rfl, rfl, rfl, rfl, hd⟩ | ⟨rfl, rfl, rfl, rfl, rfl, hd⟩
     ·clear hxx
      go_wp2
      go_quiet (fail)
      go_wp2
      go_ret
      exact ⟨(by rw [hf.out]; rfl), below_drewN hb _⟩
     ·clear hxx
      go_wp2
      go_quiet (fail)
      go_wp2
      go_ret
      exact ⟨(by rw [hf.out]; rfl), below_drewN hb _⟩
     ·clear hxx
      go_wp2
      go_quiet (fail)
      go_wp2
      go_ret
      exact ⟨(by rw [hf.out]; rfl), below_drewN hb _⟩
     ·clear hxx
      go_wp2
      go_quiet (fail)
      go_wp2
      go_ret
      exact ⟨(by rw [hf.out]; rfl), below_drewN hb _⟩
     ·clear hxx
      go_wp2
      go_quiet (fail)
      go_wp2
      go_ret
      exact ⟨(by rw [hf.out]; rfl), below_drewN hb _⟩
     ·clear hxx
      go_wp2
      go_quiet (fail)
      go_wp2
      go_ret
      exact ⟨(by rw [hf.out]; rfl), below_drewN hb _⟩
   ·obtain rfl : k = n := by omega
    have hf : Hid (sameB L M = true) := sameB_all (by rw [hn.out, hn'.out]) (fun i hi => hal.out i (by rw [hn.out] at hi; exact hi))
    go_wp2
    go_ret
    exact ⟨(by rw [hf.out]; rfl), hb⟩
 ·have hf : Hid (sameB L M = false) := sameB_len (by rw [hn.out, hn'.out]; exact hnn)
  have hne : ((n : Int) == (n' : Int)) = false := by simp; omega
  go_enter func34, ntmps34
  go_wp2
  go_ret
  exact ⟨(by rw [hf.out]; rfl), Below.refl _ _⟩
end PgM
end Go.Proofs.YtdeddhojjolihaaGreat
