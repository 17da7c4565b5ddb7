/-
 PROVED HERE: plain facts on the maps of an address space as lists of six fields each (no Go text); memory's words for maps . What is asked stands at each.
-/
import Derived.WalkKit
import Derived.RangeFuncNested
import Derived.RangeFuncBound
import Derived.RangeFuncBox
import Derived.Shelf.Abstract
import Derived.Shelf.RegionOpen
import Derived.Below
import Derived.OwnWalk
import Derived.WalkSmall
import Derived.Laws.EntriesVeiled
import Derived.Deep.QuietTactic
import Derived.Test.YtfghigibjdncbaaGreatRows
import Derived.Laws.AppendOwn
import Derived.Laws.OwnMore
import Derived.Laws.AppendOwnNone
import Derived.Maps.AppendAt
import Derived.Deep.RegionHeld3
import Derived.Deep.RegionWith
namespace Go.Proofs.YtfghigibjdncbaaGreat.PgM
set_option maxRecDepth 100000
set_option maxHeartbeats 8000000
namespace Pg

structure Mp where
 va : Int
 n : Int
 cont : Int
 seg : Int
 off : Int
 wr : Bool
instance : Inhabited Mp := ⟨⟨0, 0, 0, 0, 0, false⟩⟩
def oneB (m : Mp) : Bool := decide (0 ≤ m.va ∧ 1 ≤ m.n ∧ 0 ≤ m.off ∧ m.va + m.n ≤ 1048576 ∧ m.off + m.n ≤ 1048576)
def mat (L : List Mp) (i : Nat) : Mp := L.getD i default
def okAt (L : List Mp) (i : Nat) : Bool := oneB (mat L i) && (decide (i = 0) || decide ((mat L (i - 1)).va + (mat L (i - 1)).n ≤ (mat L i).va))
def fitB (L : List Mp) : Bool := decide (L.length ≤ 16) && (List.range L.length).all (okAt L)
def Fit (L : List Mp) : Prop := L.length ≤ 16 ∧ (∀ x ∈ L, oneB x = true) ∧ L.Pairwise (fun x y => x.va + x.n ≤ y.va)
section
variable {L M : List Mp} {i j k : Nat} {m x : Mp} {P : Mp → Bool} {p v : Int}
theorem Fit.nil : Fit [] := ⟨by simp, fun x (hx : x ∈ []) => (by cases hx), List.Pairwise.nil⟩
end
def eqB (x y : Mp) : Bool := x.va == y.va && x.n == y.n && x.cont == y.cont && x.seg == y.seg && x.off == y.off && x.wr == y.wr
theorem eqB_iff {x y : Mp} : eqB x y = true ↔ x = y := by
 cases x; cases y
 simp [eqB, and_assoc]
end Pg
end Go.Proofs.YtfghigibjdncbaaGreat.PgM
namespace Go.Proofs.YtfghigibjdncbaaGreat.PgM
set_option maxRecDepth 100000
set_option maxHeartbeats 8000000
open Go.RowKit Go.Shelf
set_option linter.unusedVariables false
attribute [local go_sem] Oper.semAt_some
open Pg

def Keeps (D : Nat → Prop) (W W' : World) : Prop := W.heap.size ≤ W'.heap.size ∧ ∀ b, D b → W'.heap[b]? = W.heap[b]?
theorem Keeps.refl (D : Nat → Prop) (W : World) : Keeps D W W := ⟨Nat.le_refl _, fun _ _ => rfl⟩
theorem Keeps.trans {D : Nat → Prop} {A B C : World} (h : Keeps D A B) (k : Keeps D B C) : Keeps D A C := ⟨Nat.le_trans h.1 k.1, fun b hb => (k.2 b hb).trans (h.2 b hb)⟩
theorem Boxed.next {W W' : World} {B : Nat} {t : TypeId} {v : Value} (h : Boxed W B t v) (k : Below W.heap.size W W') : Boxed W' B t v := (k.block B h.lt).trans h
def mpV (x : Mp) : Array Value := #[.int .i64 x.va, .int .i64 x.n, .int .u64 x.cont, .int .u64 x.seg, .int .i64 x.off, .bool x.wr]
def Mb (W : World) (B : Nat) (x : Mp) : Prop := W.heap[B]? = some (.cells #[.int .i64 x.va, .int .i64 x.n, .int .u64 x.cont, .int .u64 x.seg, .int .i64 x.off, .bool x.wr] 114 (0, 0))
section
variable {W W' : World} {B : Nat} {x : Mp}
theorem Mb.lt (h : Mb W B x) : B < W.heap.size := (Array.getElem?_eq_some_iff.1 h).1
theorem Mb.cells (h : Mb W B x) : W.cell? ⟨B, 0, none⟩ = some (.int .i64 x.va) ∧ W.cell? ⟨B, 1, none⟩ = some (.int .i64 x.n) ∧ W.cell? ⟨B, 2, none⟩ = some (.int .u64 x.cont) ∧ W.cell? ⟨B, 3, none⟩ = some (.int .u64 x.seg) ∧ W.cell? ⟨B, 4, none⟩ = some (.int .i64 x.off) ∧ W.cell? ⟨B, 5, none⟩ = some (.bool x.wr) := by
 simp [World.cell?, show W.heap[B]? = _ from h]
theorem Mb.next (h : Mb W B x) (k : Below W.heap.size W W') : Mb W' B x := (k.block B h.lt).trans h
end
def MpsD (D : Nat → Prop) (w : World) (ao : Option Addr) (n cap : Nat) (l : List Mp) : Prop :=
 l.length = n ∧ n ≤ cap ∧ (cap ≤ 9223372036854775807 ∧ (ao = none → cap = 0)) ∧
 (0 < n → ∃ b off, ao = some ⟨b, off, none⟩ ∧ D b ∧ ∀ i, i < n → ∀ j v, (mpV (mat l i))[j]? = some v → w.cell? ⟨b, off + i * 6 + j, none⟩ = some v)
def Mps (B : Nat) (w : World) (ao : Option Addr) (n cap : Nat) (l : List Mp) : Prop := MpsD (fun b => b < B) w ao n cap l
section
variable {D : Nat → Prop} {w w' : World} {ao : Option Addr} {n cap B B' : Nat} {l : List Mp}
theorem MpsD.laterK (h : MpsD D w ao n cap l) (k : ∀ b, D b → w'.heap[b]? = w.heap[b]?) : MpsD D w' ao n cap l := by
 obtain ⟨h1, h2, h3, h4⟩ := h
 refine ⟨h1, h2, h3, fun hn => ?_⟩
 obtain ⟨b, off, e, hb, hc⟩ := h4 hn
 exact ⟨b, off, e, hb, fun i hi j v hv => (World.cell?_of_block (w := w) (a := ⟨b, off + i * 6 + j, none⟩) (k b hb)).trans (hc i hi j v hv)⟩
theorem Mps.later (h : Mps B w ao n cap l) (k : Below B w w') : Mps B w' ao n cap l := MpsD.laterK h fun b hb => k.block b hb
theorem MpsD.wide {D' : Nat → Prop} (h : MpsD D w ao n cap l) (k : ∀ b, D b → D' b) : MpsD D' w ao n cap l := by
 obtain ⟨h1, h2, h3, h4⟩ := h
 refine ⟨h1, h2, h3, fun hn => ?_⟩
 obtain ⟨b, off, e, hb, hc⟩ := h4 hn
 exact ⟨b, off, e, k b hb, hc⟩
theorem Mps.wide (h : Mps B w ao n cap l) (k : B ≤ B') : Mps B' w ao n cap l := MpsD.wide h fun b hb => Nat.lt_of_lt_of_le hb k
theorem Mps.next (h : Mps w.heap.size w ao n cap l) (k : Below w.heap.size w w') : Mps w'.heap.size w' ao n cap l := (h.later k).wide k.size
theorem Mps.nil (B : Nat) (w : World) : Mps B w none 0 0 [] := ⟨rfl, Nat.le_refl _, ⟨by omega, fun _ => rfl⟩, fun h => absurd h (by omega)⟩
end
namespace Pg
end Pg

namespace Pg
end Pg
end Go.Proofs.YtfghigibjdncbaaGreat.PgM
namespace Go.Proofs.YtfghigibjdncbaaGreat.PgM
set_option maxRecDepth 100000
set_option maxHeartbeats 8000000
open Go.RowKit Go.Shelf
set_option linter.unusedVariables false
attribute [local go_sem] Oper.semAt_some
open Pg

def mpC (l : List Mp) : List Value := l.flatMap fun x => (mpV x).toList
theorem mpC_len (l : List Mp) : (mpC l).length = l.length * 6 := by
 induction l with
 | nil => rfl
 | cons x l ih => show ((mpV x).toList ++ mpC l).length = _; rw [List.length_append, ih]; show 6 + _ = _; simp; omega
theorem mpC_at {l : List Mp} : ∀ {i j : Nat} {v : Value}, i < l.length → (mpV (mat l i))[j]? = some v → (mpC l)[i * 6 + j]? = some v := by
 induction l with
 | nil => intro i j v hi; simp at hi
 | cons x l ih =>
  intro i j v hi hv
  have hs : (mpV x).toList.length = 6 := rfl
  show ((mpV x).toList ++ mpC l)[i * 6 + j]? = some v
  cases i with
  | zero =>
   have hj : j < 6 := (Array.getElem?_eq_some_iff.1 hv).1
   rw [List.getElem?_append_left (by omega)]
   simpa [mat] using hv
  | succ i =>
   rw [List.getElem?_append_right (by omega), hs, show (i + 1) * 6 + j - 6 = i * 6 + j by omega]
   exact ih (by simpa using hi) (by simpa [mat] using hv)
theorem mpC_back {l : List Mp} : ∀ {j : Nat} {v : Value}, (mpC l)[j]? = some v → j / 6 < l.length ∧ (mpV (mat l (j / 6)))[j % 6]? = some v := by
 intro j v h
 have hj : j < l.length * 6 := by rw [← mpC_len]; exact (List.getElem?_eq_some_iff.1 h).1
 have hl : j / 6 < l.length := by omega
 have hm : j % 6 < (mpV (mat l (j / 6))).size := by show _ < 6; omega
 refine ⟨hl, ?_⟩
 have := mpC_at hl (Array.getElem?_eq_getElem hm)
 rw [show j / 6 * 6 + j % 6 = j by omega, h] at this
 rw [Array.getElem?_eq_getElem hm, ← this]
theorem mpC_one (l : List Mp) : ∀ u ∈ mpC l, u.oneCell' = true := by
 intro u hu
 obtain ⟨x, _, hx⟩ := List.mem_flatMap.1 hu
 simp [mpV] at hx
 rcases hx with rfl | rfl | rfl | rfl | rfl | rfl <;> rfl
theorem MpsD.cells {D : Nat → Prop} {w : World} {ad : Addr} {n cap : Nat} {l : List Mp} (h : MpsD D w (some ad) n cap l) : ∀ j u, (mpC l)[j]? = some u → w.cell? (ad.add j) = some u := by
 intro j u hj
 obtain ⟨h1, h2⟩ := mpC_back hj
 obtain ⟨e1, _, _, e4⟩ := h
 obtain ⟨b, off, e, hb, hc⟩ := e4 (by omega)
 cases e
 have := hc (j / 6) (by omega) (j % 6) u h2
 have ea : (⟨b, off, none⟩ : Addr).add j = ⟨b, off + j / 6 * 6 + j % 6, none⟩ := by
  unfold Addr.add
  split
  ·rename_i h0; subst h0; rfl
  ·rw [show off + j / 6 * 6 + j % 6 = off + j by omega]
 rw [ea]
 exact this
theorem grownBy_refl (w : World) (r : Option Nat) : w.grownBy w r := ⟨rfl, rfl, rfl, Nat.le_refl _, fun _ _ _ => rfl⟩
def Pl (w : World) (A B Bp g : Nat) (p : Int) (x : Mp) (W : World) : Prop := W.cell? ⟨B, 0, none⟩ = some (.func (.func g) #[] #[]) ∧ W.cell? ⟨Bp, 0, none⟩ = some (.int .i64 p) ∧ Mb W A x ∧ Below w.heap.size w W
def PlS (w : World) (A B Bp g : Nat) (p va nn cont seg of : Int) (wr : Bool) (W : World) : Prop :=
 W.cell? ⟨A, 0, none⟩ = some (.int .i64 va) ∧ W.cell? ⟨A, 1, none⟩ = some (.int .i64 nn) ∧ W.cell? ⟨A, 2, none⟩ = some (.int .u64 cont) ∧ W.cell? ⟨A, 3, none⟩ = some (.int .u64 seg) ∧ W.cell? ⟨A, 4, none⟩ = some (.int .i64 of) ∧ W.cell? ⟨A, 5, none⟩ = some (.bool wr) ∧
 W.cell? ⟨B, 0, none⟩ = some (.func (.func g) #[] #[]) ∧ W.cell? ⟨Bp, 0, none⟩ = some (.int .i64 p) ∧ Pl w A B Bp g p ⟨va, nn, cont, seg, of, wr⟩ W
section
variable {w X Y : World} {A B Bp g : Nat} {p va nn cont seg of : Int} {wr : Bool}
theorem Pl.mem (h : Pl w A B Bp g p ⟨va, nn, cont, seg, of, wr⟩ X) : PlS w A B Bp g p va nn cont seg of wr X := by
 obtain ⟨c0, c1, c2, c3, c4, c5⟩ := h.2.2.1.cells
 exact ⟨c0, c1, c2, c3, c4, c5, h.1, h.2.1, h⟩
theorem PlS.pl (h : PlS w A B Bp g p va nn cont seg of wr X) : Pl w A B Bp g p ⟨va, nn, cont, seg, of, wr⟩ X := h.2.2.2.2.2.2.2.2
theorem Pl.next {x : Mp} (h : Pl w A B Bp g p x X) (hb : Below X.heap.size X Y) : Pl w A B Bp g p x Y :=
 ⟨(hb.cell (World.block_lt_of_cell? _ _ h.1)).trans h.1, (hb.cell (World.block_lt_of_cell? _ _ h.2.1)).trans h.2.1, h.2.2.1.next hb, h.2.2.2.trans (hb.mono h.2.2.2.size)⟩
theorem PlS.next (h : PlS w A B Bp g p va nn cont seg of wr X) (hb : Below X.heap.size X Y) : PlS w A B Bp g p va nn cont seg of wr Y := (h.pl.next hb).mem
end
end Go.Proofs.YtfghigibjdncbaaGreat.PgM
namespace Go.Proofs.YtfghigibjdncbaaGreat.PgM
set_option maxRecDepth 100000
set_option maxHeartbeats 8000000
open Go.RowKit Go.Shelf
set_option linter.unusedVariables false
attribute [local go_sem] Oper.semAt_some
open Pg

def Pu (w2 : World) (b o A : Nat) (v0 v1 v2 v3 v4 : Int) (v5 : Bool) (u0 u1 u2 u3 u4 : Int) (u5 : Bool) (W : World) : Prop :=
 W.cell? ⟨b, o, none⟩ = some (.int .i64 v0) ∧ W.cell? ⟨b, o + 1, none⟩ = some (.int .i64 v1) ∧ W.cell? ⟨b, o + 2, none⟩ = some (.int .u64 v2) ∧ W.cell? ⟨b, o + 3, none⟩ = some (.int .u64 v3) ∧ W.cell? ⟨b, o + 4, none⟩ = some (.int .i64 v4) ∧ W.cell? ⟨b, o + 5, none⟩ = some (.bool v5) ∧
 W.cell? ⟨A, 0, none⟩ = some (.int .i64 u0) ∧ W.cell? ⟨A, 1, none⟩ = some (.int .i64 u1) ∧ W.cell? ⟨A, 2, none⟩ = some (.int .u64 u2) ∧ W.cell? ⟨A, 3, none⟩ = some (.int .u64 u3) ∧ W.cell? ⟨A, 4, none⟩ = some (.int .i64 u4) ∧ W.cell? ⟨A, 5, none⟩ = some (.bool u5) ∧ Below w2.heap.size w2 W
theorem Pu.next {w2 X Y : World} {b o A : Nat} {v0 v1 v2 v3 v4 : Int} {v5 : Bool} {u0 u1 u2 u3 u4 : Int} {u5 : Bool} (h : Pu w2 b o A v0 v1 v2 v3 v4 v5 u0 u1 u2 u3 u4 u5 X) (hb : Below X.heap.size X Y) : Pu w2 b o A v0 v1 v2 v3 v4 v5 u0 u1 u2 u3 u4 u5 Y := by
 have f : ∀ {a : Addr} {v : Value}, X.cell? a = some v → Y.cell? a = some v := fun h => (hb.cell (World.block_lt_of_cell? _ _ h)).trans h
 obtain ⟨a0, a1, a2, a3, a4, a5, b0, b1, b2, b3, b4, b5, hB⟩ := h
 exact ⟨f a0, f a1, f a2, f a3, f a4, f a5, f b0, f b1, f b2, f b3, f b4, f b5, hB.trans (hb.mono hB.size)⟩
def Pw (w2 : World) (A : Nat) (u0 u1 u2 u3 u4 : Int) (u5 : Bool) (W : World) : Prop :=
 W.cell? ⟨A, 0, none⟩ = some (.int .i64 u0) ∧ W.cell? ⟨A, 1, none⟩ = some (.int .i64 u1) ∧ W.cell? ⟨A, 2, none⟩ = some (.int .u64 u2) ∧ W.cell? ⟨A, 3, none⟩ = some (.int .u64 u3) ∧ W.cell? ⟨A, 4, none⟩ = some (.int .i64 u4) ∧ W.cell? ⟨A, 5, none⟩ = some (.bool u5) ∧ Below w2.heap.size w2 W
theorem Pw.next {w2 X Y : World} {A : Nat} {u0 u1 u2 u3 u4 : Int} {u5 : Bool} (h : Pw w2 A u0 u1 u2 u3 u4 u5 X) (hA : A < w2.heap.size) (hb : Below w2.heap.size X Y) : Pw w2 A u0 u1 u2 u3 u4 u5 Y := by
 have f : ∀ {j : Nat} {v : Value}, X.cell? ⟨A, j, none⟩ = some v → Y.cell? ⟨A, j, none⟩ = some v := fun h => (hb.cell (p := ⟨A, _, none⟩) hA).trans h
 obtain ⟨b0, b1, b2, b3, b4, b5, hB⟩ := h
 exact ⟨f b0, f b1, f b2, f b3, f b4, f b5, hB.trans hb⟩
end Go.Proofs.YtfghigibjdncbaaGreat.PgM
namespace Go.Proofs.YtfghigibjdncbaaGreat.PgM
set_option maxRecDepth 100000
set_option maxHeartbeats 8000000
open Go.RowKit Go.Shelf
set_option linter.unusedVariables false
attribute [local go_sem] Oper.semAt_some
open Pg

theorem below_drewN {B : Nat} {w W : World} (h : Below B w W) (m : Nat) : Below B w (W.drewN m) := h.trans ⟨rfl, rfl, rfl, Nat.le_refl _, fun _ _ => rfl⟩
theorem region_out {P : Program} {ops : Array Oper} {Q : Exit → Act → World → Prop} {S : World → Prop} {id : Nat} {a : Act} {w : World} (hm : P.follows .mixedOrders = true)
  (hS : S w.drew) (h : S w.drew → wpAnyH P .any ops Q S ops.size (Array.replicate ops.size false) a w.drew) : (Code.region id ops true).wp P Q a w :=
 wp_region_any hm (wpAny_of_held _ _ _ _ (h hS))
def It (W : World) (b o : Nat) (v0 v1 v2 v3 v4 : Int) (v5 : Bool) : Prop := W.cell? ⟨b, o, none⟩ = some (.int .i64 v0) ∧ W.cell? ⟨b, o + 1, none⟩ = some (.int .i64 v1) ∧ W.cell? ⟨b, o + 2, none⟩ = some (.int .u64 v2) ∧ W.cell? ⟨b, o + 3, none⟩ = some (.int .u64 v3) ∧ W.cell? ⟨b, o + 4, none⟩ = some (.int .i64 v4) ∧ W.cell? ⟨b, o + 5, none⟩ = some (.bool v5)
theorem It.next {X Y : World} {b o : Nat} {v0 v1 v2 v3 v4 : Int} {v5 : Bool} (h : It X b o v0 v1 v2 v3 v4 v5) (hb : Below X.heap.size X Y) : It Y b o v0 v1 v2 v3 v4 v5 := by
 have f : ∀ {a : Addr} {v : Value}, X.cell? a = some v → Y.cell? a = some v := fun h => (hb.cell (World.block_lt_of_cell? _ _ h)).trans h
 obtain ⟨a0, a1, a2, a3, a4, a5⟩ := h
 exact ⟨f a0, f a1, f a2, f a3, f a4, f a5⟩
def Pq (w2 : World) (b o o' : Nat) (v0 v1 u0 u1 u2 u3 u4 : Int) (u5 : Bool) (W : World) : Prop :=
 W.cell? ⟨b, o, none⟩ = some (.int .i64 v0) ∧ W.cell? ⟨b, o + 1, none⟩ = some (.int .i64 v1) ∧ W.cell? ⟨b, o', none⟩ = some (.int .i64 u0) ∧ W.cell? ⟨b, o' + 1, none⟩ = some (.int .i64 u1) ∧ W.cell? ⟨b, o' + 2, none⟩ = some (.int .u64 u2) ∧ W.cell? ⟨b, o' + 3, none⟩ = some (.int .u64 u3) ∧ W.cell? ⟨b, o' + 4, none⟩ = some (.int .i64 u4) ∧ W.cell? ⟨b, o' + 5, none⟩ = some (.bool u5) ∧ Below w2.heap.size w2 W
theorem Pq.next {w2 X Y : World} {b o o' : Nat} {v0 v1 u0 u1 u2 u3 u4 : Int} {u5 : Bool} (h : Pq w2 b o o' v0 v1 u0 u1 u2 u3 u4 u5 X) (hb : Below X.heap.size X Y) : Pq w2 b o o' v0 v1 u0 u1 u2 u3 u4 u5 Y := by
 have f : ∀ {a : Addr} {v : Value}, X.cell? a = some v → Y.cell? a = some v := fun h => (hb.cell (World.block_lt_of_cell? _ _ h)).trans h
 obtain ⟨a0, a1, b0, b1, b2, b3, b4, b5, hB⟩ := h
 exact ⟨f a0, f a1, f b0, f b1, f b2, f b3, f b4, f b5, hB.trans (hb.mono hB.size)⟩
end Go.Proofs.YtfghigibjdncbaaGreat.PgM
