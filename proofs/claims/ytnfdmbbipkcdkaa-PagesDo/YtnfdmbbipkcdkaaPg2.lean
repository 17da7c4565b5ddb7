/-
  PROVED HERE: memory's words for maps of pages, and what package pages' functions without a loop return when they are called (contracts over this translation). No condition but the maps' fitness where it is written.
-/
import Derived.RangeFuncNested
import Derived.RangeFuncBound
import Derived.RangeFuncBox
import Derived.Shelf.Abstract
import Derived.Shelf.RegionOpen
import Derived.WalkKit
import Derived.Below
import Derived.OwnWalk
import Derived.WalkSmall
import Derived.Laws.EntriesVeiled
import Derived.Deep.QuietTactic
import Derived.Test.YtnfdmbbipkcdkaaRows
import Derived.Test.YtnfdmbbipkcdkaaPg1
namespace Go.Proofs.Ytnfdmbbipkcdkaa
open Go.RowKit Go.Shelf
set_option linter.unusedVariables false
attribute [local go_sem] Oper.semAt_some
open Pg

/-- The blocks of which D holds lie as they lay; no block has gone. -/
def Keeps (D : Nat → Prop) (W W' : World) : Prop := W.heap.size ≤ W'.heap.size ∧ ∀ b, D b → W'.heap[b]? = W.heap[b]?
theorem Keeps.refl (D : Nat → Prop) (W : World) : Keeps D W W := ⟨Nat.le_refl _, fun _ _ => rfl⟩
theorem Keeps.trans {D : Nat → Prop} {A B C : World} (h : Keeps D A B) (k : Keeps D B C) : Keeps D A C := ⟨Nat.le_trans h.1 k.1, fun b hb => (k.2 b hb).trans (h.2 b hb)⟩
theorem Keeps.of_below {D : Nat → Prop} {W W' : World} (hD : ∀ b, D b → b < W.heap.size) (h : Below W.heap.size W W') : Keeps D W W' := ⟨h.size, fun b hb => h.block b (hD b hb)⟩
theorem cellK {D : Nat → Prop} {w w' : World} (k : Keeps D w w') {b off : Nat} (hb : D b) : w'.cell? ⟨b, off, none⟩ = w.cell? ⟨b, off, none⟩ := World.cell?_of_block (w := w) (a := ⟨b, off, none⟩) (k.2 b hb)
theorem Boxed.next {W W' : World} {B : Nat} {t : TypeId} {v : Value} (h : Boxed W B t v) (k : Below W.heap.size W W') : Boxed W' B t v := (k.block B h.lt).trans h
theorem cellLater {w : World} {a : Addr} {v : Value} (h : w.cell? a = some v) (o : Obj) : (w.alloc o).cell? a = some v := by
  by_cases hb : a.block < w.heap.size
  · exact (((Below.refl w.heap.size w).alloc (Nat.le_refl _) o).cell hb).trans h
  · exfalso
    have hn : w.heap[a.block]? = none := by simp; omega
    simp [World.cell?, hn] at h
theorem cell_set_ne {W : World} {b i g j : Nat} {u : Value} (hne : b ≠ g) : (W.setCell ⟨g, j, none⟩ u).cell? ⟨b, i, none⟩ = W.cell? ⟨b, i, none⟩ := World.cell?_of_block (w := W) (a := ⟨b, i, none⟩) (Below.heap_setCell _ _ _ _ hne)
/-- A map's cells. -/
def mpV (x : Mp) : Array Value := #[.int .i64 x.va, .int .i64 x.n, .int .u64 x.cont, .int .u64 x.seg, .int .i64 x.off, .bool x.wr]
/-- A map in a block. -/
def Mb (W : World) (B : Nat) (x : Mp) : Prop := W.heap[B]? = some (.cells #[.int .i64 x.va, .int .i64 x.n, .int .u64 x.cont, .int .u64 x.seg, .int .i64 x.off, .bool x.wr] 25 (0, 0))
section
variable {W W' : World} {B : Nat} {x : Mp}
theorem Mb.lt (h : Mb W B x) : B < W.heap.size := (Array.getElem?_eq_some_iff.1 h).1
theorem Mb.cells (h : Mb W B x) : W.cell? ⟨B, 0, none⟩ = some (.int .i64 x.va) ∧ W.cell? ⟨B, 1, none⟩ = some (.int .i64 x.n) ∧ W.cell? ⟨B, 2, none⟩ = some (.int .u64 x.cont) ∧ W.cell? ⟨B, 3, none⟩ = some (.int .u64 x.seg) ∧ W.cell? ⟨B, 4, none⟩ = some (.int .i64 x.off) ∧ W.cell? ⟨B, 5, none⟩ = some (.bool x.wr) := by
  simp [World.cell?, show W.heap[B]? = _ from h]
theorem Mb.new (W : World) (x : Mp) : Mb (W.alloc (.cells #[.int .i64 x.va, .int .i64 x.n, .int .u64 x.cont, .int .u64 x.seg, .int .i64 x.off, .bool x.wr] 25)) W.heap.size x := World.alloc_heap_new W _
theorem Mb.frozen (h : Mb W B x) (j : Nat) : W.frozen? ⟨B, j, none⟩ = false := by simp [World.frozen?, show W.heap[B]? = _ from h]
theorem Mb.other {g j : Nat} {v : Value} (h : Mb W B x) (hne : B ≠ g) : Mb (W.setCell ⟨g, j, none⟩ v) B x := (Below.heap_setCell _ _ _ _ hne).trans h
theorem Mb.next (h : Mb W B x) (k : Below W.heap.size W W') : Mb W' B x := (k.block B h.lt).trans h
theorem Mb.alloc (h : Mb W B x) (o : Obj) : Mb (W.alloc o) B x := h.next ((Below.refl _ W).alloc (Nat.le_refl _) o)
end
/-- A map written into a block. -/
def set6 (W : World) (B : Nat) (x : Mp) : World := (((((W.setCell ⟨B, 0, none⟩ (.int .i64 x.va)).setCell ⟨B, 1, none⟩ (.int .i64 x.n)).setCell ⟨B, 2, none⟩ (.int .u64 x.cont)).setCell ⟨B, 3, none⟩ (.int .u64 x.seg)).setCell ⟨B, 4, none⟩ (.int .i64 x.off)).setCell ⟨B, 5, none⟩ (.bool x.wr)
section
variable {W : World} {B g : Nat} {x y : Mp}
theorem Mb.set6 (h : Mb W B x) : Mb (set6 W B y) B y := by
  unfold Go.Proofs.Ytnfdmbbipkcdkaa.set6
  have h0 := (heap_setCell_same W B 0 _ 25 (.int .i64 y.va) h).trans (by simp; rfl)
  have h1 := (heap_setCell_same _ B 1 _ 25 (.int .i64 y.n) h0).trans (by simp; rfl)
  have h2 := (heap_setCell_same _ B 2 _ 25 (.int .u64 y.cont) h1).trans (by simp; rfl)
  have h3 := (heap_setCell_same _ B 3 _ 25 (.int .u64 y.seg) h2).trans (by simp; rfl)
  have h4 := (heap_setCell_same _ B 4 _ 25 (.int .i64 y.off) h3).trans (by simp; rfl)
  exact (heap_setCell_same _ B 5 _ 25 (.bool y.wr) h4).trans (by simp)
theorem Mb.other6 (h : Mb W B x) (hne : B ≠ g) : Mb (Go.Proofs.Ytnfdmbbipkcdkaa.set6 W g y) B x := (((((h.other hne).other hne).other hne).other hne).other hne).other hne
theorem below_set6 {A : Nat} {w : World} (h : Below A w W) (hg : A ≤ g) : Below A w (Go.Proofs.Ytnfdmbbipkcdkaa.set6 W g y) := (((((h.setCell (p := ⟨g, 0, none⟩) hg _).setCell (p := ⟨g, 1, none⟩) hg _).setCell (p := ⟨g, 2, none⟩) hg _).setCell (p := ⟨g, 3, none⟩) hg _).setCell (p := ⟨g, 4, none⟩) hg _).setCell (p := ⟨g, 5, none⟩) hg _
end
/-- The slice of n maps at ao holds l in w, in a block of which D holds. -/
def MpsD (D : Nat → Prop) (w : World) (ao : Option Addr) (n cap : Nat) (l : List Mp) : Prop :=
  l.length = n ∧ n ≤ cap ∧ (cap ≤ 9223372036854775807 ∧ (ao = none → cap = 0)) ∧
  (0 < n → ∃ b off, ao = some ⟨b, off, none⟩ ∧ D b ∧ ∀ i, i < n → ∀ j v, (mpV (mat l i))[j]? = some v → w.cell? ⟨b, off + i * 6 + j, none⟩ = some v)
def Mps (B : Nat) (w : World) (ao : Option Addr) (n cap : Nat) (l : List Mp) : Prop := MpsD (fun b => b < B) w ao n cap l
section
variable {D : Nat → Prop} {w w' : World} {ao : Option Addr} {n cap B B' : Nat} {l : List Mp}
theorem MpsD.laterK (h : MpsD D w ao n cap l) (k : ∀ b, D b → w'.heap[b]? = w.heap[b]?) : MpsD D w' ao n cap l := by
  obtain ⟨h1, h2, h3, h4⟩ := h
  refine ⟨h1, h2, h3, fun hn => ?_⟩
  obtain ⟨b, off, e, hb, hc⟩ := h4 hn
  exact ⟨b, off, e, hb, fun i hi j v hv => (World.cell?_of_block (w := w) (a := ⟨b, off + i * 6 + j, none⟩) (k b hb)).trans (hc i hi j v hv)⟩
theorem Mps.later (h : Mps B w ao n cap l) (k : Below B w w') : Mps B w' ao n cap l := MpsD.laterK h fun b hb => k.block b hb
theorem MpsD.wide {D' : Nat → Prop} (h : MpsD D w ao n cap l) (k : ∀ b, D b → D' b) : MpsD D' w ao n cap l := by
  obtain ⟨h1, h2, h3, h4⟩ := h
  refine ⟨h1, h2, h3, fun hn => ?_⟩
  obtain ⟨b, off, e, hb, hc⟩ := h4 hn
  exact ⟨b, off, e, k b hb, hc⟩
theorem Mps.wide (h : Mps B w ao n cap l) (k : B ≤ B') : Mps B' w ao n cap l := MpsD.wide h fun b hb => Nat.lt_of_lt_of_le hb k
theorem Mps.next (h : Mps w.heap.size w ao n cap l) (k : Below w.heap.size w w') : Mps w'.heap.size w' ao n cap l := (h.later k).wide k.size
theorem Mps.nil (B : Nat) (w : World) : Mps B w none 0 0 [] := ⟨rfl, Nat.le_refl _, ⟨by omega, fun _ => rfl⟩, fun h => absurd h (by omega)⟩
theorem Mps.len (h : Mps B w ao n cap l) : l.length = n := h.1
/-- The k-th map's cells. -/
theorem MpsD.at (h : MpsD D w ao n cap l) {i : Nat} (hi : i < n) : ∃ (b off : Nat) (va nn cont seg of : Int) (wr : Bool), ao = some ⟨b, off, none⟩ ∧ D b ∧ Hid (mat l i = ⟨va, nn, cont, seg, of, wr⟩) ∧
    w.cell? ⟨b, off + i * 6, none⟩ = some (.int .i64 va) ∧ w.cell? ⟨b, off + i * 6 + 1, none⟩ = some (.int .i64 nn) ∧ w.cell? ⟨b, off + i * 6 + 2, none⟩ = some (.int .u64 cont) ∧ w.cell? ⟨b, off + i * 6 + 3, none⟩ = some (.int .u64 seg) ∧ w.cell? ⟨b, off + i * 6 + 4, none⟩ = some (.int .i64 of) ∧ w.cell? ⟨b, off + i * 6 + 5, none⟩ = some (.bool wr) := by
  obtain ⟨h1, h2, h3, h4⟩ := h
  obtain ⟨b, off, e, hb, hc⟩ := h4 (by omega)
  obtain ⟨x, hx⟩ : ∃ x, mat l i = x := ⟨_, rfl⟩
  obtain ⟨va, nn, cont, seg, of, wr⟩ := x
  have hc' := hc i hi
  rw [hx] at hc'
  exact ⟨b, off, va, nn, cont, seg, of, wr, e, hb, hx, hc' 0 _ rfl, hc' 1 _ rfl, hc' 2 _ rfl, hc' 3 _ rfl, hc' 4 _ rfl, hc' 5 _ rfl⟩
end
namespace Pg
def ivB (f n : Int) : Bool := decide (0 ≤ f) && (decide (1 ≤ n) && decide (f + n ≤ 1048576))
theorem one_iv (x : Mp) : oneB x = (ivB x.va x.n && ivB x.off x.n) := by
  unfold oneB ivB
  rw [Bool.eq_iff_iff]
  simp
  omega
end Pg

section
variable (va nn cont seg of : Int) (wr : Bool) (w : World)
theorem below_two (w : World) (o o' : Obj) : Below w.heap.size w ((w.alloc o).alloc o') := ((Below.refl _ w).alloc (Nat.le_refl _) o).alloc (by simp) o'
theorem stands_any : Calls Try.prog 20 #[.agg #[.int .i64 va, .int .i64 nn, .int .u64 cont, .int .u64 seg, .int .i64 of, .bool wr]] w fun e w' => e = .returned (.agg #[.int .i64 va, .int .i64 nn]) ∧ Below w.heap.size w w' := by
  go_enter Try.func20, Try.ntmps20
  go_wp2
  refine bodyPost_ret (v := .agg #[.int .i64 va, .int .i64 nn]) (by simp [results, Try.f20, go_sem]) rfl ?_
  exact ⟨rfl, below_two w _ _⟩
theorem shows_any : Calls Try.prog 29 #[.agg #[.int .i64 va, .int .i64 nn, .int .u64 cont, .int .u64 seg, .int .i64 of, .bool wr]] w fun e w' => e = .returned (.agg #[.int .i64 of, .int .i64 nn]) ∧ Below w.heap.size w w' := by
  go_enter Try.func29, Try.ntmps29
  go_wp2
  refine bodyPost_ret (v := .agg #[.int .i64 of, .int .i64 nn]) (by simp [results, Try.f29, go_sem]) rfl ?_
  exact ⟨rfl, below_two w _ _⟩
end
theorem fit0_any (f n : Int) (w : World) : Calls Try.prog 28 #[.agg #[.int .i64 f, .int .i64 n]] w fun e w' => e = .returned (.bool (ivB f n)) ∧ Below w.heap.size w w' := by
  have hr : Hid (ivB f n = (decide (0 ≤ f) && (decide (1 ≤ n) && decide (f + n ≤ 1048576)))) := rfl
  go_enter Try.func28, Try.ntmps28
  go_wp2
  all_goals (go_ret; refine ⟨?_, (Below.refl _ w).alloc (Nat.le_refl _) _⟩; rw [hr.out])
  · rename_i h1 h2 h3; refine congrArg (fun z => Ending.returned (.bool z)) (?_ : decide (f ≤ 1048576 - n) = _); rw [decide_eq_true h1, decide_eq_true h2]; simp only [Bool.true_and]; rw [decide_eq_decide]; omega
  · rename_i h1 h2 h3; rw [decide_eq_false (p := f + n ≤ 1048576) (by omega)]; simp
  · rename_i h1 h2; rw [decide_eq_false (p := 1 ≤ n) (by omega)]; simp
  · rename_i h1; rw [decide_eq_false (p := 0 ≤ f) (by omega)]; rfl
theorem end_any (f n : Int) (h0 : 0 ≤ f) (h1 : 0 ≤ n) (h2 : f + n ≤ 1048576) (w : World) : Calls Try.prog 27 #[.agg #[.int .i64 f, .int .i64 n]] w fun e w' => e = .returned (.int .i64 (f + n)) ∧ Below w.heap.size w w' := by
  go_enter Try.func27, Try.ntmps27
  go_wp2
  go_ret
  exact ⟨rfl, (Below.refl _ w).alloc (Nat.le_refl _) _⟩
theorem begins_any (f n p : Int) (w : World) : Calls Try.prog 26 #[.agg #[.int .i64 f, .int .i64 n], .int .i64 p] w fun e w' => e = .returned (.bool (decide (f < p))) ∧ Below w.heap.size w w' := by
  go_enter Try.func26, Try.ntmps26
  go_wp2
  go_ret
  exact ⟨rfl, (Below.refl _ w).alloc (Nat.le_refl _) _⟩
theorem ends_any (f n p : Int) (h0 : 0 ≤ f) (h1 : 0 ≤ n) (h2 : f + n ≤ 1048576) (w : World) : Calls Try.prog 21 #[.agg #[.int .i64 f, .int .i64 n], .int .i64 p] w fun e w' => e = .returned (.bool (decide (f + n ≤ p))) ∧ Below w.heap.size w w' := by
  have hB := (Below.refl w.heap.size w).alloc (Nat.le_refl _) (.cells #[.int .i64 f, .int .i64 n] 45)
  go_enter Try.func21, Try.ntmps21
  go_wp2_with (go_at_call 27; refine (end_any f n h0 h1 h2 _).mono ?_; rintro e w1 ⟨rfl, hb1⟩)
  go_ret
  exact ⟨rfl, hB.trans (hb1.mono hB.size)⟩
section
variable (va nn cont seg of : Int) (wr : Bool) (w : World)
theorem isFit_any : Calls Try.prog 19 #[.agg #[.int .i64 va, .int .i64 nn, .int .u64 cont, .int .u64 seg, .int .i64 of, .bool wr]] w fun e w' => e = .returned (.bool (oneB ⟨va, nn, cont, seg, of, wr⟩)) ∧ Below w.heap.size w w' := by
  have hr : Hid (oneB ⟨va, nn, cont, seg, of, wr⟩ = (ivB va nn && ivB of nn)) := one_iv _
  have hM := Mb.new w ⟨va, nn, cont, seg, of, wr⟩
  have hB := (Below.refl w.heap.size w).alloc (Nat.le_refl _) (.cells #[.int .i64 va, .int .i64 nn, .int .u64 cont, .int .u64 seg, .int .i64 of, .bool wr] 25)
  have hf := fun w => fit0_any va nn w
  have hf' := fun w => fit0_any of nn w
  cases h : ivB va nn with
  | false =>
    rw [h] at hf
    go_enter Try.func19, Try.ntmps19
    go_wp2_with (first | (go_at_call 20; refine (stands_any _ _ _ _ _ _ _).mono ?_; rintro e w1 ⟨rfl, hb1⟩) | (go_at_call 28; refine (hf _).mono ?_; rintro e w2 ⟨rfl, hb2⟩))
    go_ret
    exact ⟨by rw [hr.out, h]; rfl, (hB.trans (hb1.mono hB.size)).trans (hb2.mono (Nat.le_trans hB.size hb1.size))⟩
  | true =>
    rw [h] at hf
    go_enter Try.func19, Try.ntmps19
    go_wp2_with (first | (go_at_call 20; refine (stands_any _ _ _ _ _ _ _).mono ?_; rintro e w1 ⟨rfl, hb1⟩) | (go_at_call 28; (with_reducible refine (hf _).mono ?_); rintro e w2 ⟨rfl, hb2⟩; obtain ⟨q0, q1, q2, q3, q4, q5⟩ := ((hM.next hb1).next hb2).cells) | (go_at_call 29; refine (shows_any _ _ _ _ _ _ _).mono ?_; rintro e w3 ⟨rfl, hb3⟩) | (go_at_call 28; (with_reducible refine (hf' _).mono ?_); rintro e w4 ⟨rfl, hb4⟩))
    go_ret
    have b1 := hB.trans (hb1.mono hB.size)
    have b2 := b1.trans (hb2.mono b1.size)
    have b3 := b2.trans (hb3.mono b2.size)
    exact ⟨congrArg (fun z => Ending.returned (.bool z)) (show ivB of nn = _ by rw [hr.out, h, Bool.true_and]), b3.trans (hb4.mono b3.size)⟩
theorem rone_any : Calls Try.prog 22 #[.agg #[.int .i64 va, .int .i64 nn, .int .u64 cont, .int .u64 seg, .int .i64 of, .bool wr]] w fun e w' => e = .returned (.bool (oneB ⟨va, nn, cont, seg, of, wr⟩)) ∧ Below w.heap.size w w' := by
  have hr : Hid (oneB ⟨va, nn, cont, seg, of, wr⟩ = decide (0 ≤ va ∧ 1 ≤ nn ∧ 0 ≤ of ∧ va + nn ≤ 1048576 ∧ of + nn ≤ 1048576)) := rfl
  go_enter Try.func22, Try.ntmps22
  go_wp2
  all_goals (go_ret; refine ⟨?_, (Below.refl _ w).alloc (Nat.le_refl _) _⟩; rw [hr.out]; first | (rw [decide_eq_false (by omega)]; rfl) | (refine congrArg (fun z => Ending.returned (.bool z)) (?_ : decide (nn ≤ 1048576 - of) = _); rw [decide_eq_decide]; omega))
end
namespace Pg
/-- The page of an address, the word in it, and whether there is one. -/
def spP (a : Int) : Int := if a / 16 < 1048576 then a / 16 else 0
def spW (a : Int) : Int := if a / 16 < 1048576 then a % 16 else 0
def spB (a : Int) : Bool := decide (a / 16 < 1048576)
end Pg
theorem split_any (a : Int) (h0 : 0 ≤ a) (h1 : a ≤ 18446744073709551615) (w : World) : Calls Try.prog 7 #[.int .u64 a] w fun e w' => e = .returned (.tuple #[.int .i64 (spP a), .int .i64 (spW a), .bool (spB a)]) ∧ w' = w := by
  by_cases h : a / 16 < 1048576
  · have r1 : Hid (spP a = a / 16) := by show _ = _; unfold spP; rw [if_pos h]
    have r2 : Hid (spW a = a % 16) := by show _ = _; unfold spW; rw [if_pos h]
    have r3 : Hid (spB a = true) := by show _ = _; unfold spB; rw [decide_eq_true h]
    rw [r1.out, r2.out, r3.out]
    go_enter Try.func7, Try.ntmps7
    go_wp2
    go_ret3
    exact ⟨rfl, rfl⟩
  · have r1 : Hid (spP a = 0) := by show _ = _; unfold spP; rw [if_neg h]
    have r2 : Hid (spW a = 0) := by show _ = _; unfold spW; rw [if_neg h]
    have r3 : Hid (spB a = false) := by show _ = _; unfold spB; rw [decide_eq_false h]
    rw [r1.out, r2.out, r3.out]
    go_enter Try.func7, Try.ntmps7
    go_wp2
    go_ret3
    exact ⟨rfl, rfl⟩
theorem rsplit_any (a : Int) (h0 : 0 ≤ a) (h1 : a ≤ 18446744073709551615) (w : World) : Calls Try.prog 8 #[.int .u64 a] w fun e w' => e = .returned (.tuple #[.int .i64 (spP a), .int .i64 (spW a), .bool (spB a)]) ∧ w' = w := by
  by_cases h : a / 16 < 1048576
  · have r1 : Hid (spP a = a / 16) := by show _ = _; unfold spP; rw [if_pos h]
    have r2 : Hid (spW a = a % 16) := by show _ = _; unfold spW; rw [if_pos h]
    have r3 : Hid (spB a = true) := by show _ = _; unfold spB; rw [decide_eq_true h]
    rw [r1.out, r2.out, r3.out]
    go_enter Try.func8, Try.ntmps8
    go_wp2
    go_ret3
    exact ⟨rfl, rfl⟩
  · have r1 : Hid (spP a = 0) := by show _ = _; unfold spP; rw [if_neg h]
    have r2 : Hid (spW a = 0) := by show _ = _; unfold spW; rw [if_neg h]
    have r3 : Hid (spB a = false) := by show _ = _; unfold spB; rw [decide_eq_false h]
    rw [r1.out, r2.out, r3.out]
    go_enter Try.func8, Try.ntmps8
    go_wp2
    go_ret3
    exact ⟨rfl, rfl⟩
end Go.Proofs.Ytnfdmbbipkcdkaa
