/-
 PROVED HERE: plain facts on the maps of an address space as lists of six fields each (no Go text); memory's words for maps . What is asked stands at each.
-/
import Derived.WalkKit
import Derived.RangeFuncNested
import Derived.RangeFuncBound
import Derived.RangeFuncBox
import Derived.Shelf.Abstract
import Derived.Shelf.RegionOpen
import Derived.Below
import Derived.OwnWalk
import Derived.WalkSmall
import Derived.Laws.EntriesVeiled
import Derived.Deep.QuietTactic
import Derived.Test.YtloghnpfplljgaaGreatRows
import Derived.Laws.AppendOwn
import Derived.Laws.OwnMore
import Derived.Laws.AppendOwnNone
import Derived.Maps.AppendAt
import Derived.Deep.RegionHeld3
import Derived.Deep.RegionWith
namespace Go.Proofs.YtloghnpfplljgaaGreat
set_option maxRecDepth 100000
set_option maxHeartbeats 8000000
set_option linter.unusedVariables false
open Go.Proofs.Tryz
section
theorem btp {w W W' : World} (h : Go.RowKit.Below w.heap.size w W) (k : Go.RowKit.Below W.heap.size W W') : Go.RowKit.Below w.heap.size w W' := h.trans (k.mono h.size)
theorem ltp {a b c : Nat} (h : a < b) (k : b ≤ c) : a < c := Nat.lt_of_lt_of_le h k
theorem lrp (a : Nat) : a ≤ a := Nat.le_refl a
theorem brp (B : Nat) (w : World) : Go.RowKit.Below B w w := Go.RowKit.Below.refl B w
abbrev tp : Bool := true
abbrev fp : Bool := false
end
namespace PgM
namespace Pg
structure Mp where
 va : Int
 n : Int
 cont : Int
 seg : Int
 off : Int
 wr : Bool
instance : Inhabited Mp := ⟨⟨0, 0, 0, 0, 0, false⟩⟩
def I64 (x : Int) : Prop := -9223372036854775808 ≤ x ∧ x ≤ 9223372036854775807
def Mp.ok (m : Mp) : Prop := I64 m.va ∧ I64 m.n ∧ I64 m.off
def oneB (m : Mp) : Bool := decide (0 ≤ m.va ∧ 1 ≤ m.n ∧ 0 ≤ m.off ∧ m.va + m.n ≤ 1048576 ∧ m.off + m.n ≤ 1048576)
theorem y6z {m : Mp} : oneB m = true ↔ 0 ≤ m.va ∧ 1 ≤ m.n ∧ 0 ≤ m.off ∧ m.va + m.n ≤ 1048576 ∧ m.off + m.n ≤ 1048576 := by unfold oneB; rw [decide_eq_true_iff]
def mat (L : List Mp) (i : Nat) : Mp := L.getD i default
def okAt (L : List Mp) (i : Nat) : Bool := oneB (mat L i) && (decide (i = 0) || decide ((mat L (i - 1)).va + (mat L (i - 1)).n ≤ (mat L i).va))
def fitB (L : List Mp) : Bool := decide (L.length ≤ 16) && (List.range L.length).all (okAt L)
def Fit (L : List Mp) : Prop := L.length ≤ 16 ∧ (∀ x ∈ L, oneB x = true) ∧ L.Pairwise (fun x y => x.va + x.n ≤ y.va)
section
variable {L M : List Mp} {i j k : Nat} {m x : Mp} {P : Mp → Bool} {p v : Int}
theorem mat_get (h : i < L.length) : mat L i = L[i] := by unfold mat; rw [List.getD_eq_getElem?_getD, List.getElem?_eq_getElem h]; rfl
theorem vSz (h : 16 < L.length) : fitB L = false := by unfold fitB; rw [decide_eq_false (by omega)]; rfl
theorem fitB_no (h : k < L.length) (e : okAt L k = false) : fitB L = false := by
 unfold fitB
 rw [Bool.and_eq_false_iff]
 right
 rw [List.all_eq_false]
 exact ⟨k, List.mem_range.2 h, by simp [e]⟩
theorem fitB_yes (hl : L.length ≤ 16) (h : ∀ k, k < L.length → okAt L k = true) : fitB L = true := by
 unfold fitB
 rw [decide_eq_true hl, Bool.true_and, List.all_eq_true]
 exact fun k hk => h k (List.mem_range.1 hk)
theorem Fit.nil : Fit [] := ⟨by simp, fun x (hx : x ∈ []) => (by cases hx), List.Pairwise.nil⟩
def ps (P : Mp → Bool) (L : List Mp) : Nat := (L.takeWhile P).length
end
def eqB (x y : Mp) : Bool := x.va == y.va && x.n == y.n && x.cont == y.cont && x.seg == y.seg && x.off == y.off && x.wr == y.wr
theorem eqB_iff {x y : Mp} : eqB x y = true ↔ x = y := by
 cases x; cases y
 simp [eqB, and_assoc]
theorem j7z (x : Mp) : eqB x x = true := eqB_iff.2 rfl
def sameB (A C : List Mp) : Bool := A.length == C.length && (List.range A.length).all (fun i => eqB (mat A i) (mat C i))
variable {A C : List Mp}
theorem sameB_len (h : A.length ≠ C.length) : sameB A C = false := by
 unfold sameB; rw [beq_eq_false_iff_ne.2 h]; rfl
theorem sameB_at {k : Nat} (hk : k < A.length) (h : eqB (mat A k) (mat C k) = false) : sameB A C = false := by
 unfold sameB
 rw [Bool.and_eq_false_iff]; right
 rw [List.all_eq_false]
 exact ⟨k, List.mem_range.2 hk, by simp [h]⟩
theorem sameB_all (h : A.length = C.length) (k : ∀ i, i < A.length → eqB (mat A i) (mat C i) = true) : sameB A C = true := by
 unfold sameB
 rw [beq_iff_eq.2 h, Bool.true_and, List.all_eq_true]
 exact fun i hi => k i (List.mem_range.1 hi)
theorem sameB_refl (A : List Mp) : sameB A A = true := sameB_all rfl fun _ _ => j7z _
end Pg
end PgM
namespace PgM
open Go.RowKit Go.Shelf
attribute [local go_sem] Oper.semAt_some
open Pg
def Keeps (D : Nat → Prop) (W W' : World) : Prop := W.heap.size ≤ W'.heap.size ∧ ∀ b, D b → W'.heap[b]? = W.heap[b]?
theorem Keeps.refl (D : Nat → Prop) (W : World) : Keeps D W W := ⟨lrp _, fun _ _ => rfl⟩
theorem Keeps.trans {D : Nat → Prop} {A B C : World} (h : Keeps D A B) (k : Keeps D B C) : Keeps D A C := ⟨Nat.le_trans h.1 k.1, fun b hb => (k.2 b hb).trans (h.2 b hb)⟩
theorem Boxed.next {W W' : World} {B : Nat} {t : TypeId} {v : Value} (h : Boxed W B t v) (k : Below W.heap.size W W') : Boxed W' B t v := (k.block B h.lt).trans h
theorem cellLater {w : World} {a : Addr} {v : Value} (h : w.cell? a = some v) (o : Obj) : (w.alloc o).cell? a = some v := by
 by_cases hb : a.block < w.heap.size
 ·exact (((brp w.heap.size w).alloc (lrp _) o).cell hb).trans h
 ·exfalso
  have hn : w.heap[a.block]? = none := by simp; omega
  simp [World.cell?, hn] at h
def mpV (x : Mp) : Array Value := #[.int .i64 x.va, .int .i64 x.n, .int .u64 x.cont, .int .u64 x.seg, .int .i64 x.off, .bool x.wr]
def Mb (W : World) (B : Nat) (x : Mp) : Prop := W.heap[B]? = some (.cells #[.int .i64 x.va, .int .i64 x.n, .int .u64 x.cont, .int .u64 x.seg, .int .i64 x.off, .bool x.wr] 115 (0, 0))
section
variable {W W' : World} {B : Nat} {x : Mp}
theorem Mb.lt (h : Mb W B x) : B < W.heap.size := (Array.getElem?_eq_some_iff.1 h).1
theorem Mb.cells (h : Mb W B x) : W.cell? ⟨B, 0, none⟩ = some (.int .i64 x.va) ∧ W.cell? ⟨B, 1, none⟩ = some (.int .i64 x.n) ∧ W.cell? ⟨B, 2, none⟩ = some (.int .u64 x.cont) ∧ W.cell? ⟨B, 3, none⟩ = some (.int .u64 x.seg) ∧ W.cell? ⟨B, 4, none⟩ = some (.int .i64 x.off) ∧ W.cell? ⟨B, 5, none⟩ = some (.bool x.wr) := by
 simp [World.cell?, show W.heap[B]? = _ from h]
theorem Mb.new (W : World) (x : Mp) : Mb (W.alloc (.cells #[.int .i64 x.va, .int .i64 x.n, .int .u64 x.cont, .int .u64 x.seg, .int .i64 x.off, .bool x.wr] 115)) W.heap.size x := World.alloc_heap_new W _
theorem Mb.next (h : Mb W B x) (k : Below W.heap.size W W') : Mb W' B x := (k.block B h.lt).trans h
theorem Mb.alloc (h : Mb W B x) (o : Obj) : Mb (W.alloc o) B x := h.next ((brp _ W).alloc (lrp _) o)
end
def MpsD (D : Nat → Prop) (w : World) (ao : Option Addr) (n cap : Nat) (l : List Mp) : Prop :=
 l.length = n ∧ n ≤ cap ∧ (cap ≤ 9223372036854775807 ∧ (ao = none → cap = 0)) ∧
 (0 < n → ∃ b off, ao = some ⟨b, off, none⟩ ∧ D b ∧ ∀ i, i < n → ∀ j v, (mpV (mat l i))[j]? = some v → w.cell? ⟨b, off + i * 6 + j, none⟩ = some v)
def Mps (B : Nat) (w : World) (ao : Option Addr) (n cap : Nat) (l : List Mp) : Prop := MpsD (fun b => b < B) w ao n cap l
section
variable {D : Nat → Prop} {w w' : World} {ao : Option Addr} {n cap B B' : Nat} {l : List Mp}
theorem MpsD.laterK (h : MpsD D w ao n cap l) (k : ∀ b, D b → w'.heap[b]? = w.heap[b]?) : MpsD D w' ao n cap l := by
 obtain ⟨h1, h2, h3, h4⟩ := h
 refine ⟨h1, h2, h3, fun hn => ?_⟩
 obtain ⟨b, off, e, hb, hc⟩ := h4 hn
 exact ⟨b, off, e, hb, fun i hi j v hv => (World.cell?_of_block (w := w) (a := ⟨b, off + i * 6 + j, none⟩) (k b hb)).trans (hc i hi j v hv)⟩
theorem Mps.later (h : Mps B w ao n cap l) (k : Below B w w') : Mps B w' ao n cap l := MpsD.laterK h fun b hb => k.block b hb
theorem MpsD.wide {D' : Nat → Prop} (h : MpsD D w ao n cap l) (k : ∀ b, D b → D' b) : MpsD D' w ao n cap l := by
 obtain ⟨h1, h2, h3, h4⟩ := h
 refine ⟨h1, h2, h3, fun hn => ?_⟩
 obtain ⟨b, off, e, hb, hc⟩ := h4 hn
 exact ⟨b, off, e, k b hb, hc⟩
theorem Mps.wide (h : Mps B w ao n cap l) (k : B ≤ B') : Mps B' w ao n cap l := MpsD.wide h fun b hb => ltp hb k
theorem Mps.next (h : Mps w.heap.size w ao n cap l) (k : Below w.heap.size w w') : Mps w'.heap.size w' ao n cap l := (h.later k).wide k.size
theorem Mps.nil (B : Nat) (w : World) : Mps B w none 0 0 [] := ⟨rfl, lrp _, ⟨by omega, fun _ => rfl⟩, fun h => absurd h (by omega)⟩
theorem Mps.len (h : Mps B w ao n cap l) : l.length = n := h.1
theorem MpsD.at (h : MpsD D w ao n cap l) {i : Nat} (hi : i < n) : ∃ (b off : Nat) (va nn cont seg of : Int) (wr : Bool), ao = some ⟨b, off, none⟩ ∧ D b ∧ Hid (mat l i = ⟨va, nn, cont, seg, of, wr⟩) ∧
  w.cell? ⟨b, off + i * 6, none⟩ = some (.int .i64 va) ∧ w.cell? ⟨b, off + i * 6 + 1, none⟩ = some (.int .i64 nn) ∧ w.cell? ⟨b, off + i * 6 + 2, none⟩ = some (.int .u64 cont) ∧ w.cell? ⟨b, off + i * 6 + 3, none⟩ = some (.int .u64 seg) ∧ w.cell? ⟨b, off + i * 6 + 4, none⟩ = some (.int .i64 of) ∧ w.cell? ⟨b, off + i * 6 + 5, none⟩ = some (.bool wr) := by
 obtain ⟨h1, h2, h3, h4⟩ := h
 obtain ⟨b, off, e, hb, hc⟩ := h4 (by omega)
 obtain ⟨x, hx⟩ : ∃ x, mat l i = x := ⟨_, rfl⟩
 obtain ⟨va, nn, cont, seg, of, wr⟩ := x
 have hc' := hc i hi
 rw [hx] at hc'
 exact ⟨b, off, va, nn, cont, seg, of, wr, e, hb, hx, hc' 0 _ rfl, hc' 1 _ rfl, hc' 2 _ rfl, hc' 3 _ rfl, hc' 4 _ rfl, hc' 5 _ rfl⟩
end
namespace Pg
def ivB (f n : Int) : Bool := decide (0 ≤ f) && (decide (1 ≤ n) && decide (f + n ≤ 1048576))
theorem one_iv (x : Mp) : oneB x = (ivB x.va x.n && ivB x.off x.n) := by
 unfold oneB ivB
 rw [Bool.eq_iff_iff]
 simp
 omega
end Pg
section
variable (va nn cont seg of : Int) (wr : Bool) (w : World)
theorem v1z (w : World) (o o' : Obj) : Below w.heap.size w ((w.alloc o).alloc o') := ((brp _ w).alloc (lrp _) o).alloc (by simp) o'
theorem xnz : Calls prog 251 #[.agg #[.int .i64 va, .int .i64 nn, .int .u64 cont, .int .u64 seg, .int .i64 of, .bool wr]] w fun e w' => e = .returned (.agg #[.int .i64 va, .int .i64 nn]) ∧ Below w.heap.size w w' := by
 go_enter func251, ntmps251
 go_wp2
 refine bodyPost_ret (v := .agg #[.int .i64 va, .int .i64 nn]) (by simp [results, Tryz.f251, go_sem]) rfl ?_
 exact ⟨rfl, v1z w _ _⟩
theorem gyz : Calls prog 273 #[.agg #[.int .i64 va, .int .i64 nn, .int .u64 cont, .int .u64 seg, .int .i64 of, .bool wr]] w fun e w' => e = .returned (.agg #[.int .i64 of, .int .i64 nn]) ∧ Below w.heap.size w w' := by
 go_enter func273, ntmps273
 go_wp2
 refine bodyPost_ret (v := .agg #[.int .i64 of, .int .i64 nn]) (by simp [results, Tryz.f273, go_sem]) rfl ?_
 exact ⟨rfl, v1z w _ _⟩
end
theorem upz (f n : Int) (w : World) : Calls prog 272 #[.agg #[.int .i64 f, .int .i64 n]] w fun e w' => e = .returned (.bool (ivB f n)) ∧ Below w.heap.size w w' := by
 have hr : Hid (ivB f n = (decide (0 ≤ f) && (decide (1 ≤ n) && decide (f + n ≤ 1048576)))) := rfl
 go_enter func272, ntmps272
 go_wp2
 all_goals (go_ret; refine ⟨?_, (brp _ w).alloc (lrp _) _⟩; rw [hr.out])
 ·rename_i h1 h2 h3; refine congrArg (fun z => Ending.returned (.bool z)) (?_ : decide (f ≤ 1048576 - n) = _); rw [decide_eq_true h1, decide_eq_true h2]; simp only [Bool.true_and]; rw [decide_eq_decide]; omega
 ·rename_i h1 h2 h3; rw [decide_eq_false (p := f + n ≤ 1048576) (by omega)]; simp
 ·rename_i h1 h2; rw [decide_eq_false (p := 1 ≤ n) (by omega)]; simp
 ·rename_i h1; rw [decide_eq_false (p := 0 ≤ f) (by omega)]; rfl
theorem end_any (f n : Int) (h0 : 0 ≤ f) (h1 : 0 ≤ n) (h2 : f + n ≤ 1048576) (w : World) : Calls prog 274 #[.agg #[.int .i64 f, .int .i64 n]] w fun e w' => e = .returned (.int .i64 (f + n)) ∧ Below w.heap.size w w' := by
 go_enter func274, ntmps274
 go_wp2
 go_ret
 exact ⟨rfl, (brp _ w).alloc (lrp _) _⟩
theorem ends_any (f n p : Int) (h0 : 0 ≤ f) (h1 : 0 ≤ n) (h2 : f + n ≤ 1048576) (w : World) : Calls prog 252 #[.agg #[.int .i64 f, .int .i64 n], .int .i64 p] w fun e w' => e = .returned (.bool (decide (f + n ≤ p))) ∧ Below w.heap.size w w' := by
 have hB := (brp w.heap.size w).alloc (lrp _) (.cells #[.int .i64 f, .int .i64 n] 242)
 go_enter func252, ntmps252
 go_wp2_with (go_at_call 274; refine (end_any f n h0 h1 h2 _).mono ?_; rintro e w1 ⟨rfl, hb1⟩)
 go_ret
 exact ⟨rfl, btp hB hb1⟩
section
variable (va nn cont seg of : Int) (wr : Bool) (w : World)
theorem boz : Calls prog 250 #[.agg #[.int .i64 va, .int .i64 nn, .int .u64 cont, .int .u64 seg, .int .i64 of, .bool wr]] w fun e w' => e = .returned (.bool (oneB ⟨va, nn, cont, seg, of, wr⟩)) ∧ Below w.heap.size w w' := by
 have hr : Hid (oneB ⟨va, nn, cont, seg, of, wr⟩ = (ivB va nn && ivB of nn)) := one_iv _
 have hM := Mb.new w ⟨va, nn, cont, seg, of, wr⟩
 have hB := (brp w.heap.size w).alloc (lrp _) (.cells #[.int .i64 va, .int .i64 nn, .int .u64 cont, .int .u64 seg, .int .i64 of, .bool wr] 115)
 have hf := fun w => upz va nn w
 have hf' := fun w => upz of nn w
 cases h : ivB va nn with
 | false =>
  rw [h] at hf
  go_enter func250, ntmps250
  go_wp2_with (first | (go_at_call 251; refine (xnz _ _ _ _ _ _ _).mono ?_; rintro e w1 ⟨rfl, hb1⟩) | (go_at_call 272; refine (hf _).mono ?_; rintro e w2 ⟨rfl, hb2⟩))
  go_ret
  exact ⟨by rw [hr.out, h]; rfl, (btp hB hb1).trans (hb2.mono (Nat.le_trans hB.size hb1.size))⟩
 | true =>
  rw [h] at hf
  go_enter func250, ntmps250
  go_wp2_with (first | (go_at_call 251; refine (xnz _ _ _ _ _ _ _).mono ?_; rintro e w1 ⟨rfl, hb1⟩) | (go_at_call 272; (with_reducible refine (hf _).mono ?_); rintro e w2 ⟨rfl, hb2⟩; obtain ⟨q0, q1, q2, q3, q4, q5⟩ := ((hM.next hb1).next hb2).cells) | (go_at_call 273; refine (gyz _ _ _ _ _ _ _).mono ?_; rintro e w3 ⟨rfl, hb3⟩) | (go_at_call 272; (with_reducible refine (hf' _).mono ?_); rintro e w4 ⟨rfl, hb4⟩))
  go_ret
  have b1 := btp hB hb1
  have b2 := btp b1 hb2
  have b3 := btp b2 hb3
  exact ⟨congrArg (fun z => Ending.returned (.bool z)) (show ivB of nn = _ by rw [hr.out, h, Bool.true_and]), btp b3 hb4⟩
theorem rone_any : Calls prog 164 #[.agg #[.int .i64 va, .int .i64 nn, .int .u64 cont, .int .u64 seg, .int .i64 of, .bool wr]] w fun e w' => e = .returned (.bool (oneB ⟨va, nn, cont, seg, of, wr⟩)) ∧ Below w.heap.size w w' := by
 have hr : Hid (oneB ⟨va, nn, cont, seg, of, wr⟩ = decide (0 ≤ va ∧ 1 ≤ nn ∧ 0 ≤ of ∧ va + nn ≤ 1048576 ∧ of + nn ≤ 1048576)) := rfl
 go_enter func164, ntmps164
 go_wp2
 all_goals (go_ret; refine ⟨?_, (brp _ w).alloc (lrp _) _⟩; rw [hr.out]; first | (rw [decide_eq_false (by omega)]; rfl) | (refine congrArg (fun z => Ending.returned (.bool z)) (?_ : decide (nn ≤ 1048576 - of) = _); rw [decide_eq_decide]; omega))
end
namespace Pg
end Pg
end PgM
namespace PgM
open Go.RowKit Go.Shelf
attribute [local go_sem] Oper.semAt_some
open Pg
def mpC (l : List Mp) : List Value := l.flatMap fun x => (mpV x).toList
theorem mpC_len (l : List Mp) : (mpC l).length = l.length * 6 := by
 induction l with
 | nil => rfl
 | cons x l ih => show ((mpV x).toList ++ mpC l).length = _; rw [List.length_append, ih]; show 6 + _ = _; simp; omega
variable {l : List Mp}
theorem mpC_at : ∀ {i j : Nat} {v : Value}, i < l.length → (mpV (mat l i))[j]? = some v → (mpC l)[i * 6 + j]? = some v := by
 induction l with
 | nil => intro i j v hi; simp at hi
 | cons x l ih =>
  intro i j v hi hv
  have hs : (mpV x).toList.length = 6 := rfl
  show ((mpV x).toList ++ mpC l)[i * 6 + j]? = some v
  cases i with
  | zero =>
   have hj : j < 6 := (Array.getElem?_eq_some_iff.1 hv).1
   rw [List.getElem?_append_left (by omega)]
   simpa [mat] using hv
  | succ i =>
   rw [List.getElem?_append_right (by omega), hs, show (i + 1) * 6 + j - 6 = i * 6 + j by omega]
   exact ih (by simpa using hi) (by simpa [mat] using hv)
theorem mpC_back : ∀ {j : Nat} {v : Value}, (mpC l)[j]? = some v → j / 6 < l.length ∧ (mpV (mat l (j / 6)))[j % 6]? = some v := by
 intro j v h
 have hj : j < l.length * 6 := by rw [← mpC_len]; exact (List.getElem?_eq_some_iff.1 h).1
 have hl : j / 6 < l.length := by omega
 have hm : j % 6 < (mpV (mat l (j / 6))).size := by show _ < 6; omega
 refine ⟨hl, ?_⟩
 have := mpC_at hl (Array.getElem?_eq_getElem hm)
 rw [show j / 6 * 6 + j % 6 = j by omega, h] at this
 rw [Array.getElem?_eq_getElem hm, ← this]
theorem mpC_one (l : List Mp) : ∀ u ∈ mpC l, u.oneCell' = true := by
 intro u hu
 obtain ⟨x, _, hx⟩ := List.mem_flatMap.1 hu
 simp [mpV] at hx
 rcases hx with rfl | rfl | rfl | rfl | rfl | rfl <;> rfl
variable {D : Nat → Prop} {w : World}
theorem MpsD.cells {ad : Addr} {n cap : Nat} (h : MpsD D w (some ad) n cap l) : ∀ j u, (mpC l)[j]? = some u → w.cell? (ad.add j) = some u := by
 intro j u hj
 obtain ⟨h1, h2⟩ := mpC_back hj
 obtain ⟨e1, _, _, e4⟩ := h
 obtain ⟨b, off, e, hb, hc⟩ := e4 (by omega)
 cases e
 have := hc (j / 6) (by omega) (j % 6) u h2
 have ea : (⟨b, off, none⟩ : Addr).add j = ⟨b, off + j / 6 * 6 + j % 6, none⟩ := by
  unfold Addr.add
  split
  ·rename_i h0; subst h0; rfl
  ·rw [show off + j / 6 * 6 + j % 6 = off + j by omega]
 rw [ea]
 exact this
theorem grownBy_refl (w : World) (r : Option Nat) : w.grownBy w r := ⟨rfl, rfl, rfl, lrp _, fun _ _ _ => rfl⟩
theorem mat_take {k i : Nat} (h : i < k) : mat (l.take k) i = mat l i := by
 unfold mat; rw [List.getD_eq_getElem?_getD, List.getElem?_take, if_pos h, List.getD_eq_getElem?_getD]
theorem mat_drop {k i : Nat} : mat (l.drop k) i = mat l (k + i) := by
 unfold mat; rw [List.getD_eq_getElem?_getD, List.getElem?_drop, List.getD_eq_getElem?_getD]
theorem MpsD.take {ao : Option Addr} {n cap k : Nat} (h : MpsD D w ao n cap l) (hk : k ≤ n) : MpsD D w ao k cap (l.take k) := by
 obtain ⟨h1, h2, h3, h4⟩ := h
 refine ⟨by rw [List.length_take]; omega, by omega, h3, fun hn => ?_⟩
 obtain ⟨b, off, e, hb, hc⟩ := h4 (by omega)
 exact ⟨b, off, e, hb, fun i hi => by rw [mat_take hi]; exact hc i (by omega)⟩
theorem MpsD.drop {b off : Nat} {ao : Option Addr} {n cap k : Nat} (h : MpsD D w (some ⟨b, off, none⟩) n cap l) (hk : k ≤ n) (ha : ao = some ⟨b, off + k * 6, none⟩ ∨ (ao = some ⟨b, off, none⟩ ∧ k = n)) : MpsD D w ao (n - k) (cap - k) (l.drop k) := by
 obtain ⟨h1, h2, h3, h4⟩ := h
 refine ⟨by rw [List.length_drop]; omega, by omega, ⟨by omega, fun hz => by rcases ha with ha | ha; rw [ha] at hz; cases hz; rw [ha.1] at hz; cases hz⟩, fun hn => ?_⟩
 obtain ⟨b', off', e, hb, hc⟩ := h4 (by omega)
 cases e
 refine ⟨b, off + k * 6, by rcases ha with ha | ha; exact ha; omega, hb, fun i hi j v hv => ?_⟩
 rw [mat_drop] at hv
 have := hc (k + i) (by omega) j v hv
 rw [show off + (k + i) * 6 + j = off + k * 6 + i * 6 + j by omega] at this
 exact this
def Pl (w : World) (A B Bp g : Nat) (p : Int) (x : Mp) (W : World) : Prop := W.cell? ⟨B, 0, none⟩ = some (.func (.func g) #[] #[]) ∧ W.cell? ⟨Bp, 0, none⟩ = some (.int .i64 p) ∧ Mb W A x ∧ Below w.heap.size w W
def PlS (w : World) (A B Bp g : Nat) (p va nn cont seg of : Int) (wr : Bool) (W : World) : Prop :=
 W.cell? ⟨A, 0, none⟩ = some (.int .i64 va) ∧ W.cell? ⟨A, 1, none⟩ = some (.int .i64 nn) ∧ W.cell? ⟨A, 2, none⟩ = some (.int .u64 cont) ∧ W.cell? ⟨A, 3, none⟩ = some (.int .u64 seg) ∧ W.cell? ⟨A, 4, none⟩ = some (.int .i64 of) ∧ W.cell? ⟨A, 5, none⟩ = some (.bool wr) ∧
 W.cell? ⟨B, 0, none⟩ = some (.func (.func g) #[] #[]) ∧ W.cell? ⟨Bp, 0, none⟩ = some (.int .i64 p) ∧ Pl w A B Bp g p ⟨va, nn, cont, seg, of, wr⟩ W
section
variable {w X Y : World} {A B Bp g : Nat} {p va nn cont seg of : Int} {wr : Bool}
theorem Pl.mem (h : Pl w A B Bp g p ⟨va, nn, cont, seg, of, wr⟩ X) : PlS w A B Bp g p va nn cont seg of wr X := by
 obtain ⟨c0, c1, c2, c3, c4, c5⟩ := h.2.2.1.cells
 exact ⟨c0, c1, c2, c3, c4, c5, h.1, h.2.1, h⟩
theorem PlS.pl (h : PlS w A B Bp g p va nn cont seg of wr X) : Pl w A B Bp g p ⟨va, nn, cont, seg, of, wr⟩ X := h.2.2.2.2.2.2.2.2
theorem Pl.next {x : Mp} (h : Pl w A B Bp g p x X) (hb : Below X.heap.size X Y) : Pl w A B Bp g p x Y :=
 ⟨(hb.cell (World.block_lt_of_cell? _ _ h.1)).trans h.1, (hb.cell (World.block_lt_of_cell? _ _ h.2.1)).trans h.2.1, h.2.2.1.next hb, h.2.2.2.trans (hb.mono h.2.2.2.size)⟩
theorem PlS.next (h : PlS w A B Bp g p va nn cont seg of wr X) (hb : Below X.heap.size X Y) : PlS w A B Bp g p va nn cont seg of wr Y := (h.pl.next hb).mem
end
end PgM
namespace PgM
open Go.RowKit Go.Shelf
attribute [local go_sem] Oper.semAt_some
open Pg
def Pu (w2 : World) (b o A : Nat) (v0 v1 v2 v3 v4 : Int) (v5 : Bool) (u0 u1 u2 u3 u4 : Int) (u5 : Bool) (W : World) : Prop :=
 W.cell? ⟨b, o, none⟩ = some (.int .i64 v0) ∧ W.cell? ⟨b, o + 1, none⟩ = some (.int .i64 v1) ∧ W.cell? ⟨b, o + 2, none⟩ = some (.int .u64 v2) ∧ W.cell? ⟨b, o + 3, none⟩ = some (.int .u64 v3) ∧ W.cell? ⟨b, o + 4, none⟩ = some (.int .i64 v4) ∧ W.cell? ⟨b, o + 5, none⟩ = some (.bool v5) ∧
 W.cell? ⟨A, 0, none⟩ = some (.int .i64 u0) ∧ W.cell? ⟨A, 1, none⟩ = some (.int .i64 u1) ∧ W.cell? ⟨A, 2, none⟩ = some (.int .u64 u2) ∧ W.cell? ⟨A, 3, none⟩ = some (.int .u64 u3) ∧ W.cell? ⟨A, 4, none⟩ = some (.int .i64 u4) ∧ W.cell? ⟨A, 5, none⟩ = some (.bool u5) ∧ Below w2.heap.size w2 W
variable {u0 u1 u2 u3 u4 : Int} {u5 : Bool} {v0 v1 v2 v3 v4 : Int}
theorem Pu.next {w2 X Y : World} {b o A : Nat} {v5 : Bool} (h : Pu w2 b o A v0 v1 v2 v3 v4 v5 u0 u1 u2 u3 u4 u5 X) (hb : Below X.heap.size X Y) : Pu w2 b o A v0 v1 v2 v3 v4 v5 u0 u1 u2 u3 u4 u5 Y := by
 have f : ∀ {a : Addr} {v : Value}, X.cell? a = some v → Y.cell? a = some v := fun h => (hb.cell (World.block_lt_of_cell? _ _ h)).trans h
 obtain ⟨a0, a1, a2, a3, a4, a5, b0, b1, b2, b3, b4, b5, hB⟩ := h
 exact ⟨f a0, f a1, f a2, f a3, f a4, f a5, f b0, f b1, f b2, f b3, f b4, f b5, btp hB hb⟩
theorem Pu.bel {w2 X : World} {b o A : Nat} {v5 : Bool} (h : Pu w2 b o A v0 v1 v2 v3 v4 v5 u0 u1 u2 u3 u4 u5 X) : Below w2.heap.size w2 X := h.2.2.2.2.2.2.2.2.2.2.2.2
def Pw (w2 : World) (A : Nat) (u0 u1 u2 u3 u4 : Int) (u5 : Bool) (W : World) : Prop :=
 W.cell? ⟨A, 0, none⟩ = some (.int .i64 u0) ∧ W.cell? ⟨A, 1, none⟩ = some (.int .i64 u1) ∧ W.cell? ⟨A, 2, none⟩ = some (.int .u64 u2) ∧ W.cell? ⟨A, 3, none⟩ = some (.int .u64 u3) ∧ W.cell? ⟨A, 4, none⟩ = some (.int .i64 u4) ∧ W.cell? ⟨A, 5, none⟩ = some (.bool u5) ∧ Below w2.heap.size w2 W
theorem Pw.next {w2 X Y : World} {A : Nat} (h : Pw w2 A u0 u1 u2 u3 u4 u5 X) (hA : A < w2.heap.size) (hb : Below w2.heap.size X Y) : Pw w2 A u0 u1 u2 u3 u4 u5 Y := by
 have f : ∀ {j : Nat} {v : Value}, X.cell? ⟨A, j, none⟩ = some v → Y.cell? ⟨A, j, none⟩ = some v := fun h => (hb.cell (p := ⟨A, _, none⟩) hA).trans h
 obtain ⟨b0, b1, b2, b3, b4, b5, hB⟩ := h
 exact ⟨f b0, f b1, f b2, f b3, f b4, f b5, hB.trans hb⟩
theorem Pw.bel {w2 X : World} {A : Nat} (h : Pw w2 A u0 u1 u2 u3 u4 u5 X) : Below w2.heap.size w2 X := h.2.2.2.2.2.2
end PgM
namespace PgM
open Go.RowKit Go.Shelf
attribute [local go_sem] Oper.semAt_some
open Pg
theorem all_succ {p : Nat → Bool} {k : Nat} (h : ∀ i, i < k → p i = true) (hk : p k = true) : ∀ i, i < k + 1 → p i = true := fun i hi => by
 rcases Nat.lt_or_ge i k with h' | h'
 ·exact h i h'
 ·have : i = k := by omega
  rw [this]; exact hk
theorem below_drewN {B : Nat} {w W : World} (h : Below B w W) (m : Nat) : Below B w (W.drewN m) := h.trans ⟨rfl, rfl, rfl, lrp _, fun _ _ => rfl⟩
variable {w : World}
theorem region_out {P : Program} {ops : Array Oper} {Q : Exit → Act → World → Prop} {S : World → Prop} {id : Nat} {a : Act} (hm : P.follows .mixedOrders = true)
  (hS : S w.drew) (h : S w.drew → wpAnyH P .any ops Q S ops.size (Array.replicate ops.size false) a w.drew) : (Code.region id ops true).wp P Q a w :=
 wp_region_any hm (wpAny_of_held _ _ _ _ (h hS))
theorem fit_any {ao : Option Addr} {n cap : Nat} {L : List Mp} (hL : Mps w.heap.size w ao n cap L) :
  Calls prog 209 #[.slice ao n cap] w fun e w' => e = .returned (.bool (fitB L)) ∧ Below w.heap.size w w' := by
 have hln : Hid (L.length = n) := hL.1
 have hmx : prog.follows .mixedOrders = true := by kernel_rfl
 by_cases h16 : 16 < n
 ·have hr : Hid (fitB L = false) := vSz (by rw [hln.out]; exact h16)
  rw [hr.out]
  go_enter func209, ntmps209
  go_wp2
  go_ret
  exact ⟨rfl, brp _ _⟩
 ·have hn16 : n ≤ 16 := by omega
  have hn16' : Hid (n ≤ 16) := hn16
  go_enter func209, ntmps209
  go_wp2
  go_loopw [10] (fun i wr => ∃ k : Nat, k ≤ n ∧ i = .int .i64 k ∧ Hid (∀ i, i < k → okAt L i = true) ∧ Below w.heap.size w wr) (fun i _ => n - (intOf i).toNat)
  case atStart => exact ⟨0, Nat.zero_le _, rfl, fun j hj => absurd hj (by omega), brp _ _⟩
  case round =>
   obtain ⟨k, hk, rfl, hal, hb⟩ := hrel
   by_cases hkn : k < n
   ·obtain ⟨b, off, va, nn, cont, seg, of, wrt, rfl, hbb, hx, c0, c1, c2, c3, c4, c5⟩ := MpsD.at (hL.later hb) hkn
    have hkl : Hid (k < L.length) := by show k < L.length; rw [hln.out]; exact hkn
    have hkn' : (k : Int) < n := by omega
    have hbs := hb.size
    have hB1 : Below w.heap.size w (wr.alloc (.cells #[.int .i64 va, .int .i64 nn, .int .u64 cont, .int .u64 seg, .int .i64 of, .bool wrt] 115)) := hb.alloc hbs _
    have hM := Mb.new wr ⟨va, nn, cont, seg, of, wrt⟩
    have hfit := fun W => boz va nn cont seg of wrt W
    cases h1 : oneB ⟨va, nn, cont, seg, of, wrt⟩ with
    | false =>
     rw [h1] at hfit
     have hr : Hid (fitB L = false) := fitB_no hkl.out (by unfold okAt; rw [hx.out, h1]; rfl)
     clear h1
     go_wp2
     refine region_out (S := fun W => Mb W wr.heap.size ⟨va, nn, cont, seg, of, wrt⟩) hmx (hM.next (brp _ _).drew) (fun hS => ?_)
     have hBd : Below w.heap.size w (wr.alloc (.cells #[.int .i64 va, .int .i64 nn, .int .u64 cont, .int .u64 seg, .int .i64 of, .bool wrt] 115)).drew := hB1.drew
     generalize (wr.alloc (.cells #[.int .i64 va, .int .i64 nn, .int .u64 cont, .int .u64 seg, .int .i64 of, .bool wrt] 115)).drew = W3 at hS hBd ⊢
     refine wpAnyH_take (i := 0) (v := .agg #[.int .i64 va, .int .i64 nn, .int .u64 cont, .int .u64 seg, .int .i64 of, .bool wrt]) rfl (by kernel_rfl) (by kernel_rfl) (by kernel_rfl) (fun _ _ _ h => h) (Or.inl ⟨by kernel_rfl, fun w2 hS2 => by obtain ⟨q0, q1, q2, q3, q4, q5⟩ := Mb.cells hS2; go_simp⟩) hS ?_
     simp only [Act.put]
     refine wpAnyH_ready (rs := [1]) (by kernel_rfl) (by simp) ?_
     refine AllReadyH.cons rfl (fun K hK => ?_) AllReadyH.nil
     go_simp
     refine (hfit _).mono ?_
     rintro e w1 ⟨rfl, hb1⟩
     have hS : Mb w1 wr.heap.size ⟨va, nn, cont, seg, of, wrt⟩ := Mb.next hS hb1
     have hB3 : Below w.heap.size w w1 := btp hBd hb1
     refine hK.out _ _ hS (fun hS => ?_)
     clear hK K
     refine wpAnyH_take (i := 2) (v := .bool true) rfl (by kernel_rfl) (by kernel_rfl) (by kernel_rfl) (fun _ _ _ h => h) (Or.inl ⟨by kernel_rfl, fun w2 hS2 => by go_simp⟩) hS ?_
     simp only [Act.put]
     refine wpAnyH_take (i := 3) (v := .bool true) rfl (by kernel_rfl) (by kernel_rfl) (by kernel_rfl) (fun _ _ _ h => h) (Or.inl ⟨by kernel_rfl, fun w2 hS2 => by go_simp⟩) hS ?_
     simp only [Act.put]
     refine wpAnyH_take (i := 4) (v := undef) rfl (by kernel_rfl) (by kernel_rfl) (by kernel_rfl) (fun _ _ _ h => h) (Or.inr ⟨by kernel_rfl, rfl⟩) hS ?_
     simp only [Act.put]
     refine wpAnyH_take (i := 5) (v := undef) rfl (by kernel_rfl) (by kernel_rfl) (by kernel_rfl) (fun _ _ _ h => h) (Or.inr ⟨by kernel_rfl, rfl⟩) hS ?_
     simp only [Act.put]
     refine wpAnyH_take (i := 6) (v := undef) rfl (by kernel_rfl) (by kernel_rfl) (by kernel_rfl) (fun _ _ _ h => h) (Or.inr ⟨by kernel_rfl, rfl⟩) hS ?_
     simp only [Act.put]
     refine wpAnyH_take (i := 7) (v := undef) rfl (by kernel_rfl) (by kernel_rfl) (by kernel_rfl) (fun _ _ _ h => h) (Or.inr ⟨by kernel_rfl, rfl⟩) hS ?_
     simp only [Act.put]
     refine wpAnyH_take (i := 8) (v := undef) rfl (by kernel_rfl) (by kernel_rfl) (by kernel_rfl) (fun _ _ _ h => h) (Or.inr ⟨by kernel_rfl, rfl⟩) hS ?_
     simp only [Act.put]
     refine wpAnyH_take (i := 9) (v := undef) rfl (by kernel_rfl) (by kernel_rfl) (by kernel_rfl) (fun _ _ _ h => h) (Or.inr ⟨by kernel_rfl, rfl⟩) hS ?_
     simp only [Act.put]
     refine wpAnyH_take (i := 10) (v := undef) rfl (by kernel_rfl) (by kernel_rfl) (by kernel_rfl) (fun _ _ _ h => h) (Or.inr ⟨by kernel_rfl, rfl⟩) hS ?_
     simp only [Act.put]
     refine wpAnyH_take (i := 11) (v := undef) rfl (by kernel_rfl) (by kernel_rfl) (by kernel_rfl) (fun _ _ _ h => h) (Or.inr ⟨by kernel_rfl, rfl⟩) hS ?_
     simp only [Act.put]
     refine wpAnyH_take (i := 12) (v := undef) rfl (by kernel_rfl) (by kernel_rfl) (by kernel_rfl) (fun _ _ _ h => h) (Or.inr ⟨by kernel_rfl, rfl⟩) hS ?_
     simp only [Act.put]
     refine wpAnyH_take (i := 13) (v := undef) rfl (by kernel_rfl) (by kernel_rfl) (by kernel_rfl) (fun _ _ _ h => h) (Or.inr ⟨by kernel_rfl, rfl⟩) hS ?_
     simp only [Act.put]
     refine wpAnyH_take (i := 14) (v := undef) rfl (by kernel_rfl) (by kernel_rfl) (by kernel_rfl) (fun _ _ _ h => h) (Or.inr ⟨by kernel_rfl, rfl⟩) hS ?_
     simp only [Act.put]
     refine wpAnyH_take (i := 15) (v := undef) rfl (by kernel_rfl) (by kernel_rfl) (by kernel_rfl) (fun _ _ _ h => h) (Or.inr ⟨by kernel_rfl, rfl⟩) hS ?_
     simp only [Act.put]
     refine wpAnyH_take (i := 16) (v := undef) rfl (by kernel_rfl) (by kernel_rfl) (by kernel_rfl) (fun _ _ _ h => h) (Or.inr ⟨by kernel_rfl, rfl⟩) hS ?_
     simp only [Act.put]
     refine wpAnyH_take (i := 17) (v := undef) rfl (by kernel_rfl) (by kernel_rfl) (by kernel_rfl) (fun _ _ _ h => h) (Or.inr ⟨by kernel_rfl, rfl⟩) hS ?_
     simp only [Act.put]
     refine wpAnyH_take (i := 18) (v := .bool true) rfl (by kernel_rfl) (by kernel_rfl) (by kernel_rfl) (fun _ _ _ h => h) (Or.inl ⟨by kernel_rfl, fun w2 hS2 => by go_simp⟩) hS ?_
     simp only [Act.put]
     refine wpAnyH_done (by kernel_rfl) ?_ _
     go_simp
     go_wp2
     go_ret
     exact ⟨by rw [hr.out]; rfl, hB3⟩
    | true =>
     rw [h1] at hfit
     by_cases hk0 : k = 0
     ·have hal2 : Hid (∀ i, i < k + 1 → okAt L i = true) := all_succ hal.out (by unfold okAt; rw [hx.out, h1, hk0]; rfl)
      have hk0' : ¬ 0 < k := by omega
      clear h1 hk0
      go_wp2
      refine region_out (S := fun W => Mb W wr.heap.size ⟨va, nn, cont, seg, of, wrt⟩) hmx (hM.next (brp _ _).drew) (fun hS => ?_)
      have hBd : Below w.heap.size w (wr.alloc (.cells #[.int .i64 va, .int .i64 nn, .int .u64 cont, .int .u64 seg, .int .i64 of, .bool wrt] 115)).drew := hB1.drew
      generalize (wr.alloc (.cells #[.int .i64 va, .int .i64 nn, .int .u64 cont, .int .u64 seg, .int .i64 of, .bool wrt] 115)).drew = W3 at hS hBd ⊢
      refine wpAnyH_take (i := 0) (v := .agg #[.int .i64 va, .int .i64 nn, .int .u64 cont, .int .u64 seg, .int .i64 of, .bool wrt]) rfl (by kernel_rfl) (by kernel_rfl) (by kernel_rfl) (fun _ _ _ h => h) (Or.inl ⟨by kernel_rfl, fun w2 hS2 => by obtain ⟨q0, q1, q2, q3, q4, q5⟩ := Mb.cells hS2; go_simp⟩) hS ?_
      simp only [Act.put]
      refine wpAnyH_ready (rs := [1]) (by kernel_rfl) (by simp) ?_
      refine AllReadyH.cons rfl (fun K hK => ?_) AllReadyH.nil
      go_simp
      refine (hfit _).mono ?_
      rintro e w1 ⟨rfl, hb1⟩
      have hS : Mb w1 wr.heap.size ⟨va, nn, cont, seg, of, wrt⟩ := Mb.next hS hb1
      have hB3 : Below w.heap.size w w1 := btp hBd hb1
      refine hK.out _ _ hS (fun hS => ?_)
      clear hK K
      refine wpAnyH_take (i := 2) (v := .bool false) rfl (by kernel_rfl) (by kernel_rfl) (by kernel_rfl) (fun _ _ _ h => h) (Or.inl ⟨by kernel_rfl, fun w2 hS2 => by go_simp⟩) hS ?_
      simp only [Act.put]
      refine wpAnyH_take (i := 3) (v := .bool false) rfl (by kernel_rfl) (by kernel_rfl) (by kernel_rfl) (fun _ _ _ h => h) (Or.inl ⟨by kernel_rfl, fun w2 hS2 => by go_simp⟩) hS ?_
      simp only [Act.put]
      refine wpAnyH_take (i := 4) (v := .int .i64 (k : Int)) rfl (by kernel_rfl) (by kernel_rfl) (by kernel_rfl) (fun _ _ _ h => h) (Or.inl ⟨by kernel_rfl, fun w2 hS2 => by go_simp⟩) hS ?_
      simp only [Act.put]
      refine wpAnyH_take (i := 5) (v := .bool false) rfl (by kernel_rfl) (by kernel_rfl) (by kernel_rfl) (fun _ _ _ h => h) (Or.inl ⟨by kernel_rfl, fun w2 hS2 => by go_simp⟩) hS ?_
      simp only [Act.put]
      refine wpAnyH_take (i := 6) (v := .bool false) rfl (by kernel_rfl) (by kernel_rfl) (by kernel_rfl) (fun _ _ _ h => h) (Or.inl ⟨by kernel_rfl, fun w2 hS2 => by go_simp⟩) hS ?_
      simp only [Act.put]
      refine wpAnyH_take (i := 7) (v := undef) rfl (by kernel_rfl) (by kernel_rfl) (by kernel_rfl) (fun _ _ _ h => h) (Or.inr ⟨by kernel_rfl, rfl⟩) hS ?_
      simp only [Act.put]
      refine wpAnyH_take (i := 8) (v := undef) rfl (by kernel_rfl) (by kernel_rfl) (by kernel_rfl) (fun _ _ _ h => h) (Or.inr ⟨by kernel_rfl, rfl⟩) hS ?_
      simp only [Act.put]
      refine wpAnyH_take (i := 9) (v := undef) rfl (by kernel_rfl) (by kernel_rfl) (by kernel_rfl) (fun _ _ _ h => h) (Or.inr ⟨by kernel_rfl, rfl⟩) hS ?_
      simp only [Act.put]
      refine wpAnyH_take (i := 10) (v := undef) rfl (by kernel_rfl) (by kernel_rfl) (by kernel_rfl) (fun _ _ _ h => h) (Or.inr ⟨by kernel_rfl, rfl⟩) hS ?_
      simp only [Act.put]
      refine wpAnyH_take (i := 11) (v := undef) rfl (by kernel_rfl) (by kernel_rfl) (by kernel_rfl) (fun _ _ _ h => h) (Or.inr ⟨by kernel_rfl, rfl⟩) hS ?_
      simp only [Act.put]
      refine wpAnyH_take (i := 12) (v := undef) rfl (by kernel_rfl) (by kernel_rfl) (by kernel_rfl) (fun _ _ _ h => h) (Or.inr ⟨by kernel_rfl, rfl⟩) hS ?_
      simp only [Act.put]
      refine wpAnyH_take (i := 13) (v := undef) rfl (by kernel_rfl) (by kernel_rfl) (by kernel_rfl) (fun _ _ _ h => h) (Or.inr ⟨by kernel_rfl, rfl⟩) hS ?_
      simp only [Act.put]
      refine wpAnyH_take (i := 14) (v := undef) rfl (by kernel_rfl) (by kernel_rfl) (by kernel_rfl) (fun _ _ _ h => h) (Or.inr ⟨by kernel_rfl, rfl⟩) hS ?_
      simp only [Act.put]
      refine wpAnyH_take (i := 15) (v := undef) rfl (by kernel_rfl) (by kernel_rfl) (by kernel_rfl) (fun _ _ _ h => h) (Or.inr ⟨by kernel_rfl, rfl⟩) hS ?_
      simp only [Act.put]
      refine wpAnyH_take (i := 16) (v := undef) rfl (by kernel_rfl) (by kernel_rfl) (by kernel_rfl) (fun _ _ _ h => h) (Or.inr ⟨by kernel_rfl, rfl⟩) hS ?_
      simp only [Act.put]
      refine wpAnyH_take (i := 17) (v := .bool false) rfl (by kernel_rfl) (by kernel_rfl) (by kernel_rfl) (fun _ _ _ h => h) (Or.inl ⟨by kernel_rfl, fun w2 hS2 => by go_simp⟩) hS ?_
      simp only [Act.put]
      refine wpAnyH_take (i := 18) (v := .bool false) rfl (by kernel_rfl) (by kernel_rfl) (by kernel_rfl) (fun _ _ _ h => h) (Or.inl ⟨by kernel_rfl, fun w2 hS2 => by go_simp⟩) hS ?_
      simp only [Act.put]
      refine wpAnyH_done (by kernel_rfl) ?_ _
      go_simp
      go_wp2
      go_roundw
      case rel => exact ⟨k + 1, by omega, by simp, hal2, hB3⟩
      case measure => simp [intOf]; omega
     ·obtain ⟨j, hj⟩ : ∃ j, Hid (k = j + 1) := ⟨k - 1, by show _ = _; omega⟩
      have hw : IntKind.i64.wrap ((k : Int) - 1) = (j : Int) := by have := hj.out; rw [IntKind.wrap_i64]; omega
      have hkp : 0 < k := by omega
      have hjn : j < n := by have := hj.out; omega
      have hjn' : (j : Int) < n := by omega
      obtain ⟨b', off', va0, nn0, cont0, seg0, of0, wrt0, e0, _, hx0, d0, d1, d2, d3, d4, d5⟩ := MpsD.at (hL.later hb) hjn
      cases e0
      have h10 : oneB ⟨va0, nn0, cont0, seg0, of0, wrt0⟩ = true := by
       have := hal.out j (by rw [hj.out]; omega)
       unfold okAt at this
       rw [hx0.out, Bool.and_eq_true] at this
       exact this.1
      have h10' := y6z.1 h10
      simp only at h10'
      have hend := fun W => ends_any va0 nn0 va (by omega) (by omega) (by omega) W
      have hok : Hid (okAt L k = decide (va0 + nn0 ≤ va)) := by
       show _ = _
       unfold okAt
       rw [show k - 1 = j by rw [hj.out]; omega, hx.out, hx0.out, h1, decide_eq_false hk0]
       rfl
      clear h10 h10' hk0 h1
      cases hq : decide (va0 + nn0 ≤ va) with
      | true =>
       rw [hq] at hok
       simp only [hq] at hend
       have hal2 : Hid (∀ i, i < k + 1 → okAt L i = true) := all_succ hal.out hok.out
       clear hq hok
       go_wp2
       obtain ⟨n0, n1, n2, n3, n4, n5⟩ := hM.cells
       simp only at n0 n1 n2 n3 n4 n5
       have d6 := cellLater d0 (.cells #[.int .i64 va, .int .i64 nn, .int .u64 cont, .int .u64 seg, .int .i64 of, .bool wrt] 115)
       have d7 := cellLater d1 (.cells #[.int .i64 va, .int .i64 nn, .int .u64 cont, .int .u64 seg, .int .i64 of, .bool wrt] 115)
       have d8 := cellLater d2 (.cells #[.int .i64 va, .int .i64 nn, .int .u64 cont, .int .u64 seg, .int .i64 of, .bool wrt] 115)
       have d9 := cellLater d3 (.cells #[.int .i64 va, .int .i64 nn, .int .u64 cont, .int .u64 seg, .int .i64 of, .bool wrt] 115)
       have da := cellLater d4 (.cells #[.int .i64 va, .int .i64 nn, .int .u64 cont, .int .u64 seg, .int .i64 of, .bool wrt] 115)
       have db := cellLater d5 (.cells #[.int .i64 va, .int .i64 nn, .int .u64 cont, .int .u64 seg, .int .i64 of, .bool wrt] 115)
       generalize wr.alloc (.cells #[.int .i64 va, .int .i64 nn, .int .u64 cont, .int .u64 seg, .int .i64 of, .bool wrt] 115) = W1 at n0 n1 n2 n3 n4 n5 d6 d7 d8 d9 da db hB1 hM ⊢
       have HS : Pu W1 b (off + j * 6) wr.heap.size va0 nn0 cont0 seg0 of0 wrt0 va nn cont seg of wrt W1.drew := Pu.next ⟨d6, d7, d8, d9, da, db, n0, n1, n2, n3, n4, n5, brp _ _⟩ (brp _ _).drew
       clear d6 d7 d8 d9 da db n0 n1 n2 n3 n4 n5 d0 d1 d2 d3 d4 d5 c0 c1 c2 c3 c4 c5
       go_region_held3 (fun W => W.cell? ⟨b, off + j * 6, none⟩ = some (.int .i64 va0) ∧ W.cell? ⟨b, off + j * 6 + 1, none⟩ = some (.int .i64 nn0) ∧ W.cell? ⟨b, off + j * 6 + 2, none⟩ = some (.int .u64 cont0) ∧ W.cell? ⟨b, off + j * 6 + 3, none⟩ = some (.int .u64 seg0) ∧ W.cell? ⟨b, off + j * 6 + 4, none⟩ = some (.int .i64 of0) ∧ W.cell? ⟨b, off + j * 6 + 5, none⟩ = some (.bool wrt0) ∧ W.cell? ⟨wr.heap.size, 0, none⟩ = some (.int .i64 va) ∧ W.cell? ⟨wr.heap.size, 1, none⟩ = some (.int .i64 nn) ∧ W.cell? ⟨wr.heap.size, 2, none⟩ = some (.int .u64 cont) ∧ W.cell? ⟨wr.heap.size, 3, none⟩ = some (.int .u64 seg) ∧ W.cell? ⟨wr.heap.size, 4, none⟩ = some (.int .i64 of) ∧ W.cell? ⟨wr.heap.size, 5, none⟩ = some (.bool wrt) ∧ Below W1.heap.size W1 W) (first | exact HS | exact Pu.next (by assumption) hb2 | go_keep | fail) (first | (go_at_call 250; (with_reducible refine (hfit _).mono ?_); rintro e w' ⟨rfl, hb2⟩) | (go_at_call 251; (with_reducible refine (xnz va0 nn0 cont0 seg0 of0 wrt0 _).mono ?_); rintro e w' ⟨rfl, hb2⟩) | (go_at_call 252; (with_reducible refine (hend _).mono ?_); rintro e w' ⟨rfl, hb2⟩) | fail)
       have hfin : Below W1.heap.size W1 w' := Pu.bel (by assumption : Pu W1 b (off + j * 6) wr.heap.size va0 nn0 cont0 seg0 of0 wrt0 va nn cont seg of wrt w')
       have hB3 : Below w.heap.size w w' := btp hB1 hfin
       go_wp2
       go_roundw
       case rel => exact ⟨k + 1, by omega, by simp, hal2, hB3⟩
       case measure => simp [intOf]; omega
      | false =>
       rw [hq] at hok
       simp only [hq] at hend
       have hr : Hid (fitB L = false) := fitB_no hkl.out hok.out
       clear hq hok
       go_wp2
       obtain ⟨n0, n1, n2, n3, n4, n5⟩ := hM.cells
       simp only at n0 n1 n2 n3 n4 n5
       have d6 := cellLater d0 (.cells #[.int .i64 va, .int .i64 nn, .int .u64 cont, .int .u64 seg, .int .i64 of, .bool wrt] 115)
       have d7 := cellLater d1 (.cells #[.int .i64 va, .int .i64 nn, .int .u64 cont, .int .u64 seg, .int .i64 of, .bool wrt] 115)
       have d8 := cellLater d2 (.cells #[.int .i64 va, .int .i64 nn, .int .u64 cont, .int .u64 seg, .int .i64 of, .bool wrt] 115)
       have d9 := cellLater d3 (.cells #[.int .i64 va, .int .i64 nn, .int .u64 cont, .int .u64 seg, .int .i64 of, .bool wrt] 115)
       have da := cellLater d4 (.cells #[.int .i64 va, .int .i64 nn, .int .u64 cont, .int .u64 seg, .int .i64 of, .bool wrt] 115)
       have db := cellLater d5 (.cells #[.int .i64 va, .int .i64 nn, .int .u64 cont, .int .u64 seg, .int .i64 of, .bool wrt] 115)
       generalize wr.alloc (.cells #[.int .i64 va, .int .i64 nn, .int .u64 cont, .int .u64 seg, .int .i64 of, .bool wrt] 115) = W1 at n0 n1 n2 n3 n4 n5 d6 d7 d8 d9 da db hB1 hM ⊢
       have HS : Pu W1 b (off + j * 6) wr.heap.size va0 nn0 cont0 seg0 of0 wrt0 va nn cont seg of wrt W1.drew := Pu.next ⟨d6, d7, d8, d9, da, db, n0, n1, n2, n3, n4, n5, brp _ _⟩ (brp _ _).drew
       clear d6 d7 d8 d9 da db n0 n1 n2 n3 n4 n5 d0 d1 d2 d3 d4 d5 c0 c1 c2 c3 c4 c5
       go_region_held3 (fun W => W.cell? ⟨b, off + j * 6, none⟩ = some (.int .i64 va0) ∧ W.cell? ⟨b, off + j * 6 + 1, none⟩ = some (.int .i64 nn0) ∧ W.cell? ⟨b, off + j * 6 + 2, none⟩ = some (.int .u64 cont0) ∧ W.cell? ⟨b, off + j * 6 + 3, none⟩ = some (.int .u64 seg0) ∧ W.cell? ⟨b, off + j * 6 + 4, none⟩ = some (.int .i64 of0) ∧ W.cell? ⟨b, off + j * 6 + 5, none⟩ = some (.bool wrt0) ∧ W.cell? ⟨wr.heap.size, 0, none⟩ = some (.int .i64 va) ∧ W.cell? ⟨wr.heap.size, 1, none⟩ = some (.int .i64 nn) ∧ W.cell? ⟨wr.heap.size, 2, none⟩ = some (.int .u64 cont) ∧ W.cell? ⟨wr.heap.size, 3, none⟩ = some (.int .u64 seg) ∧ W.cell? ⟨wr.heap.size, 4, none⟩ = some (.int .i64 of) ∧ W.cell? ⟨wr.heap.size, 5, none⟩ = some (.bool wrt) ∧ Below W1.heap.size W1 W) (first | exact HS | exact Pu.next (by assumption) hb2 | go_keep | fail) (first | (go_at_call 250; (with_reducible refine (hfit _).mono ?_); rintro e w' ⟨rfl, hb2⟩) | (go_at_call 251; (with_reducible refine (xnz va0 nn0 cont0 seg0 of0 wrt0 _).mono ?_); rintro e w' ⟨rfl, hb2⟩) | (go_at_call 252; (with_reducible refine (hend _).mono ?_); rintro e w' ⟨rfl, hb2⟩) | fail)
       have hfin : Below W1.heap.size W1 w' := Pu.bel (by assumption : Pu W1 b (off + j * 6) wr.heap.size va0 nn0 cont0 seg0 of0 wrt0 va nn cont seg of wrt w')
       have hB3 : Below w.heap.size w w' := btp hB1 hfin
       go_wp2
       go_ret
       exact ⟨by rw [hr.out]; rfl, hB3⟩
   ·obtain rfl : k = n := by omega
    have hr : Hid (fitB L = true) := fitB_yes (by rw [hln.out]; exact hn16'.out) (fun i hi => hal.out i (by rw [hln.out] at hi; exact hi))
    go_wp2
    go_ret
    exact ⟨by rw [hr.out]; rfl, hb⟩
def It (W : World) (b o : Nat) (v0 v1 v2 v3 v4 : Int) (v5 : Bool) : Prop := W.cell? ⟨b, o, none⟩ = some (.int .i64 v0) ∧ W.cell? ⟨b, o + 1, none⟩ = some (.int .i64 v1) ∧ W.cell? ⟨b, o + 2, none⟩ = some (.int .u64 v2) ∧ W.cell? ⟨b, o + 3, none⟩ = some (.int .u64 v3) ∧ W.cell? ⟨b, o + 4, none⟩ = some (.int .i64 v4) ∧ W.cell? ⟨b, o + 5, none⟩ = some (.bool v5)
theorem It.next {X Y : World} {b o : Nat} {v0 v1 v2 v3 v4 : Int} {v5 : Bool} (h : It X b o v0 v1 v2 v3 v4 v5) (hb : Below X.heap.size X Y) : It Y b o v0 v1 v2 v3 v4 v5 := by
 have f : ∀ {a : Addr} {v : Value}, X.cell? a = some v → Y.cell? a = some v := fun h => (hb.cell (World.block_lt_of_cell? _ _ h)).trans h
 obtain ⟨a0, a1, a2, a3, a4, a5⟩ := h
 exact ⟨f a0, f a1, f a2, f a3, f a4, f a5⟩
def Pq (w2 : World) (b o o' : Nat) (v0 v1 u0 u1 u2 u3 u4 : Int) (u5 : Bool) (W : World) : Prop :=
 W.cell? ⟨b, o, none⟩ = some (.int .i64 v0) ∧ W.cell? ⟨b, o + 1, none⟩ = some (.int .i64 v1) ∧ W.cell? ⟨b, o', none⟩ = some (.int .i64 u0) ∧ W.cell? ⟨b, o' + 1, none⟩ = some (.int .i64 u1) ∧ W.cell? ⟨b, o' + 2, none⟩ = some (.int .u64 u2) ∧ W.cell? ⟨b, o' + 3, none⟩ = some (.int .u64 u3) ∧ W.cell? ⟨b, o' + 4, none⟩ = some (.int .i64 u4) ∧ W.cell? ⟨b, o' + 5, none⟩ = some (.bool u5) ∧ Below w2.heap.size w2 W
variable {v0 v1 u0 u1 u2 u3 u4 : Int}
theorem Pq.next {w2 X Y : World} {b o o' : Nat} {u5 : Bool} (h : Pq w2 b o o' v0 v1 u0 u1 u2 u3 u4 u5 X) (hb : Below X.heap.size X Y) : Pq w2 b o o' v0 v1 u0 u1 u2 u3 u4 u5 Y := by
 have f : ∀ {a : Addr} {v : Value}, X.cell? a = some v → Y.cell? a = some v := fun h => (hb.cell (World.block_lt_of_cell? _ _ h)).trans h
 obtain ⟨a0, a1, b0, b1, b2, b3, b4, b5, hB⟩ := h
 exact ⟨f a0, f a1, f b0, f b1, f b2, f b3, f b4, f b5, btp hB hb⟩
theorem Pq.bel {w2 X : World} {b o o' : Nat} {u5 : Bool} (h : Pq w2 b o o' v0 v1 u0 u1 u2 u3 u4 u5 X) : Below w2.heap.size w2 X := h.2.2.2.2.2.2.2.2
theorem rfit_any {ao : Option Addr} {n cap : Nat} {L : List Mp} (hL : Mps w.heap.size w ao n cap L) :
  Calls prog 124 #[.slice ao n cap] w fun e w' => e = .returned (.bool (fitB L)) ∧ Below w.heap.size w w' := by
 have hln : Hid (L.length = n) := hL.1
 have hmx : prog.follows .mixedOrders = true := by kernel_rfl
 by_cases h16 : 16 < n
 ·have hr : Hid (fitB L = false) := vSz (by rw [hln.out]; exact h16)
  rw [hr.out]
  go_enter func124, ntmps124
  go_wp2
  go_ret
  exact ⟨rfl, brp _ _⟩
 ·have hn16 : n ≤ 16 := by omega
  have hn16' : Hid (n ≤ 16) := hn16
  go_enter func124, ntmps124
  go_wp2
  go_loopw [3] (fun i wr => ∃ k : Nat, k ≤ n ∧ i = .int .i64 k ∧ Hid (∀ i, i < k → okAt L i = true) ∧ Below w.heap.size w wr) (fun i _ => n - (intOf i).toNat)
  case atStart => exact ⟨0, Nat.zero_le _, rfl, fun j hj => absurd hj (by omega), brp _ _⟩
  case round =>
   obtain ⟨k, hk, rfl, hal, hb⟩ := hrel
   by_cases hkn : k < n
   ·obtain ⟨b, off, va, nn, cont, seg, of, wrt, rfl, hbb, hx, c0, c1, c2, c3, c4, c5⟩ := MpsD.at (hL.later hb) hkn
    have hkl : Hid (k < L.length) := by show k < L.length; rw [hln.out]; exact hkn
    have hkn' : (k : Int) < n := by omega
    have hbs := hb.size
    have hfit := fun W => rone_any va nn cont seg of wrt W
    cases h1 : oneB ⟨va, nn, cont, seg, of, wrt⟩ with
    | false =>
     rw [h1] at hfit
     have hr : Hid (fitB L = false) := fitB_no hkl.out (by unfold okAt; rw [hx.out, h1]; rfl)
     clear h1
     go_wp2
     refine region_out (S := fun W => It W b (off + k * 6) va nn cont seg of wrt) hmx (It.next ⟨c0, c1, c2, c3, c4, c5⟩ (brp _ _).drew) (fun hS => ?_)
     have hBd : Below w.heap.size w wr.drew := hb.drew
     generalize wr.drew = W3 at hS hBd ⊢
     refine wpAnyH_take (i := 0) (v := .slice (some ⟨b, off, none⟩) n cap) rfl (by kernel_rfl) (by kernel_rfl) (by kernel_rfl) (fun _ _ _ h => h) (Or.inl ⟨by kernel_rfl, fun w2 hS2 => by go_simp⟩) hS ?_
     simp only [Act.put]
     refine wpAnyH_take (i := 1) (v := .int .i64 (k : Int)) rfl (by kernel_rfl) (by kernel_rfl) (by kernel_rfl) (fun _ _ _ h => h) (Or.inl ⟨by kernel_rfl, fun w2 hS2 => by go_simp⟩) hS ?_
     simp only [Act.put]
     refine wpAnyH_take (i := 2) (v := .pointer (some ⟨b, off + k * 6, none⟩)) rfl (by kernel_rfl) (by kernel_rfl) (by kernel_rfl) (fun _ _ _ h => h) (Or.inl ⟨by kernel_rfl, fun w2 hS2 => by go_simp⟩) hS ?_
     simp only [Act.put]
     refine wpAnyH_take (i := 3) (v := .agg #[.int .i64 va, .int .i64 nn, .int .u64 cont, .int .u64 seg, .int .i64 of, .bool wrt]) rfl (by kernel_rfl) (by kernel_rfl) (by kernel_rfl) (fun _ _ _ h => h) (Or.inl ⟨by kernel_rfl, fun w2 hS2 => by obtain ⟨q0, q1, q2, q3, q4, q5⟩ := hS2; go_simp⟩) hS ?_
     simp only [Act.put]
     refine wpAnyH_ready (rs := [4]) (by kernel_rfl) (by simp) ?_
     refine AllReadyH.cons rfl (fun K hK => ?_) AllReadyH.nil
     go_simp
     refine (hfit _).mono ?_
     rintro e w1 ⟨rfl, hb1⟩
     have hS : It w1 b (off + k * 6) va nn cont seg of wrt := It.next hS hb1
     have hB3 : Below w.heap.size w w1 := btp hBd hb1
     refine hK.out _ _ hS (fun hS => ?_)
     clear hK K
     refine wpAnyH_take (i := 5) (v := .bool true) rfl (by kernel_rfl) (by kernel_rfl) (by kernel_rfl) (fun _ _ _ h => h) (Or.inl ⟨by kernel_rfl, fun w2 hS2 => by go_simp⟩) hS ?_
     simp only [Act.put]
     refine wpAnyH_take (i := 6) (v := .bool true) rfl (by kernel_rfl) (by kernel_rfl) (by kernel_rfl) (fun _ _ _ h => h) (Or.inl ⟨by kernel_rfl, fun w2 hS2 => by go_simp⟩) hS ?_
     simp only [Act.put]
     refine wpAnyH_take (i := 7) (v := undef) rfl (by kernel_rfl) (by kernel_rfl) (by kernel_rfl) (fun _ _ _ h => h) (Or.inr ⟨by kernel_rfl, rfl⟩) hS ?_
     simp only [Act.put]
     refine wpAnyH_take (i := 8) (v := undef) rfl (by kernel_rfl) (by kernel_rfl) (by kernel_rfl) (fun _ _ _ h => h) (Or.inr ⟨by kernel_rfl, rfl⟩) hS ?_
     simp only [Act.put]
     refine wpAnyH_take (i := 9) (v := undef) rfl (by kernel_rfl) (by kernel_rfl) (by kernel_rfl) (fun _ _ _ h => h) (Or.inr ⟨by kernel_rfl, rfl⟩) hS ?_
     simp only [Act.put]
     refine wpAnyH_take (i := 10) (v := undef) rfl (by kernel_rfl) (by kernel_rfl) (by kernel_rfl) (fun _ _ _ h => h) (Or.inr ⟨by kernel_rfl, rfl⟩) hS ?_
     simp only [Act.put]
     refine wpAnyH_take (i := 11) (v := undef) rfl (by kernel_rfl) (by kernel_rfl) (by kernel_rfl) (fun _ _ _ h => h) (Or.inr ⟨by kernel_rfl, rfl⟩) hS ?_
     simp only [Act.put]
     refine wpAnyH_take (i := 12) (v := undef) rfl (by kernel_rfl) (by kernel_rfl) (by kernel_rfl) (fun _ _ _ h => h) (Or.inr ⟨by kernel_rfl, rfl⟩) hS ?_
     simp only [Act.put]
     refine wpAnyH_take (i := 13) (v := undef) rfl (by kernel_rfl) (by kernel_rfl) (by kernel_rfl) (fun _ _ _ h => h) (Or.inr ⟨by kernel_rfl, rfl⟩) hS ?_
     simp only [Act.put]
     refine wpAnyH_take (i := 14) (v := undef) rfl (by kernel_rfl) (by kernel_rfl) (by kernel_rfl) (fun _ _ _ h => h) (Or.inr ⟨by kernel_rfl, rfl⟩) hS ?_
     simp only [Act.put]
     refine wpAnyH_take (i := 15) (v := undef) rfl (by kernel_rfl) (by kernel_rfl) (by kernel_rfl) (fun _ _ _ h => h) (Or.inr ⟨by kernel_rfl, rfl⟩) hS ?_
     simp only [Act.put]
     refine wpAnyH_take (i := 16) (v := undef) rfl (by kernel_rfl) (by kernel_rfl) (by kernel_rfl) (fun _ _ _ h => h) (Or.inr ⟨by kernel_rfl, rfl⟩) hS ?_
     simp only [Act.put]
     refine wpAnyH_take (i := 17) (v := undef) rfl (by kernel_rfl) (by kernel_rfl) (by kernel_rfl) (fun _ _ _ h => h) (Or.inr ⟨by kernel_rfl, rfl⟩) hS ?_
     simp only [Act.put]
     refine wpAnyH_take (i := 18) (v := undef) rfl (by kernel_rfl) (by kernel_rfl) (by kernel_rfl) (fun _ _ _ h => h) (Or.inr ⟨by kernel_rfl, rfl⟩) hS ?_
     simp only [Act.put]
     refine wpAnyH_take (i := 19) (v := undef) rfl (by kernel_rfl) (by kernel_rfl) (by kernel_rfl) (fun _ _ _ h => h) (Or.inr ⟨by kernel_rfl, rfl⟩) hS ?_
     simp only [Act.put]
     refine wpAnyH_take (i := 20) (v := undef) rfl (by kernel_rfl) (by kernel_rfl) (by kernel_rfl) (fun _ _ _ h => h) (Or.inr ⟨by kernel_rfl, rfl⟩) hS ?_
     simp only [Act.put]
     refine wpAnyH_take (i := 21) (v := undef) rfl (by kernel_rfl) (by kernel_rfl) (by kernel_rfl) (fun _ _ _ h => h) (Or.inr ⟨by kernel_rfl, rfl⟩) hS ?_
     simp only [Act.put]
     refine wpAnyH_take (i := 22) (v := undef) rfl (by kernel_rfl) (by kernel_rfl) (by kernel_rfl) (fun _ _ _ h => h) (Or.inr ⟨by kernel_rfl, rfl⟩) hS ?_
     simp only [Act.put]
     refine wpAnyH_take (i := 23) (v := undef) rfl (by kernel_rfl) (by kernel_rfl) (by kernel_rfl) (fun _ _ _ h => h) (Or.inr ⟨by kernel_rfl, rfl⟩) hS ?_
     simp only [Act.put]
     refine wpAnyH_take (i := 24) (v := undef) rfl (by kernel_rfl) (by kernel_rfl) (by kernel_rfl) (fun _ _ _ h => h) (Or.inr ⟨by kernel_rfl, rfl⟩) hS ?_
     simp only [Act.put]
     refine wpAnyH_take (i := 25) (v := undef) rfl (by kernel_rfl) (by kernel_rfl) (by kernel_rfl) (fun _ _ _ h => h) (Or.inr ⟨by kernel_rfl, rfl⟩) hS ?_
     simp only [Act.put]
     refine wpAnyH_take (i := 26) (v := undef) rfl (by kernel_rfl) (by kernel_rfl) (by kernel_rfl) (fun _ _ _ h => h) (Or.inr ⟨by kernel_rfl, rfl⟩) hS ?_
     simp only [Act.put]
     refine wpAnyH_take (i := 27) (v := undef) rfl (by kernel_rfl) (by kernel_rfl) (by kernel_rfl) (fun _ _ _ h => h) (Or.inr ⟨by kernel_rfl, rfl⟩) hS ?_
     simp only [Act.put]
     refine wpAnyH_take (i := 28) (v := undef) rfl (by kernel_rfl) (by kernel_rfl) (by kernel_rfl) (fun _ _ _ h => h) (Or.inr ⟨by kernel_rfl, rfl⟩) hS ?_
     simp only [Act.put]
     refine wpAnyH_take (i := 29) (v := undef) rfl (by kernel_rfl) (by kernel_rfl) (by kernel_rfl) (fun _ _ _ h => h) (Or.inr ⟨by kernel_rfl, rfl⟩) hS ?_
     simp only [Act.put]
     refine wpAnyH_take (i := 30) (v := .bool true) rfl (by kernel_rfl) (by kernel_rfl) (by kernel_rfl) (fun _ _ _ h => h) (Or.inl ⟨by kernel_rfl, fun w2 hS2 => by go_simp⟩) hS ?_
     simp only [Act.put]
     refine wpAnyH_done (by kernel_rfl) ?_ _
     go_simp
     go_wp2
     go_ret
     exact ⟨by rw [hr.out]; rfl, hB3⟩
    | true =>
     rw [h1] at hfit
     by_cases hk0 : k = 0
     ·have hal2 : Hid (∀ i, i < k + 1 → okAt L i = true) := all_succ hal.out (by unfold okAt; rw [hx.out, h1, hk0]; rfl)
      have hk0' : ¬ 0 < k := by omega
      clear h1 hk0
      go_wp2
      refine region_out (S := fun W => It W b (off + k * 6) va nn cont seg of wrt) hmx (It.next ⟨c0, c1, c2, c3, c4, c5⟩ (brp _ _).drew) (fun hS => ?_)
      have hBd : Below w.heap.size w wr.drew := hb.drew
      generalize wr.drew = W3 at hS hBd ⊢
      refine wpAnyH_take (i := 0) (v := .slice (some ⟨b, off, none⟩) n cap) rfl (by kernel_rfl) (by kernel_rfl) (by kernel_rfl) (fun _ _ _ h => h) (Or.inl ⟨by kernel_rfl, fun w2 hS2 => by go_simp⟩) hS ?_
      simp only [Act.put]
      refine wpAnyH_take (i := 1) (v := .int .i64 (k : Int)) rfl (by kernel_rfl) (by kernel_rfl) (by kernel_rfl) (fun _ _ _ h => h) (Or.inl ⟨by kernel_rfl, fun w2 hS2 => by go_simp⟩) hS ?_
      simp only [Act.put]
      refine wpAnyH_take (i := 2) (v := .pointer (some ⟨b, off + k * 6, none⟩)) rfl (by kernel_rfl) (by kernel_rfl) (by kernel_rfl) (fun _ _ _ h => h) (Or.inl ⟨by kernel_rfl, fun w2 hS2 => by go_simp⟩) hS ?_
      simp only [Act.put]
      refine wpAnyH_take (i := 3) (v := .agg #[.int .i64 va, .int .i64 nn, .int .u64 cont, .int .u64 seg, .int .i64 of, .bool wrt]) rfl (by kernel_rfl) (by kernel_rfl) (by kernel_rfl) (fun _ _ _ h => h) (Or.inl ⟨by kernel_rfl, fun w2 hS2 => by obtain ⟨q0, q1, q2, q3, q4, q5⟩ := hS2; go_simp⟩) hS ?_
      simp only [Act.put]
      refine wpAnyH_ready (rs := [4]) (by kernel_rfl) (by simp) ?_
      refine AllReadyH.cons rfl (fun K hK => ?_) AllReadyH.nil
      go_simp
      refine (hfit _).mono ?_
      rintro e w1 ⟨rfl, hb1⟩
      have hS : It w1 b (off + k * 6) va nn cont seg of wrt := It.next hS hb1
      have hB3 : Below w.heap.size w w1 := btp hBd hb1
      refine hK.out _ _ hS (fun hS => ?_)
      clear hK K
      refine wpAnyH_take (i := 5) (v := .bool false) rfl (by kernel_rfl) (by kernel_rfl) (by kernel_rfl) (fun _ _ _ h => h) (Or.inl ⟨by kernel_rfl, fun w2 hS2 => by go_simp⟩) hS ?_
      simp only [Act.put]
      refine wpAnyH_take (i := 6) (v := .bool false) rfl (by kernel_rfl) (by kernel_rfl) (by kernel_rfl) (fun _ _ _ h => h) (Or.inl ⟨by kernel_rfl, fun w2 hS2 => by go_simp⟩) hS ?_
      simp only [Act.put]
      refine wpAnyH_take (i := 7) (v := .int .i64 (k : Int)) rfl (by kernel_rfl) (by kernel_rfl) (by kernel_rfl) (fun _ _ _ h => h) (Or.inl ⟨by kernel_rfl, fun w2 hS2 => by go_simp⟩) hS ?_
      simp only [Act.put]
      refine wpAnyH_take (i := 8) (v := .bool false) rfl (by kernel_rfl) (by kernel_rfl) (by kernel_rfl) (fun _ _ _ h => h) (Or.inl ⟨by kernel_rfl, fun w2 hS2 => by go_simp⟩) hS ?_
      simp only [Act.put]
      refine wpAnyH_take (i := 9) (v := .bool false) rfl (by kernel_rfl) (by kernel_rfl) (by kernel_rfl) (fun _ _ _ h => h) (Or.inl ⟨by kernel_rfl, fun w2 hS2 => by go_simp⟩) hS ?_
      simp only [Act.put]
      refine wpAnyH_take (i := 10) (v := undef) rfl (by kernel_rfl) (by kernel_rfl) (by kernel_rfl) (fun _ _ _ h => h) (Or.inr ⟨by kernel_rfl, rfl⟩) hS ?_
      simp only [Act.put]
      refine wpAnyH_take (i := 11) (v := undef) rfl (by kernel_rfl) (by kernel_rfl) (by kernel_rfl) (fun _ _ _ h => h) (Or.inr ⟨by kernel_rfl, rfl⟩) hS ?_
      simp only [Act.put]
      refine wpAnyH_take (i := 12) (v := undef) rfl (by kernel_rfl) (by kernel_rfl) (by kernel_rfl) (fun _ _ _ h => h) (Or.inr ⟨by kernel_rfl, rfl⟩) hS ?_
      simp only [Act.put]
      refine wpAnyH_take (i := 13) (v := undef) rfl (by kernel_rfl) (by kernel_rfl) (by kernel_rfl) (fun _ _ _ h => h) (Or.inr ⟨by kernel_rfl, rfl⟩) hS ?_
      simp only [Act.put]
      refine wpAnyH_take (i := 14) (v := undef) rfl (by kernel_rfl) (by kernel_rfl) (by kernel_rfl) (fun _ _ _ h => h) (Or.inr ⟨by kernel_rfl, rfl⟩) hS ?_
      simp only [Act.put]
      refine wpAnyH_take (i := 15) (v := undef) rfl (by kernel_rfl) (by kernel_rfl) (by kernel_rfl) (fun _ _ _ h => h) (Or.inr ⟨by kernel_rfl, rfl⟩) hS ?_
      simp only [Act.put]
      refine wpAnyH_take (i := 16) (v := undef) rfl (by kernel_rfl) (by kernel_rfl) (by kernel_rfl) (fun _ _ _ h => h) (Or.inr ⟨by kernel_rfl, rfl⟩) hS ?_
      simp only [Act.put]
      refine wpAnyH_take (i := 17) (v := undef) rfl (by kernel_rfl) (by kernel_rfl) (by kernel_rfl) (fun _ _ _ h => h) (Or.inr ⟨by kernel_rfl, rfl⟩) hS ?_
      simp only [Act.put]
      refine wpAnyH_take (i := 18) (v := undef) rfl (by kernel_rfl) (by kernel_rfl) (by kernel_rfl) (fun _ _ _ h => h) (Or.inr ⟨by kernel_rfl, rfl⟩) hS ?_
      simp only [Act.put]
      refine wpAnyH_take (i := 19) (v := undef) rfl (by kernel_rfl) (by kernel_rfl) (by kernel_rfl) (fun _ _ _ h => h) (Or.inr ⟨by kernel_rfl, rfl⟩) hS ?_
      simp only [Act.put]
      refine wpAnyH_take (i := 20) (v := undef) rfl (by kernel_rfl) (by kernel_rfl) (by kernel_rfl) (fun _ _ _ h => h) (Or.inr ⟨by kernel_rfl, rfl⟩) hS ?_
      simp only [Act.put]
      refine wpAnyH_take (i := 21) (v := undef) rfl (by kernel_rfl) (by kernel_rfl) (by kernel_rfl) (fun _ _ _ h => h) (Or.inr ⟨by kernel_rfl, rfl⟩) hS ?_
      simp only [Act.put]
      refine wpAnyH_take (i := 22) (v := undef) rfl (by kernel_rfl) (by kernel_rfl) (by kernel_rfl) (fun _ _ _ h => h) (Or.inr ⟨by kernel_rfl, rfl⟩) hS ?_
      simp only [Act.put]
      refine wpAnyH_take (i := 23) (v := undef) rfl (by kernel_rfl) (by kernel_rfl) (by kernel_rfl) (fun _ _ _ h => h) (Or.inr ⟨by kernel_rfl, rfl⟩) hS ?_
      simp only [Act.put]
      refine wpAnyH_take (i := 24) (v := undef) rfl (by kernel_rfl) (by kernel_rfl) (by kernel_rfl) (fun _ _ _ h => h) (Or.inr ⟨by kernel_rfl, rfl⟩) hS ?_
      simp only [Act.put]
      refine wpAnyH_take (i := 25) (v := undef) rfl (by kernel_rfl) (by kernel_rfl) (by kernel_rfl) (fun _ _ _ h => h) (Or.inr ⟨by kernel_rfl, rfl⟩) hS ?_
      simp only [Act.put]
      refine wpAnyH_take (i := 26) (v := undef) rfl (by kernel_rfl) (by kernel_rfl) (by kernel_rfl) (fun _ _ _ h => h) (Or.inr ⟨by kernel_rfl, rfl⟩) hS ?_
      simp only [Act.put]
      refine wpAnyH_take (i := 27) (v := undef) rfl (by kernel_rfl) (by kernel_rfl) (by kernel_rfl) (fun _ _ _ h => h) (Or.inr ⟨by kernel_rfl, rfl⟩) hS ?_
      simp only [Act.put]
      refine wpAnyH_take (i := 28) (v := undef) rfl (by kernel_rfl) (by kernel_rfl) (by kernel_rfl) (fun _ _ _ h => h) (Or.inr ⟨by kernel_rfl, rfl⟩) hS ?_
      simp only [Act.put]
      refine wpAnyH_take (i := 29) (v := .bool false) rfl (by kernel_rfl) (by kernel_rfl) (by kernel_rfl) (fun _ _ _ h => h) (Or.inl ⟨by kernel_rfl, fun w2 hS2 => by go_simp⟩) hS ?_
      simp only [Act.put]
      refine wpAnyH_take (i := 30) (v := .bool false) rfl (by kernel_rfl) (by kernel_rfl) (by kernel_rfl) (fun _ _ _ h => h) (Or.inl ⟨by kernel_rfl, fun w2 hS2 => by go_simp⟩) hS ?_
      simp only [Act.put]
      refine wpAnyH_done (by kernel_rfl) ?_ _
      go_simp
      go_wp2
      go_roundw
      case rel => exact ⟨k + 1, by omega, by simp, hal2, hB3⟩
      case measure => simp [intOf]; omega
     ·obtain ⟨j, hj⟩ : ∃ j, Hid (k = j + 1) := ⟨k - 1, by show _ = _; omega⟩
      have hw : IntKind.i64.wrap ((k : Int) - 1) = (j : Int) := by have := hj.out; rw [IntKind.wrap_i64]; omega
      have hkp : 0 < k := by omega
      have hjn : j < n := by have := hj.out; omega
      have hjn' : (j : Int) < n := by omega
      obtain ⟨b', off', va0, nn0, cont0, seg0, of0, wrt0, e0, _, hx0, d0, d1, _⟩ := MpsD.at (hL.later hb) hjn
      cases e0
      have h10 : oneB ⟨va0, nn0, cont0, seg0, of0, wrt0⟩ = true := by
       have := hal.out j (by rw [hj.out]; omega)
       unfold okAt at this
       rw [hx0.out, Bool.and_eq_true] at this
       exact this.1
      have h10' := y6z.1 h10
      simp only at h10'
      have hok : Hid (okAt L k = decide (va0 + nn0 ≤ va)) := by
       show _ = _
       unfold okAt
       rw [show k - 1 = j by rw [hj.out]; omega, hx.out, hx0.out, h1, decide_eq_false hk0]
       rfl
      have hw2 : IntKind.i64.wrap (va0 + nn0) = va0 + nn0 := by rw [IntKind.wrap_i64]; omega
      clear h10 h10' hk0 h1
      by_cases hq : va0 + nn0 ≤ va
      ·have hal2 : Hid (∀ i, i < k + 1 → okAt L i = true) := all_succ hal.out (by rw [hok.out, decide_eq_true hq])
       have hq' : decide (va < va0 + nn0) = false := by rw [decide_eq_false_iff_not]; omega
       clear hok
       go_wp2
       have HS : Pq wr b (off + j * 6) (off + k * 6) va0 nn0 va nn cont seg of wrt wr.drew := Pq.next ⟨d0, d1, c0, c1, c2, c3, c4, c5, brp _ _⟩ (brp _ _).drew
       clear d0 d1 c0 c1 c2 c3 c4 c5
       go_region_held3 (fun W => W.cell? ⟨b, off + j * 6, none⟩ = some (.int .i64 va0) ∧ W.cell? ⟨b, off + j * 6 + 1, none⟩ = some (.int .i64 nn0) ∧ W.cell? ⟨b, off + k * 6, none⟩ = some (.int .i64 va) ∧ W.cell? ⟨b, off + k * 6 + 1, none⟩ = some (.int .i64 nn) ∧ W.cell? ⟨b, off + k * 6 + 2, none⟩ = some (.int .u64 cont) ∧ W.cell? ⟨b, off + k * 6 + 3, none⟩ = some (.int .u64 seg) ∧ W.cell? ⟨b, off + k * 6 + 4, none⟩ = some (.int .i64 of) ∧ W.cell? ⟨b, off + k * 6 + 5, none⟩ = some (.bool wrt) ∧ Below wr.heap.size wr W) (first | exact HS | exact Pq.next (by assumption) hb2 | go_keep | fail) (first | (go_at_call 164; (with_reducible refine (hfit _).mono ?_); rintro e w' ⟨rfl, hb2⟩) | fail)
       have hfin : Below wr.heap.size wr w' := Pq.bel (by assumption : Pq wr b (off + j * 6) (off + k * 6) va0 nn0 va nn cont seg of wrt w')
       have hB3 : Below w.heap.size w w' := btp hb hfin
       go_wp2
       go_roundw
       case rel => exact ⟨k + 1, by omega, by simp, hal2, hB3⟩
       case measure => simp [intOf]; omega
      ·have hr : Hid (fitB L = false) := fitB_no hkl.out (by rw [hok.out, decide_eq_false hq])
       have hq' : decide (va < va0 + nn0) = true := by rw [decide_eq_true_iff]; omega
       clear hok
       go_wp2
       have HS : Pq wr b (off + j * 6) (off + k * 6) va0 nn0 va nn cont seg of wrt wr.drew := Pq.next ⟨d0, d1, c0, c1, c2, c3, c4, c5, brp _ _⟩ (brp _ _).drew
       clear d0 d1 c0 c1 c2 c3 c4 c5
       go_region_held3 (fun W => W.cell? ⟨b, off + j * 6, none⟩ = some (.int .i64 va0) ∧ W.cell? ⟨b, off + j * 6 + 1, none⟩ = some (.int .i64 nn0) ∧ W.cell? ⟨b, off + k * 6, none⟩ = some (.int .i64 va) ∧ W.cell? ⟨b, off + k * 6 + 1, none⟩ = some (.int .i64 nn) ∧ W.cell? ⟨b, off + k * 6 + 2, none⟩ = some (.int .u64 cont) ∧ W.cell? ⟨b, off + k * 6 + 3, none⟩ = some (.int .u64 seg) ∧ W.cell? ⟨b, off + k * 6 + 4, none⟩ = some (.int .i64 of) ∧ W.cell? ⟨b, off + k * 6 + 5, none⟩ = some (.bool wrt) ∧ Below wr.heap.size wr W) (first | exact HS | exact Pq.next (by assumption) hb2 | go_keep | fail) (first | (go_at_call 164; (with_reducible refine (hfit _).mono ?_); rintro e w' ⟨rfl, hb2⟩) | fail)
       have hfin : Below wr.heap.size wr w' := Pq.bel (by assumption : Pq wr b (off + j * 6) (off + k * 6) va0 nn0 va nn cont seg of wrt w')
       have hB3 : Below w.heap.size w w' := btp hb hfin
       go_wp2
       go_ret
       exact ⟨by rw [hr.out]; rfl, hB3⟩
   ·obtain rfl : k = n := by omega
    have hr : Hid (fitB L = true) := fitB_yes (by rw [hln.out]; exact hn16'.out) (fun i hi => hal.out i (by rw [hln.out] at hi; exact hi))
    go_wp2
    go_ret
    exact ⟨by rw [hr.out]; rfl, hb⟩
end PgM
namespace PgM
open Go.RowKit Go.Shelf
attribute [local go_sem] Oper.semAt_some
open Pg
theorem eqB_no {x y : Mp} (h : ¬ x = y) : eqB x y = false := by
 cases hq : eqB x y with
 | false => rfl
 | true => exact absurd (eqB_iff.1 hq) h
theorem diff {a0 a1 a2 a3 a4 : Int} {a5 : Bool} {b0 b1 b2 b3 b4 : Int} {b5 : Bool} (h : ¬ (⟨a0, a1, a2, a3, a4, a5⟩ : Mp) = ⟨b0, b1, b2, b3, b4, b5⟩) :
  (a0 == b0) = false ∨ (a0 = b0 ∧ (a1 == b1) = false) ∨ (a0 = b0 ∧ a1 = b1 ∧ (a2 == b2) = false) ∨ (a0 = b0 ∧ a1 = b1 ∧ a2 = b2 ∧ (a3 == b3) = false) ∨ (a0 = b0 ∧ a1 = b1 ∧ a2 = b2 ∧ a3 = b3 ∧ (a4 == b4) = false) ∨ (a0 = b0 ∧ a1 = b1 ∧ a2 = b2 ∧ a3 = b3 ∧ a4 = b4 ∧ (a5 == b5) = false) := by
 by_cases h0 : a0 = b0
 ·by_cases h1 : a1 = b1
  ·by_cases h2 : a2 = b2
   ·by_cases h3 : a3 = b3
    ·by_cases h4 : a4 = b4
     ·by_cases h5 : a5 = b5
      ·exact absurd (by rw [h0, h1, h2, h3, h4, h5]) h
      ·exact .inr (.inr (.inr (.inr (.inr ⟨h0, h1, h2, h3, h4, by rw [beq_eq_false_iff_ne]; exact h5⟩))))
     ·exact .inr (.inr (.inr (.inr (.inl ⟨h0, h1, h2, h3, by rw [beq_eq_false_iff_ne]; exact h4⟩))))
    ·exact .inr (.inr (.inr (.inl ⟨h0, h1, h2, by rw [beq_eq_false_iff_ne]; exact h3⟩)))
   ·exact .inr (.inr (.inl ⟨h0, h1, by rw [beq_eq_false_iff_ne]; exact h2⟩))
  ·exact .inr (.inl ⟨h0, by rw [beq_eq_false_iff_ne]; exact h1⟩)
 ·exact .inl (by rw [beq_eq_false_iff_ne]; exact h0)
theorem usz {p q : Nat → Mp} {k : Nat} (h : ∀ i, i < k → eqB (p i) (q i) = true) (hk : eqB (p k) (q k) = true) : ∀ i, i < k + 1 → eqB (p i) (q i) = true := fun i hi => by
 rcases Nat.lt_or_ge i k with h' | h'
 ·exact h i h'
 ·have : i = k := by omega
  rw [this]; exact hk
variable {a a' : Option Addr} {n c n' c' : Nat} {L M : List Mp} {w : World}
theorem bHz (h : Mps w.heap.size w a n c L) (h' : Mps w.heap.size w a' n' c' M) :
  Calls prog 255 #[.slice a n c, .slice a' n' c'] w fun e w' => e = .returned (.bool (sameB L M)) ∧ Below w.heap.size w w' := by
 have hn : Hid (L.length = n) := h.1
 have hn' : Hid (M.length = n') := h'.1
 have hnc := h.2.1
 have hcm := h.2.2.1.1
 have hnc' := h'.2.1
 have hcm' := h'.2.2.1.1
 by_cases hnn : n = n'
 ·subst hnn
  go_enter func255, ntmps255
  go_wp2
  go_loopw [13] (fun i wr => ∃ k : Nat, k ≤ n ∧ i = .int .i64 k ∧ Hid (∀ j, j < k → eqB (mat L j) (mat M j) = true) ∧ Below w.heap.size w wr) (fun i _ => n - (intOf i).toNat)
  case atStart => exact ⟨0, Nat.zero_le _, rfl, fun j hj => absurd hj (by omega), brp _ _⟩
  case round =>
   obtain ⟨k, hk, rfl, hal, hb⟩ := hrel
   by_cases hkn : k < n
   ·obtain ⟨b, off, va, nn, cont, seg, of, wrt, rfl, hB, hx, c0, c1, c2, c3, c4, c5⟩ := MpsD.at (h.later hb) hkn
    obtain ⟨b', off', va', nn', cont', seg', of', wrt', rfl, hB', hx', d0, d1, d2, d3, d4, d5⟩ := MpsD.at (h'.later hb) hkn
    have hkn' : (k : Int) < n := by omega
    by_cases hxx : (⟨va, nn, cont, seg, of, wrt⟩ : Mp) = ⟨va', nn', cont', seg', of', wrt'⟩
    ·have hal2 : Hid (∀ j, j < k + 1 → eqB (mat L j) (mat M j) = true) := usz hal.out (by rw [hx.out, hx'.out, hxx]; exact j7z _)
     simp only [Mp.mk.injEq] at hxx
     obtain ⟨rfl, rfl, rfl, rfl, rfl, rfl⟩ := hxx
     go_wp2
     go_quiet (fail)
     go_wp2
     go_roundw
     case rel => exact ⟨k + 1, by omega, by go_num, hal2, below_drewN hb _⟩
     case measure => simp [intOf]; omega
    ·have hf : Hid (sameB L M = false) := sameB_at (k := k) (by rw [hn.out]; exact hkn) (by rw [hx.out, hx'.out]; exact eqB_no hxx)
     rcases diff hxx with hd | ⟨rfl, hd⟩ | ⟨rfl, rfl, hd⟩ | ⟨rfl, rfl, rfl, hd⟩ | ⟨rfl, rfl, rfl, rfl, hd⟩ | ⟨rfl, rfl, rfl, rfl, rfl, hd⟩
     ·clear hxx
      go_wp2
      go_quiet (fail)
      go_wp2
      go_ret
      exact ⟨(by rw [hf.out]; rfl), below_drewN hb _⟩
     ·clear hxx
      go_wp2
      go_quiet (fail)
      go_wp2
      go_ret
      exact ⟨(by rw [hf.out]; rfl), below_drewN hb _⟩
     ·clear hxx
      go_wp2
      go_quiet (fail)
      go_wp2
      go_ret
      exact ⟨(by rw [hf.out]; rfl), below_drewN hb _⟩
     ·clear hxx
      go_wp2
      go_quiet (fail)
      go_wp2
      go_ret
      exact ⟨(by rw [hf.out]; rfl), below_drewN hb _⟩
     ·clear hxx
      go_wp2
      go_quiet (fail)
      go_wp2
      go_ret
      exact ⟨(by rw [hf.out]; rfl), below_drewN hb _⟩
     ·clear hxx
      go_wp2
      go_quiet (fail)
      go_wp2
      go_ret
      exact ⟨(by rw [hf.out]; rfl), below_drewN hb _⟩
   ·obtain rfl : k = n := by omega
    have hf : Hid (sameB L M = true) := sameB_all (by rw [hn.out, hn'.out]) (fun i hi => hal.out i (by rw [hn.out] at hi; exact hi))
    go_wp2
    go_ret
    exact ⟨(by rw [hf.out]; rfl), hb⟩
 ·have hf : Hid (sameB L M = false) := sameB_len (by rw [hn.out, hn'.out]; exact hnn)
  have hne : ((n : Int) == (n' : Int)) = false := by simp; omega
  go_enter func255, ntmps255
  go_wp2
  go_ret
  exact ⟨(by rw [hf.out]; rfl), brp _ _⟩
theorem same_any (h : Mps w.heap.size w a n c L) (h' : Mps w.heap.size w a' n' c' M) :
  Calls prog 214 #[.slice a n c, .slice a' n' c'] w fun e w' => e = .returned (.bool (sameB L M)) ∧ Below w.heap.size w w' := by
 have hc := bHz h h'
 go_enter func214, ntmps214
 go_wp2_with (go_at_call 255; refine hc.mono ?_; rintro e w' ⟨rfl, hb⟩)
 go_ret
 exact ⟨rfl, hb⟩
theorem rsame_any (h : Mps w.heap.size w a n c L) (h' : Mps w.heap.size w a' n' c' M) :
  Calls prog 41 #[.slice a n c, .slice a' n' c'] w fun e w' => e = .returned (.bool (sameB L M)) ∧ Below w.heap.size w w' := by
 have hn : Hid (L.length = n) := h.1
 have hn' : Hid (M.length = n') := h'.1
 have hnc := h.2.1
 have hcm := h.2.2.1.1
 have hnc' := h'.2.1
 have hcm' := h'.2.2.1.1
 by_cases hnn : n = n'
 ·subst hnn
  go_enter func41, ntmps41
  go_wp2
  go_loopw [5] (fun i wr => ∃ k : Nat, k ≤ n ∧ i = .int .i64 k ∧ Hid (∀ j, j < k → eqB (mat L j) (mat M j) = true) ∧ Below w.heap.size w wr) (fun i _ => n - (intOf i).toNat)
  case atStart => exact ⟨0, Nat.zero_le _, rfl, fun j hj => absurd hj (by omega), brp _ _⟩
  case round =>
   obtain ⟨k, hk, rfl, hal, hb⟩ := hrel
   by_cases hkn : k < n
   ·obtain ⟨b, off, va, nn, cont, seg, of, wrt, rfl, hB, hx, c0, c1, c2, c3, c4, c5⟩ := MpsD.at (h.later hb) hkn
    obtain ⟨b', off', va', nn', cont', seg', of', wrt', rfl, hB', hx', d0, d1, d2, d3, d4, d5⟩ := MpsD.at (h'.later hb) hkn
    have hkn' : (k : Int) < n := by omega
    by_cases hxx : (⟨va, nn, cont, seg, of, wrt⟩ : Mp) = ⟨va', nn', cont', seg', of', wrt'⟩
    ·have hal2 : Hid (∀ j, j < k + 1 → eqB (mat L j) (mat M j) = true) := usz hal.out (by rw [hx.out, hx'.out, hxx]; exact j7z _)
     simp only [Mp.mk.injEq] at hxx
     obtain ⟨rfl, rfl, rfl, rfl, rfl, rfl⟩ := hxx
     go_wp2
     go_quiet (fail)
     go_wp2
     go_roundw
     case rel => exact ⟨k + 1, by omega, by go_num, hal2, below_drewN hb _⟩
     case measure => simp [intOf]; omega
    ·have hf : Hid (sameB L M = false) := sameB_at (k := k) (by rw [hn.out]; exact hkn) (by rw [hx.out, hx'.out]; exact eqB_no hxx)
     rcases diff hxx with hd | ⟨rfl, hd⟩ | ⟨rfl, rfl, hd⟩ | ⟨rfl, rfl, rfl, hd⟩ | ⟨rfl, rfl, rfl, rfl, hd⟩ | ⟨rfl, rfl, rfl, rfl, rfl, hd⟩
     ·clear hxx
      go_wp2
      go_quiet (fail)
      go_wp2
      go_ret
      exact ⟨(by rw [hf.out]; rfl), below_drewN hb _⟩
     ·clear hxx
      go_wp2
      go_quiet (fail)
      go_wp2
      go_ret
      exact ⟨(by rw [hf.out]; rfl), below_drewN hb _⟩
     ·clear hxx
      go_wp2
      go_quiet (fail)
      go_wp2
      go_ret
      exact ⟨(by rw [hf.out]; rfl), below_drewN hb _⟩
     ·clear hxx
      go_wp2
      go_quiet (fail)
      go_wp2
      go_ret
      exact ⟨(by rw [hf.out]; rfl), below_drewN hb _⟩
     ·clear hxx
      go_wp2
      go_quiet (fail)
      go_wp2
      go_ret
      exact ⟨(by rw [hf.out]; rfl), below_drewN hb _⟩
     ·clear hxx
      go_wp2
      go_quiet (fail)
      go_wp2
      go_ret
      exact ⟨(by rw [hf.out]; rfl), below_drewN hb _⟩
   ·obtain rfl : k = n := by omega
    have hf : Hid (sameB L M = true) := sameB_all (by rw [hn.out, hn'.out]) (fun i hi => hal.out i (by rw [hn.out] at hi; exact hi))
    go_wp2
    go_ret
    exact ⟨(by rw [hf.out]; rfl), hb⟩
 ·have hf : Hid (sameB L M = false) := sameB_len (by rw [hn.out, hn'.out]; exact hnn)
  have hne : ((n : Int) == (n' : Int)) = false := by simp; omega
  go_enter func41, ntmps41
  go_wp2
  go_ret
  exact ⟨(by rw [hf.out]; rfl), brp _ _⟩
end PgM
end Go.Proofs.YtloghnpfplljgaaGreat
