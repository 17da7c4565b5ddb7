/-
 PROVED HERE: plain facts on labels as lists of pairs of integers (no Go text), and what it means that a slice in memory hol. What is asked stands at each.
-/
import Derived.WalkKit
import Derived.Below
import Derived.OwnWalk
import Derived.Test.YtdeddhojjolihaaGreatRows
import Derived.ProofKit
import Derived.OpenShut
import Derived.WalkSmall
import Derived.Deep.QuietTactic
import Derived.BigQuiet
import Derived.Test.YtdeddhojjolihaaGreatZ0
namespace Go.Proofs.YtdeddhojjolihaaGreat
set_option maxRecDepth 100000
set_option maxHeartbeats 8000000
set_option linter.unusedVariables false
open Go.Proofs.Tryz
section
open Go.RowKit
def LabD (D : Nat → Prop) (w : World) (ao : Option Addr) (n cap : Nat) (L : List (Int × Int)) : Prop :=
 L.length = n ∧ n ≤ cap ∧ (cap ≤ 9223372036854775807 ∧ (ao = none → cap = 0)) ∧
 (0 < n → ∃ b off, ao = some ⟨b, off, none⟩ ∧ D b ∧
  ∀ i, i < n → w.cell? ⟨b, off + i * 2, none⟩ = some (.int .u64 (L.getD i (0, 0)).1) ∧ w.cell? ⟨b, off + i * 2 + 1, none⟩ = some (.int .i64 (L.getD i (0, 0)).2))
def Lab (B : Nat) (w : World) (ao : Option Addr) (n cap : Nat) (L : List (Int × Int)) : Prop := LabD (fun b => b < B) w ao n cap L
def Keeps (D : Nat → Prop) (W W' : World) : Prop := W.heap.size ≤ W'.heap.size ∧ ∀ b, D b → W'.heap[b]? = W.heap[b]?
theorem Keeps.refl (D : Nat → Prop) (W : World) : Keeps D W W := ⟨Nat.le_refl _, fun _ _ => rfl⟩
variable {D : Nat → Prop}
theorem Keeps.trans {A B C : World} (h : Keeps D A B) (k : Keeps D B C) : Keeps D A C := ⟨Nat.le_trans h.1 k.1, fun b hb => (k.2 b hb).trans (h.2 b hb)⟩
variable {B : Nat}
theorem wsz {W W' : World} (h : Below B W W') : Keeps (fun b => b < B) W W' := ⟨h.size, fun b hb => h.block b hb⟩
variable {L : List (Int × Int)} {ao : Option Addr} {n cap : Nat}
theorem LabD.later {w w' : World} (h : LabD D w ao n cap L) (k : Keeps D w w') : LabD D w' ao n cap L := by
 obtain ⟨h1, h2, h3, h4⟩ := h
 refine ⟨h1, h2, h3, fun hn => ?_⟩
 obtain ⟨b, off, e, hb, hc⟩ := h4 hn
 refine ⟨b, off, e, hb, fun i hi => ?_⟩
 obtain ⟨c0, c1⟩ := hc i hi
 exact ⟨(World.cell?_of_block (w := w) (a := ⟨b, off + i * 2, none⟩) (k.2 b hb)).trans c0, (World.cell?_of_block (w := w) (a := ⟨b, off + i * 2 + 1, none⟩) (k.2 b hb)).trans c1⟩
variable {w : World}
theorem LabD.lab (h : LabD D w ao n cap L) (hD : ∀ b, D b → b < B) : Lab B w ao n cap L := by
 obtain ⟨h1, h2, h3, h4⟩ := h
 refine ⟨h1, h2, h3, fun hn => ?_⟩
 obtain ⟨b, off, e, hb, hc⟩ := h4 hn
 exact ⟨b, off, e, hD b hb, hc⟩
theorem Lab.later {w w' : World} (h : Lab B w ao n cap L) (k : Below B w w') : Lab B w' ao n cap L := by
 obtain ⟨h1, h2, h3, h4⟩ := h
 refine ⟨h1, h2, h3, fun hn => ?_⟩
 obtain ⟨b, off, e, hb, hc⟩ := h4 hn
 refine ⟨b, off, e, hb, fun i hi => ?_⟩
 obtain ⟨c0, c1⟩ := hc i hi
 exact ⟨(k.cell (p := ⟨b, off + i * 2, none⟩) hb).trans c0, (k.cell (p := ⟨b, off + i * 2 + 1, none⟩) hb).trans c1⟩
theorem Lab.wide {B B' : Nat} (h : Lab B w ao n cap L) (k : B ≤ B') : Lab B' w ao n cap L := by
 obtain ⟨h1, h2, h3, h4⟩ := h
 refine ⟨h1, h2, h3, fun hn => ?_⟩
 obtain ⟨b, off, e, hb, hc⟩ := h4 hn
 exact ⟨b, off, e, Nat.lt_of_lt_of_le hb k, hc⟩
theorem Lab.next {w w' : World} (h : Lab w.heap.size w ao n cap L) (k : Below w.heap.size w w') : Lab w'.heap.size w' ao n cap L := (h.later k).wide k.size
theorem Lab.len (h : Lab B w ao n cap L) : L.length = n := h.1
theorem Lab.nil (B : Nat) (w : World) : Lab B w none 0 0 [] := ⟨rfl, Nat.le_refl _, ⟨by omega, fun _ => rfl⟩, fun h => absurd h (by omega)⟩
theorem Lab.at {w wr : World} (h : Lab B w ao n cap L) (k : Below B w wr) {i : Nat} (hi : i < n) :
  ∃ (b off : Nat) (x y : Int), ao = some ⟨b, off, none⟩ ∧ b < B ∧ wr.cell? ⟨b, off + i * 2, none⟩ = some (.int .u64 x) ∧ wr.cell? ⟨b, off + i * 2 + 1, none⟩ = some (.int .i64 y) ∧ Hid (L.getD i (0, 0) = (x, y)) := by
 obtain ⟨h1, h2, h3, h4⟩ := h.later k
 obtain ⟨b, off, e, hb, hc⟩ := h4 (by omega)
 exact ⟨b, off, _, _, e, hb, (hc i hi).1, (hc i hi).2, rfl⟩
theorem cellLater {a : Addr} {v : Value} (h : w.cell? a = some v) (o : Obj) : (w.alloc o).cell? a = some v := by
 by_cases hb : a.block < w.heap.size
 ·exact (((Below.refl w.heap.size w).alloc (Nat.le_refl _) o).cell hb).trans h
 ·exfalso
  have hn : w.heap[a.block]? = none := by simp; omega
  simp [World.cell?, hn] at h
theorem wrapN {m : Nat} (h : m < 9223372036854775807) : IntKind.i64.wrap (m : Int) = m := by rw [IntKind.wrap_i64]; omega
def get : List (Int × Int) → Int → Int
 | [], _ => 2
 | p :: r, c => if p.1 = c then p.2 else get r c
variable {k : Nat}
theorem v6z (h : k < L.length) (c : Int) : get (L.drop k) c = if (L.getD k (0, 0)).1 = c then (L.getD k (0, 0)).2 else get (L.drop (k + 1)) c := by
 rw [List.drop_eq_getElem_cons h]
 simp [get, List.getD_eq_getElem?_getD, List.getElem?_eq_getElem h]
theorem get_hit {x y c : Int} (h : k < L.length) (e : L.getD k (0, 0) = (x, y)) (hx : x = c) : get (L.drop k) c = y := by
 rw [v6z h, e, if_pos hx]
theorem get_miss {x y c : Int} (h : k < L.length) (e : L.getD k (0, 0) = (x, y)) (hx : ¬ x = c) : get (L.drop k) c = get (L.drop (k + 1)) c := by
 rw [v6z h, e, if_neg hx]
theorem get_end (h : L.length ≤ k) (c : Int) : get (L.drop k) c = 2 := by
 rw [List.drop_eq_nil_of_le h]; rfl
def okAt (L : List (Int × Int)) (k : Nat) : Bool := Lv.fit (L.getD k (0, 0)).2 && (!decide ((L.getD k (0, 0)).2 = 2) && (decide (k = 0) || decide ((L.getD (k - 1) (0, 0)).1 < (L.getD k (0, 0)).1)))
def fitB (L : List (Int × Int)) : Bool := (List.range L.length).all (okAt L)
theorem fitB_no (h : k < L.length) (e : okAt L k = false) : fitB L = false := by
 unfold fitB
 rw [List.all_eq_false]
 exact ⟨k, List.mem_range.2 h, by simp [e]⟩
theorem fitB_yes (h : ∀ k, k < L.length → okAt L k = true) : fitB L = true := by
 unfold fitB
 rw [List.all_eq_true]
 exact fun k hk => h k (List.mem_range.1 hk)
variable {x y : Int}
theorem okAt_lev (e : L.getD k (0, 0) = (x, y)) (h : Lv.fit y = false) : okAt L k = false := by
 unfold okAt; rw [e]; simp [h]
theorem okAt_two (e : L.getD k (0, 0) = (x, y)) (h : y = 2) : okAt L k = false := by
 unfold okAt; rw [e]; simp [h]
theorem okAt_cat {x y x' y' : Int} (e : L.getD k (0, 0) = (x, y)) (e' : L.getD (k - 1) (0, 0) = (x', y')) (hk : 0 < k) (h : x ≤ x') : okAt L k = false := by
 unfold okAt; rw [e, e']
 have h1 : decide (k = 0) = false := by simp; omega
 have h2 : decide (x' < x) = false := by simp; omega
 simp [h1, h2]
theorem okAt_yes {x y x' y' : Int} (e : L.getD k (0, 0) = (x, y)) (hf : Lv.fit y = true) (h2 : ¬ y = 2) (e' : L.getD (k - 1) (0, 0) = (x', y')) (h : x' < x) : okAt L k = true := by
 unfold okAt; rw [e, e']; simp [hf, h2, h]
theorem uLz (e : L.getD 0 (0, 0) = (x, y)) (hf : Lv.fit y = true) (h2 : ¬ y = 2) : okAt L 0 = true := by
 unfold okAt; rw [e]; simp [hf, h2]
theorem all_succ {p : Nat → Bool} (h : ∀ i, i < k → p i = true) (hk : p k = true) : ∀ i, i < k + 1 → p i = true := fun i hi => by
 rcases Nat.lt_or_ge i k with h' | h'
 ·exact h i h'
 ·have : i = k := by omega
  rw [this]; exact hk
theorem eq_succ {p q : Nat → Int × Int} (h : ∀ i, i < k → p i = q i) (hk : p k = q k) : ∀ i, i < k + 1 → p i = q i := fun i hi => by
 rcases Nat.lt_or_ge i k with h' | h'
 ·exact h i h'
 ·have : i = k := by omega
  rw [this]; exact hk
def sameB (A C : List (Int × Int)) : Bool := decide (A = C)
variable {A C : List (Int × Int)}
theorem sameB_len (h : A.length ≠ C.length) : sameB A C = false := by
 unfold sameB; rw [decide_eq_false_iff_not]; exact fun e => h (by rw [e])
theorem sameB_at {p q : Int × Int} (e : A.getD k (0, 0) = p) (f : C.getD k (0, 0) = q) (h : p ≠ q) : sameB A C = false := by
 unfold sameB; rw [decide_eq_false_iff_not]; intro x; rw [x] at e; exact h (e.symm.trans f)
theorem sameB_all (h : A.length = C.length) (k : ∀ i, i < A.length → A.getD i (0, 0) = C.getD i (0, 0)) : sameB A C = true := by
 unfold sameB; rw [decide_eq_true_iff]
 apply List.ext_getElem h
 intro i h1 h2
 have := k i h1
 simpa [List.getD_eq_getElem?_getD, List.getElem?_eq_getElem h1, List.getElem?_eq_getElem h2] using this
theorem sameB_refl (A : List (Int × Int)) : sameB A A = true := by unfold sameB; simp
variable {r : List (Int × Int)}
theorem Lab.head {n cap B : Nat} {p : Int × Int} (h : Lab B w ao n cap (p :: r)) :
  ∃ b off, ao = some ⟨b, off, none⟩ ∧ b < B ∧ w.cell? ⟨b, off, none⟩ = some (.int .u64 p.1) ∧ w.cell? ⟨b, off + 1, none⟩ = some (.int .i64 p.2) ∧ n = r.length + 1 := by
 obtain ⟨h1, h2, h3, h4⟩ := h
 have hn : n = r.length + 1 := by simpa using h1.symm
 obtain ⟨b, off, e, hb, hc⟩ := h4 (by omega)
 have h0 := hc 0 (by omega)
 simp at h0
 exact ⟨b, off, e, hb, h0.1, h0.2, hn⟩
theorem LabD.tail {b off n cap : Nat} {p : Int × Int} (h : LabD D w (some ⟨b, off, none⟩) n cap (p :: r)) (ha : ao = some ⟨b, off + 2, none⟩ ∨ ao = some ⟨b, off, none⟩ ∧ r.length = 0) : LabD D w ao r.length (cap - 1) r := by
 obtain ⟨h1, h2, h3, h4⟩ := h
 have hn : n = r.length + 1 := by simpa using h1.symm
 refine ⟨rfl, by omega, ⟨by omega, fun hz => by rcases ha with ha | ha; rw [ha] at hz; cases hz; rw [ha.1] at hz; cases hz⟩, fun hr => ?_⟩
 obtain ⟨b', off', e, hb, hc⟩ := h4 (by omega)
 simp only [Option.some.injEq, Addr.mk.injEq, and_true] at e
 obtain ⟨rfl, rfl⟩ := e
 refine ⟨b, off + 2, by rcases ha with ha | ha; exact ha; omega, hb, fun i hi => ?_⟩
 have := hc (i + 1) (by omega)
 have e1 : off + (i + 1) * 2 = off + 2 + i * 2 := by omega
 rw [e1] at this
 simpa using this
theorem Lab.empty {n cap B : Nat} (h : Lab B w ao n cap []) : n = 0 := by simpa using h.1.symm
def wBz : List (Int × Int) → Int → Int
 | [], _ => 2
 | p :: _, c => if p.1 = c then p.2 else 2
def q3z : List (Int × Int) → Int → List (Int × Int)
 | [], _ => []
 | p :: r, c => if p.1 = c then r else p :: r
def lenOf : Value → Nat
 | .slice _ n _ => n
 | _ => 0
def fore : List (Int × Int) → List (Int × Int) → Int
 | [], [] => 0
 | p :: _, [] => p.1
 | [], q :: _ => q.1
 | p :: _, q :: _ => if p.1 < q.1 then p.1 else q.1
end
section
open Go.ChangeShapes Go.WideShapes Go.ChangeAt Go.RowKit
theorem next {w a b : World} (h : Below w.heap.size w a) (k : Below a.heap.size a b) : Below w.heap.size w b := btz h k
theorem fit_any (n : Int) (w : World) : Calls prog 184 #[.int .i64 n] w fun e w' => e = .returned (.bool (Lv.fit n)) ∧ w' = w := by
 by_cases h0 : 0 ≤ n
 ·by_cases h5 : n ≤ 5
  ·have hf : Lv.fit n = true := by simp [Lv.fit, h0, h5]
   rw [hf]
   go_enter func184, ntmps184
   go_wp2
   go_ret
   exact ⟨rfl, rfl⟩
  ·have hf : Lv.fit n = false := by simp [Lv.fit, h0, h5]
   rw [hf]
   go_enter func184, ntmps184
   go_wp2
   go_ret
   exact ⟨rfl, rfl⟩
 ·have hf : Lv.fit n = false := by simp [Lv.fit, h0]
  rw [hf]
  go_enter func184, ntmps184
  go_wp2
  go_ret
  exact ⟨rfl, rfl⟩
theorem j3z (n : Int) (w : World) : Calls prog 172 #[.int .i64 n] w fun e w' => e = .returned (.int .i64 (Lv.lv n)) ∧ w' = w := by
 by_cases h : 0 ≤ n ∧ n ≤ 5
 ·have hf : Lv.fit n = true := by simp [Lv.fit, h]
  have hl : Lv.lv n = n := Lv.lv_of h.1 h.2
  rw [hl]
  clear h hl
  go_enter func172, ntmps172
  go_wp2_with (go_at_call 184; refine (fit_any _ _).mono ?_; rintro e w' ⟨rfl, rfl⟩)
  go_ret
  exact ⟨rfl, rfl⟩
 ·have hf : Lv.fit n = false := by simp [Lv.fit, h]
  have hl : Lv.lv n = 2 := Lv.lv_no h
  rw [hl]
  clear h hl
  go_enter func172, ntmps172
  go_wp2_with (go_at_call 184; refine (fit_any _ _).mono ?_; rintro e w' ⟨rfl, rfl⟩)
  go_ret
  exact ⟨rfl, rfl⟩
theorem uVz (a b : Int) (w : World) : Calls prog 156 #[.int .i64 a, .int .i64 b] w fun e w' => e = .returned (.bool (Lv.leq a b)) ∧ w' = w := by
 unfold Lv.leq
 go_enter func156, ntmps156
 go_wp2_with (go_at_call 172; refine (j3z _ _).mono ?_; rintro e w' ⟨rfl, rfl⟩)
 go_ret
 exact ⟨rfl, rfl⟩
theorem uyz (n : Int) (w : World) : Calls prog 190 #[.int .i64 n] w fun e w' => e = .returned (.int .i64 (Lv.raise n)) ∧ w' = w := by
 by_cases h : n = 0
 ·subst h
  have hr : Lv.raise 0 = 5 := by decide
  rw [hr]
  go_enter func190, ntmps190
  go_wp2
  go_ret
  exact ⟨rfl, rfl⟩
 ·have hn : (n == 0) = false := by simpa using h
  have hr : Lv.raise n = Lv.lv n := by unfold Lv.raise Lv.lv; split <;> simp_all
  rw [hr]
  clear h hr
  go_enter func190, ntmps190
  go_wp2_with (go_at_call 172; refine (j3z _ _).mono ?_; rintro e w' ⟨rfl, rfl⟩)
  go_ret
  exact ⟨rfl, rfl⟩
theorem j1z (n : Int) (w : World) : Calls prog 114 #[.int .i64 n] w fun e w' => e = .returned (.int .i64 (Lv.lv n)) ∧ w' = w := by
 by_cases h0 : n < 0
 ·have hl : Lv.lv n = 2 := Lv.lv_no (by omega)
  rw [hl]
  clear hl
  go_enter func114, ntmps114
  go_wp2
  go_ret
  exact ⟨rfl, rfl⟩
 ·by_cases h5 : 5 < n
  ·have hl : Lv.lv n = 2 := Lv.lv_no (by omega)
   rw [hl]
   clear hl
   go_enter func114, ntmps114
   go_wp2
   go_ret
   exact ⟨rfl, rfl⟩
  ·have hl : Lv.lv n = n := Lv.lv_of (by omega) (by omega)
   rw [hl]
   clear hl
   go_enter func114, ntmps114
   go_wp2
   go_ret
   exact ⟨rfl, rfl⟩
theorem rfit_any (n : Int) (w : World) : Calls prog 137 #[.int .i64 n] w fun e w' => e = .returned (.bool (Lv.fit n)) ∧ w' = w := by
 by_cases h0 : 0 ≤ n
 ·by_cases h5 : n ≤ 5
  ·have hf : Lv.fit n = true := by simp [Lv.fit, h0, h5]
   rw [hf]
   go_enter func137, ntmps137
   go_wp2
   go_ret
   exact ⟨rfl, rfl⟩
  ·have hf : Lv.fit n = false := by simp [Lv.fit, h0, h5]
   rw [hf]
   go_enter func137, ntmps137
   go_wp2
   go_ret
   exact ⟨rfl, rfl⟩
 ·have hf : Lv.fit n = false := by simp [Lv.fit, h0]
  rw [hf]
  go_enter func137, ntmps137
  go_wp2
  go_ret
  exact ⟨rfl, rfl⟩
theorem kaz (a b : Int) (w : World) : Calls prog 86 #[.int .i64 a, .int .i64 b] w fun e w' => e = .returned (.bool (Lv.leq a b)) ∧ w' = w := by
 unfold Lv.leq
 go_enter func86, ntmps86
 go_wp2_with (go_at_call 114; refine (j1z _ _).mono ?_; rintro e w' ⟨rfl, rfl⟩)
 go_ret
 exact ⟨rfl, rfl⟩
theorem jTz (a b : Int) (w : World) : Calls prog 119 #[.int .i64 a, .int .i64 b] w fun e w' => e = .returned (.int .i64 (Lv.join a b)) ∧ w' = w := by
 by_cases h : Lv.lv b < Lv.lv a
 ·have hj : Lv.join a b = Lv.lv a := by unfold Lv.join; rw [if_neg (by omega)]
  rw [hj]
  clear hj
  go_enter func119, ntmps119
  go_wp2_with (go_at_call 114; refine (j1z _ _).mono ?_; rintro e w' ⟨rfl, rfl⟩)
  go_ret
  exact ⟨rfl, rfl⟩
 ·have hj : Lv.join a b = Lv.lv b := by unfold Lv.join; split <;> omega
  rw [hj]
  clear hj
  go_enter func119, ntmps119
  go_wp2_with (go_at_call 114; refine (j1z _ _).mono ?_; rintro e w' ⟨rfl, rfl⟩)
  go_ret
  exact ⟨rfl, rfl⟩
theorem yvz (n : Int) (w : World) : Calls prog 120 #[.int .i64 n] w fun e w' => e = .returned (.int .i64 (Lv.raise n)) ∧ w' = w := by
 by_cases h : Lv.lv n = 0
 ·have hr : Lv.raise n = 5 := by unfold Lv.raise; rw [if_pos h]
  have hn : (Lv.lv n == 0) = true := by simpa using h
  rw [hr]
  clear h hr
  go_enter func120, ntmps120
  go_wp2_with (go_at_call 114; refine (j1z _ _).mono ?_; rintro e w' ⟨rfl, rfl⟩)
  go_ret
  exact ⟨rfl, rfl⟩
 ·have hr : Lv.raise n = Lv.lv n := by unfold Lv.raise; rw [if_neg h]
  have hn : (Lv.lv n == 0) = false := by simpa using h
  rw [hr]
  clear h hr
  go_enter func120, ntmps120
  go_wp2_with (go_at_call 114; refine (j1z _ _).mono ?_; rintro e w' ⟨rfl, rfl⟩)
  go_ret
  exact ⟨rfl, rfl⟩
end
section
open Go.ChangeShapes Go.WideShapes Go.ChangeAt Go.RowKit
theorem xkz {B : Nat} {w : World} {ao : Option Addr} {n cap : Nat} {L : List (Int × Int)} (c : Int) (hL : Lab B w ao n cap L) :
  Calls prog 87 #[.slice ao n cap, .int .u64 c] w fun e w' => e = .returned (.int .i64 (get L c)) ∧ w' = w := by
 have hn := hL.1
 have hnc := hL.2.1
 have hcm := hL.2.2.1.1
 go_enter func87, ntmps87
 go_wp2
 go_loop [5] (fun i => ∃ k : Nat, k ≤ n ∧ i = .int .i64 k ∧ get (L.drop k) c = get L c) (fun i => n - (intOf i).toNat)
 case atStart => exact ⟨0, Nat.zero_le _, rfl, by simp⟩
 case round =>
  obtain ⟨k, hk, rfl, hg⟩ := hrel
  by_cases hkn : k < n
  ·obtain ⟨b, off, x, y, rfl, hbB, d0, d1, hxy⟩ := hL.at (Below.refl _ _) hkn
   clear hL
   by_cases hxc : x = c
   ·have hr : Hid (get L c = y) := hg.symm.trans (get_hit (by omega) hxy.out hxc)
    clear hg
    go_wp2
    go_ret
    exact ⟨by rw [hr.out]; rfl, rfl⟩
   ·have hr : Hid (get (L.drop (k + 1)) c = get L c) := (get_miss (by omega) hxy.out hxc).symm.trans hg
    clear hg
    go_wp2
    go_round
    case rel => exact ⟨k + 1, by omega, by go_num, hr.out⟩
    case measure => simp [intOf]; omega
  ·have hr : Hid (get L c = 2) := hg.symm.trans (get_end (by omega) c)
   clear hg hL
   go_wp2
   go_ret
   exact ⟨by rw [hr.out]; rfl, rfl⟩
end
end Go.Proofs.YtdeddhojjolihaaGreat
