/-
 PROVED HERE: what it means that a slice of pairs lies in memory of the call's own (no Go text but the types' table); what l. What is asked stands at each.
-/
import Derived.Test.YtdeddhojjolihaaGreatRows
import Derived.WalkKit
import Derived.Below
import Derived.OwnWalk
import Derived.Laws.AppendOwn
import Derived.Laws.OwnMore
import Derived.Maps.AppendAt
import Derived.ProofKit
import Derived.OpenShut
import Derived.WalkSmall
import Derived.Deep.QuietTactic
import Derived.BigQuiet
import Derived.Test.YtdeddhojjolihaaGreatZ1
namespace Go.Proofs.YtdeddhojjolihaaGreat
set_option maxRecDepth 100000
set_option maxHeartbeats 8000000
set_option linter.unusedVariables false
open Go.Proofs.Tryz
section
open Go.RowKit
def cellsOf : List (Int × Int) → List Value
 | [] => []
 | p :: r => .int .u64 p.1 :: .int .i64 p.2 :: cellsOf r
theorem qWz (A C : List (Int × Int)) : cellsOf (A ++ C) = cellsOf A ++ cellsOf C := by
 induction A with
 | nil => rfl
 | cons p r ih => simp [cellsOf, ih]
theorem yPz (A : List (Int × Int)) : ∀ i, i < A.length → (cellsOf A)[i * 2]? = some (.int .u64 (A.getD i (0, 0)).1) ∧ (cellsOf A)[i * 2 + 1]? = some (.int .i64 (A.getD i (0, 0)).2) := by
 induction A with
 | nil => intro i hi; exact absurd hi (by simp)
 | cons p r ih =>
  intro i hi
  cases i with
  | zero => simp [cellsOf]
  | succ j =>
   have h := ih j (by simpa using hi)
   have e1 : (j + 1) * 2 = j * 2 + 1 + 1 := by omega
   have e2 : (j + 1) * 2 + 1 = j * 2 + 1 + 1 + 1 := by omega
   rw [e1]
   simpa [cellsOf] using h
def OwnL (base : Nat) (w : World) (ao : Option Addr) (n cap : Nat) (L : List (Int × Int)) : Prop :=
 L.length = n ∧ w.ownsRow base 111 2 (.slice ao n cap) n (cellsOf L)
theorem OwnL.nil (base : Nat) (w : World) : OwnL base w none 0 0 [] := ⟨rfl, World.ownsRow_nil _ _ _ _⟩
variable {L : List (Int × Int)}
theorem OwnL.lab {base : Nat} {w : World} {ao : Option Addr} {n cap : Nat} (h : OwnL base w ao n cap L) : Lab w.heap.size w ao n cap L := by
 obtain ⟨hl, hr⟩ := h
 have hr' := hr
 obtain ⟨_, ⟨hv, hn⟩ | ⟨g, cap', cur, hv, hb, hh, hnc, hm, hs, ht⟩⟩ := hr
 ·simp only [Value.slice.injEq] at hv
  obtain ⟨rfl, rfl, rfl⟩ := hv
  exact ⟨hl, by omega, ⟨by omega, fun _ => rfl⟩, fun h => absurd h (by omega)⟩
 ·simp only [Value.slice.injEq] at hv
  obtain ⟨rfl, _, rfl⟩ := hv
  refine ⟨hl, hnc, ⟨by unfold maxLen at hm; omega, fun hz => by cases hz⟩, fun _ => ⟨g, 0, rfl, (Array.getElem?_eq_some_iff.1 hh).1, fun i hi => ?_⟩⟩
  have hc := yPz L i (by omega)
  rw [Nat.zero_add]
  exact ⟨(hr'.cellAt (i * 2) (by omega)).trans hc.1, (hr'.cellAt (i * 2 + 1) (by omega)).trans hc.2⟩
theorem waz (w : World) (x y : Value) (t : TypeId) : ∀ j u, [x, y][j]? = some u → (w.alloc (.cells #[x, y] t)).cell? ((⟨w.heap.size, 0, none⟩ : Addr).add j) = some u := by
 intro j u hj
 match j, hj with
 | 0, hj => simp at hj; subst hj; simp [Addr.add]
 | 1, hj => simp at hj; subst hj; simp [Addr.add]
theorem whz {W : World} {base : Nat} {e : TypeId} {size : Nat} {v : Value} {k : Nat} {xs : List Value} (h : W.ownsRow base e size v (k + 1) xs) : ∃ g cap, v = .slice (some ⟨g, 0, none⟩) (k + 1) cap := by
 rcases h.2 with ⟨_, h0⟩ | ⟨g, cap, _, rfl, _⟩
 ·omega
 ·exact ⟨g, cap, rfl⟩
def snoc (L : List (Int × Int)) (c l : Int) : List (Int × Int) := if l = 2 then L else L ++ [(c, l)]
theorem vSz {c l : Int} (h : l = 2) : snoc L c l = L := by unfold snoc; rw [if_pos h]
theorem vTz {c l : Int} (h : ¬ l = 2) : snoc L c l = L ++ [(c, l)] := by unfold snoc; rw [if_neg h]
theorem snoc_len (L : List (Int × Int)) (c l : Int) : (snoc L c l).length ≤ L.length + 1 := by unfold snoc; split <;> simp
end
section
open Go.ChangeShapes Go.WideShapes Go.ChangeAt Go.RowKit
theorem infoU64 : (prog.info? 22).map (fun i => (i.zero, i.size, i.bytes)) = some (some (.int .u64 0), 1, 8) := by kernel_rfl
def Cts (B : Nat) (w : World) (ao : Option Addr) (n cap : Nat) (C : List Int) : Prop :=
 C.length = n ∧ n ≤ cap ∧ cap ≤ 9223372036854775807 ∧
 (0 < n → ∃ b off, ao = some ⟨b, off, none⟩ ∧ b < B ∧ ∀ i, i < n → w.cell? ⟨b, off + i, none⟩ = some (.int .u64 (C.getD i 0)))
theorem Cts.later {w w' : World} {ao : Option Addr} {n cap : Nat} {L : List Int} {B : Nat} (h : Cts B w ao n cap L) (k : Below B w w') : Cts B w' ao n cap L := by
 obtain ⟨h1, h2, h3, h4⟩ := h
 refine ⟨h1, h2, h3, fun hn => ?_⟩
 obtain ⟨b, off, e, hb, hc⟩ := h4 hn
 exact ⟨b, off, e, hb, fun i hi => (k.cell (p := ⟨b, off + i, none⟩) hb).trans (hc i hi)⟩
theorem Cts.next {w w' : World} {ao : Option Addr} {n cap : Nat} {L : List Int} (h : Cts w.heap.size w ao n cap L) (k : Below w.heap.size w w') : Cts w'.heap.size w' ao n cap L := by
 obtain ⟨h1, h2, h3, h4⟩ := h.later k
 refine ⟨h1, h2, h3, fun hn => ?_⟩
 obtain ⟨b, off, e, hb, hc⟩ := h4 hn
 exact ⟨b, off, e, Nat.lt_of_lt_of_le hb k.size, hc⟩
theorem Cts.of_row {base : Nat} {w : World} {v : Value} {C : List Int} (h : w.ownsRow base 22 1 v C.length (C.map (Value.int .u64))) : ∃ ao cap, v = .slice ao C.length cap ∧ Cts w.heap.size w ao C.length cap C := by
 have h' := h
 rcases h.2 with ⟨rfl, h0⟩ | ⟨g, cap, cur, rfl, hb, hh, hnc, hm, hs, ht⟩
 ·exact ⟨none, 0, by rw [h0], rfl, by omega, by omega, fun hn => absurd hn (by omega)⟩
 ·refine ⟨_, _, rfl, rfl, hnc, by unfold maxLen at hm; omega, fun _ => ⟨g, 0, rfl, (Array.getElem?_eq_some_iff.1 hh).1, fun i hi => ?_⟩⟩
  rw [Nat.zero_add, h'.cellAt i (by omega)]
  simp [List.getD_eq_getElem?_getD, List.getElem?_eq_getElem hi]
def ownK (L : List (Int × Int)) (k : Nat) : List Int := ((L.take k).filter fun p => decide (p.2 = 0)).map Prod.fst
def xFz (L : List (Int × Int)) : List Int := (L.filter fun p => decide (p.2 = 0)).map Prod.fst
variable {L : List (Int × Int)} {k : Nat}
theorem ownK_all (h : L.length ≤ k) : ownK L k = xFz L := by unfold ownK xFz; rw [List.take_of_length_le h]
variable {x y : Int}
theorem jZz (h : k < L.length) (e : L.getD k (0, 0) = (x, y)) : ownK L (k + 1) = ownK L k ++ (if y = 0 then [x] else []) := by
 have e' : L[k] = (x, y) := by simpa [List.getD_eq_getElem?_getD, List.getElem?_eq_getElem h] using e
 unfold ownK
 rw [List.take_succ_eq_append_getElem h, e', List.filter_append, List.map_append]
 by_cases hy : y = 0 <;> simp [hy]
theorem ownK_hit (h : k < L.length) (e : L.getD k (0, 0) = (x, y)) (hy : y = 0) : ownK L (k + 1) = ownK L k ++ [x] := by rw [jZz h e, if_pos hy]
theorem uIz (h : k < L.length) (e : L.getD k (0, 0) = (x, y)) (hy : ¬ y = 0) : ownK L (k + 1) = ownK L k := by rw [jZz h e, if_neg hy]; simp
theorem ownK_len (L : List (Int × Int)) (k : Nat) : (ownK L k).length ≤ k := by
 unfold ownK
 rw [List.length_map]
 exact Nat.le_trans (List.length_filter_le _ _) (by rw [List.length_take]; omega)
end
section
open Go.ChangeShapes Go.WideShapes Go.ChangeAt Go.RowKit
theorem juz : (prog.info? 111).map (fun i => (i.zero, i.size, i.bytes)) = some (some (.agg #[.int .u64 0, .int .i64 0]), 2, 16) := by kernel_rfl
variable {w : World} {L : List (Int × Int)}
theorem vNz {base : Nat} {ao : Option Addr} {n cap : Nat} (c l : Int) (hL : OwnL base w ao n cap L) (hb : base ≤ w.heap.size) (hn : n < 1099511627776) :
  Calls prog 194 #[.slice ao n cap, .int .u64 c, .int .i64 l] w fun e w' => ∃ ao' n' cap', e = .returned (.slice ao' n' cap') ∧ OwnL base w' ao' n' cap' (snoc L c l) ∧ w.grownBy w' (Value.slice ao n cap).ownBlock := by
 obtain ⟨i0, hi, hz0, hz1, hz2⟩ := info_parts juz
 by_cases h2 : l = 2
 ·rw [vSz h2]
  subst h2
  go_enter func194, ntmps194
  go_wp2
  go_ret
  exact ⟨_, _, _, rfl, hL, World.grownBy.refl _ _⟩
 ·rw [vTz h2]
  obtain ⟨hlen, hrow⟩ := hL
  have hl2 : (l == 2) = false := by simpa using h2
  have HR : Hid (L.length = n) := hlen
  clear hlen h2
  go_enter func194, ntmps194
  go_wp2_with (at_builtin; refine wpList_append_own _ rfl _ _ 34 rfl base 111 i0 (.agg #[.int .u64 0, .int .i64 0]) 2 16 underlying34 hi hz0 hz1 hz2 rfl (by decide) _ _ _ rfl (hrow.alloc _) ⟨w.heap.size, 0, none⟩ 1 1 [.int .u64 c, .int .i64 l] rfl rfl (waz _ _ _ _) (by simp [Value.oneCell']) (by unfold maxLen; omega) (by omega) (by simp; omega) ?_; intro v' w1 hown' hgrow _; obtain ⟨g', cap', rfl⟩ := whz hown')
  go_ret
  refine ⟨_, _, _, rfl, ⟨by simp [HR.out], by rw [qWz]; exact hown'⟩, (World.grownBy_alloc _ _ _).trans hgrow⟩
theorem x8z {B : Nat} {ao : Option Addr} {n cap : Nat} (c : Int) (hL : Lab B w ao n cap L) :
  Calls prog 171 #[.slice ao n cap, .int .u64 c] w fun e w' => ∃ ao' n' cap', e = .returned (.tuple #[.int .i64 (wBz L c), .slice ao' n' cap']) ∧ (∀ D w, LabD D w ao n cap L → LabD D w ao' n' cap' (q3z L c)) ∧ ∃ m, w' = w.drewN m := by
 have hn := hL.1
 have hnc := hL.2.1
 have hcm := hL.2.2.1.1
 cases L with
 | nil =>
  have h0 := hL.empty
  subst h0
  clear hn
  go_enter func171, ntmps171
  go_wp2
  go_ret2
  exact ⟨_, _, _, rfl, fun _ _ h => h, 0, rfl⟩
 | cons p r =>
  obtain ⟨b, off, rfl, hbB, d0, d1, hnr⟩ := hL.head
  subst hnr
  clear hn
  by_cases hp : p.1 = c
  ·have e1 : wBz (p :: r) c = p.2 := by simp [wBz, hp]
   have e2 : q3z (p :: r) c = r := by simp [q3z, hp]
   rw [e1, e2]
   clear hL e1 e2
   go_enter func171, ntmps171
   go_wp2
   go_quiet (fail)
   all_goals go_wp2
   all_goals go_ret2
   ·exact ⟨_, _, _, rfl, fun _ _ HL => by (have h : cap = 1 := by omega); subst h; exact HL.tail (.inr ⟨rfl, by omega⟩), _, rfl⟩
   ·exact ⟨_, _, _, rfl, fun _ _ HL => HL.tail (.inl rfl), _, rfl⟩
  ·have e1 : wBz (p :: r) c = 2 := by simp [wBz, hp]
   have e2 : q3z (p :: r) c = p :: r := by simp [q3z, hp]
   rw [e1, e2]
   have hpc : (p.1 == c) = false := by simpa using hp
   clear hL e1 e2
   go_enter func171, ntmps171
   go_wp2
   go_ret2
   exact ⟨_, _, _, rfl, fun _ _ h => h, 0, rfl⟩
theorem x3z {B B' : Nat} {ao ao' : Option Addr} {n n' cap cap' : Nat} {L L' : List (Int × Int)} (hL : Lab B w ao n cap L) (hL' : Lab B' w ao' n' cap' L') (hne : 0 < n + n') :
  Calls prog 170 #[.slice ao n cap, .slice ao' n' cap'] w fun e w' => e = .returned (.int .u64 (fore L L')) ∧ ∃ m, w' = w.drewN m := by
 have hnc := hL.2.1
 have hcm := hL.2.2.1.1
 have hnc' := hL'.2.1
 have hcm' := hL'.2.2.1.1
 cases L with
 | nil =>
  have h0 := hL.empty
  subst h0
  cases L' with
  | nil => exact absurd hL'.empty (by omega)
  | cons q r' =>
   obtain ⟨b, off, rfl, hbB, d0, d1, hnr⟩ := hL'.head
   subst hnr
   clear hL hL' hne
   have hz : ((r'.length : Int) + 1 == 0) = false := by rw [beq_eq_false_iff_ne]; omega
   go_enter func170, ntmps170
   go_wp2
   go_quiet (fail)
   go_wp2
   go_ret
   exact ⟨rfl, _, rfl⟩
 | cons p r =>
  obtain ⟨b, off, rfl, hbB, d0, d1, hnr⟩ := hL.head
  subst hnr
  cases L' with
  | nil =>
   have h0 := hL'.empty
   subst h0
   clear hL hL' hne
   go_enter func170, ntmps170
   go_wp2
   go_quiet (fail)
   go_wp2
   go_ret
   exact ⟨rfl, _, rfl⟩
  | cons q r' =>
   obtain ⟨b', off', rfl, hbB', d0', d1', hnr'⟩ := hL'.head
   subst hnr'
   clear hL hL' hne
   have hz : ((r'.length : Int) + 1 == 0) = false := by rw [beq_eq_false_iff_ne]; omega
   by_cases hpq : p.1 < q.1
   ·have e1 : Hid (fore (p :: r) (q :: r') = p.1) := by show fore (p :: r) (q :: r') = p.1; simp [fore, hpq]
    go_enter func170, ntmps170
    go_wp2
    go_quiet (fail)
    go_wp2
    go_ret
    exact ⟨by rw [e1.out]; rfl, _, rfl⟩
   ·have e1 : Hid (fore (p :: r) (q :: r') = q.1) := by show fore (p :: r) (q :: r') = q.1; simp [fore, hpq]
    go_enter func170, ntmps170
    go_wp2
    go_quiet (fail)
    go_wp2
    go_ret
    exact ⟨by rw [e1.out]; rfl, _, rfl⟩
end
end Go.Proofs.YtdeddhojjolihaaGreat
