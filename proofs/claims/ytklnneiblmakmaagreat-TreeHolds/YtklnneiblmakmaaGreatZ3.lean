/-
 PROVED HERE: what it means that a slice of pairs lies in memory of the call's own (no Go text but the types' table); what l. What is asked stands at each.
-/
import Derived.Test.YtklnneiblmakmaaGreatRows
import Derived.WalkKit
import Derived.Below
import Derived.OwnWalk
import Derived.Laws.AppendOwn
import Derived.Laws.OwnMore
import Derived.Maps.AppendAt
import Derived.ProofKit
import Derived.OpenShut
import Derived.WalkSmall
import Derived.Deep.QuietTactic
import Derived.BigQuiet
import Derived.Test.YtklnneiblmakmaaGreatZ1
import Derived.Test.YtklnneiblmakmaaGreatZ2
namespace Go.Proofs.YtklnneiblmakmaaGreat
set_option maxRecDepth 100000
set_option maxHeartbeats 8000000
set_option linter.unusedVariables false
open Go.Proofs.Tryz
section
open Go.RowKit
def cellsOf : List (Int × Int) → List Value
 | [] => []
 | p :: r => .int .u64 p.1 :: .int .i64 p.2 :: cellsOf r
theorem qTz (A C : List (Int × Int)) : cellsOf (A ++ C) = cellsOf A ++ cellsOf C := by
 induction A with
 | nil => rfl
 | cons p r ih => simp [cellsOf, ih]
theorem yZz (A : List (Int × Int)) : ∀ i, i < A.length → (cellsOf A)[i * 2]? = some (.int .u64 (A.getD i (0, 0)).1) ∧ (cellsOf A)[i * 2 + 1]? = some (.int .i64 (A.getD i (0, 0)).2) := by
 induction A with
 | nil => intro i hi; exact absurd hi (by simp)
 | cons p r ih =>
  intro i hi
  cases i with
  | zero => simp [cellsOf]
  | succ j =>
   have h := ih j (by simpa using hi)
   have e1 : (j + 1) * 2 = j * 2 + 1 + 1 := by omega
   have e2 : (j + 1) * 2 + 1 = j * 2 + 1 + 1 + 1 := by omega
   rw [e1]
   simpa [cellsOf] using h
def OwnL (base : Nat) (w : World) (ao : Option Addr) (n cap : Nat) (L : List (Int × Int)) : Prop :=
 L.length = n ∧ w.ownsRow base 89 2 (.slice ao n cap) n (cellsOf L)
theorem OwnL.nil (base : Nat) (w : World) : OwnL base w none 0 0 [] := ⟨rfl, World.ownsRow_nil _ _ _ _⟩
theorem OwnL.lab {base : Nat} {w : World} {ao : Option Addr} {n cap : Nat} {L : List (Int × Int)} (h : OwnL base w ao n cap L) : Lab w.heap.size w ao n cap L := by
 obtain ⟨hl, hr⟩ := h
 have hr' := hr
 obtain ⟨_, ⟨hv, hn⟩ | ⟨g, cap', cur, hv, hb, hh, hnc, hm, hs, ht⟩⟩ := hr
 ·simp only [Value.slice.injEq] at hv
  obtain ⟨rfl, rfl, rfl⟩ := hv
  exact ⟨hl, by omega, ⟨by omega, fun _ => rfl⟩, fun h => absurd h (by omega)⟩
 ·simp only [Value.slice.injEq] at hv
  obtain ⟨rfl, _, rfl⟩ := hv
  refine ⟨hl, hnc, ⟨by unfold maxLen at hm; omega, fun hz => by cases hz⟩, fun _ => ⟨g, 0, rfl, (Array.getElem?_eq_some_iff.1 hh).1, fun i hi => ?_⟩⟩
  have hc := yZz L i (by omega)
  rw [Nat.zero_add]
  exact ⟨(hr'.cellAt (i * 2) (by omega)).trans hc.1, (hr'.cellAt (i * 2 + 1) (by omega)).trans hc.2⟩
theorem q7z (w : World) (x y : Value) (t : TypeId) : ∀ j u, [x, y][j]? = some u → (w.alloc (.cells #[x, y] t)).cell? ((⟨w.heap.size, 0, none⟩ : Addr).add j) = some u := by
 intro j u hj
 match j, hj with
 | 0, hj => simp at hj; subst hj; simp [Addr.add]
 | 1, hj => simp at hj; subst hj; simp [Addr.add]
theorem q5z {W : World} {base : Nat} {e : TypeId} {size : Nat} {v : Value} {k : Nat} {xs : List Value} (h : W.ownsRow base e size v (k + 1) xs) : ∃ g cap, v = .slice (some ⟨g, 0, none⟩) (k + 1) cap := by
 rcases h.2 with ⟨_, h0⟩ | ⟨g, cap, _, rfl, _⟩
 ·omega
 ·exact ⟨g, cap, rfl⟩
def snoc (L : List (Int × Int)) (c l : Int) : List (Int × Int) := if l = 2 then L else L ++ [(c, l)]
theorem vPz {L : List (Int × Int)} {c l : Int} (h : l = 2) : snoc L c l = L := by unfold snoc; rw [if_pos h]
theorem vQz {L : List (Int × Int)} {c l : Int} (h : ¬ l = 2) : snoc L c l = L ++ [(c, l)] := by unfold snoc; rw [if_neg h]
theorem snoc_len (L : List (Int × Int)) (c l : Int) : (snoc L c l).length ≤ L.length + 1 := by unfold snoc; split <;> simp
end
section
open Go.ChangeShapes Go.WideShapes Go.ChangeAt Go.RowKit
theorem u8z : (prog.info? 22).map (fun i => (i.zero, i.size, i.bytes)) = some (some (.int .u64 0), 1, 8) := by kernel_rfl
def Cts (B : Nat) (w : World) (ao : Option Addr) (n cap : Nat) (C : List Int) : Prop :=
 C.length = n ∧ n ≤ cap ∧ cap ≤ 9223372036854775807 ∧
 (0 < n → ∃ b off, ao = some ⟨b, off, none⟩ ∧ b < B ∧ ∀ i, i < n → w.cell? ⟨b, off + i, none⟩ = some (.int .u64 (C.getD i 0)))
theorem Cts.later {w w' : World} {ao : Option Addr} {n cap : Nat} {L : List Int} {B : Nat} (h : Cts B w ao n cap L) (k : Below B w w') : Cts B w' ao n cap L := by
 obtain ⟨h1, h2, h3, h4⟩ := h
 refine ⟨h1, h2, h3, fun hn => ?_⟩
 obtain ⟨b, off, e, hb, hc⟩ := h4 hn
 exact ⟨b, off, e, hb, fun i hi => (k.cell (p := ⟨b, off + i, none⟩) hb).trans (hc i hi)⟩
theorem Cts.next {w w' : World} {ao : Option Addr} {n cap : Nat} {L : List Int} (h : Cts w.heap.size w ao n cap L) (k : Below w.heap.size w w') : Cts w'.heap.size w' ao n cap L := by
 obtain ⟨h1, h2, h3, h4⟩ := h.later k
 refine ⟨h1, h2, h3, fun hn => ?_⟩
 obtain ⟨b, off, e, hb, hc⟩ := h4 hn
 exact ⟨b, off, e, Nat.lt_of_lt_of_le hb k.size, hc⟩
theorem Cts.of_row {base : Nat} {w : World} {v : Value} {C : List Int} (h : w.ownsRow base 22 1 v C.length (C.map (Value.int .u64))) : ∃ ao cap, v = .slice ao C.length cap ∧ Cts w.heap.size w ao C.length cap C := by
 have h' := h
 rcases h.2 with ⟨rfl, h0⟩ | ⟨g, cap, cur, rfl, hb, hh, hnc, hm, hs, ht⟩
 ·exact ⟨none, 0, by rw [h0], rfl, by omega, by omega, fun hn => absurd hn (by omega)⟩
 ·refine ⟨_, _, rfl, rfl, hnc, by unfold maxLen at hm; omega, fun _ => ⟨g, 0, rfl, (Array.getElem?_eq_some_iff.1 hh).1, fun i hi => ?_⟩⟩
  rw [Nat.zero_add, h'.cellAt i (by omega)]
  simp [List.getD_eq_getElem?_getD, List.getElem?_eq_getElem hi]
def ownK (L : List (Int × Int)) (k : Nat) : List Int := ((L.take k).filter fun p => decide (p.2 = 0)).map Prod.fst
def wOz (L : List (Int × Int)) : List Int := (L.filter fun p => decide (p.2 = 0)).map Prod.fst
theorem v4z {L : List (Int × Int)} {k : Nat} (h : L.length ≤ k) : ownK L k = wOz L := by unfold ownK wOz; rw [List.take_of_length_le h]
theorem jPz {L : List (Int × Int)} {k : Nat} {x y : Int} (h : k < L.length) (e : L.getD k (0, 0) = (x, y)) : ownK L (k + 1) = ownK L k ++ (if y = 0 then [x] else []) := by
 have e' : L[k] = (x, y) := by simpa [List.getD_eq_getElem?_getD, List.getElem?_eq_getElem h] using e
 unfold ownK
 rw [List.take_succ_eq_append_getElem h, e', List.filter_append, List.map_append]
 by_cases hy : y = 0 <;> simp [hy]
theorem v3z {L : List (Int × Int)} {k : Nat} {x y : Int} (h : k < L.length) (e : L.getD k (0, 0) = (x, y)) (hy : y = 0) : ownK L (k + 1) = ownK L k ++ [x] := by rw [jPz h e, if_pos hy]
theorem jQz {L : List (Int × Int)} {k : Nat} {x y : Int} (h : k < L.length) (e : L.getD k (0, 0) = (x, y)) (hy : ¬ y = 0) : ownK L (k + 1) = ownK L k := by rw [jPz h e, if_neg hy]; simp
theorem v2z (L : List (Int × Int)) (k : Nat) : (ownK L k).length ≤ k := by
 unfold ownK
 rw [List.length_map]
 exact Nat.le_trans (List.length_filter_le _ _) (by rw [List.length_take]; omega)
theorem uMz {w : World} {ao : Option Addr} {n cap : Nat} {L : List (Int × Int)} (hL : Lab w.heap.size w ao n cap L) (hk : n < 274877906944) :
  Calls prog 142 #[.slice ao n cap] w fun e w' => ∃ ao1 n1 cap1, e = .returned (.slice ao1 n1 cap1) ∧ Cts w'.heap.size w' ao1 n1 cap1 (wOz L) ∧ Below w.heap.size w w' := by
 obtain ⟨i0, hi, hz0, hz1, hz2⟩ := info_parts u8z
 have hn := hL.1
 have hnc := hL.2.1
 have hcm := hL.2.2.1.1
 go_enter func142, ntmps142
 go_wp2
 go_loopw [3, 8] (fun v i wr => ∃ k : Nat, k ≤ n ∧ i = .int .i64 k ∧ wr.ownsRow w.heap.size 22 1 v (ownK L k).length ((ownK L k).map (Value.int .u64)) ∧ Below w.heap.size w wr) (fun _ i _ => n - (intOf i).toNat)
 case atStart => exact ⟨0, Nat.zero_le _, rfl, World.ownsRow_nil _ _ _ _, Below.refl _ _⟩
 case round =>
  obtain ⟨k, hkn, rfl, hrow, hb⟩ := hrel
  have hlk := v2z L k
  by_cases hlt : k < n
  ·obtain ⟨b, off, x, y, rfl, hbB, d0, d1, hxy⟩ := hL.at hb hlt
   have hbw : b < wr.heap.size := Nat.lt_of_lt_of_le hbB hb.size
   clear hL
   by_cases hy : y = 0
   ·have hs : Hid (ownK L (k + 1) = ownK L k ++ [x]) := v3z (by omega) hxy.out hy
    subst hy
    go_wp2_with (at_builtin; refine wpList_append_own _ rfl _ _ 28 rfl w.heap.size 22 i0 (.int .u64 0) 1 8 underlying28 hi hz0 hz1 hz2 rfl (by decide) _ _ _ rfl ((hrow.alloc _).alloc _) ⟨wr.heap.size + 1, 0, none⟩ 1 1 [.int .u64 x] rfl rfl ?c1 (by simp [Value.oneCell']) (by unfold maxLen; omega) (by omega) (by have := hb.size; simp; omega) ?_)
    case c1 => have := cell_one_new (wr.alloc (.cells #[.int .u64 x, .int .i64 0] 89)) (.int .u64 x) 22; simpa using this
    intro v' w1 hown' hgrow _
    obtain ⟨g', cap', rfl⟩ := q5z hown'
    have hb2 : Below w.heap.size w w1 := ((hb.alloc hb.size _).alloc (by have := hb.size; simp; omega) _).grown hgrow (by have := hb.size; simp; omega) (fun j e => (hrow.lt j e).1)
    go_wp2
    go_roundw
    case rel => exact ⟨k + 1, by omega, by go_num, by rw [hs.out]; simpa using hown', hb2⟩
    case measure => simp [intOf]; omega
   ·have hs : Hid (ownK L (k + 1) = ownK L k) := jQz (by omega) hxy.out hy
    have hy0 : (y == 0) = false := by simpa using hy
    go_wp2
    go_roundw
    case rel => exact ⟨k + 1, by omega, by go_num, by rw [hs.out]; exact hrow.alloc _, hb.alloc hb.size _⟩
    case measure => simp [intOf]; omega
  ·have hs := v4z (L := L) (k := k) (by omega)
   rw [hs] at hrow
   obtain ⟨aoL, capL, rfl, hcts⟩ := Cts.of_row hrow
   clear hL hs
   go_wp2
   go_ret
   exact ⟨_, _, _, rfl, hcts, hb⟩
end
end Go.Proofs.YtklnneiblmakmaaGreat
