/-
 PROVED HERE: what it means that a slice of pairs lies in memory of the call's own (no Go text but the types' table); what l. What is asked stands at each.
-/
import Derived.Test.YtlaagheeemkklaaRows
import Derived.WalkKit
import Derived.Below
import Derived.OwnWalk
import Derived.Laws.AppendOwn
import Derived.Laws.OwnMore
import Derived.Maps.AppendAt
import Derived.ProofKit
import Derived.OpenShut
import Derived.WalkSmall
import Derived.Deep.QuietTactic
import Derived.BigQuiet
import Derived.Test.YtlaagheeemkklaaZ0
import Derived.Test.YtlaagheeemkklaaZ1
namespace Go.Proofs.Ytlaagheeemkklaa
set_option maxRecDepth 100000
set_option maxHeartbeats 8000000
open Go.RowKit

def cellsOf : List (Int × Int) → List Value
 | [] => []
 | p :: r => .int .u64 p.1 :: .int .i64 p.2 :: cellsOf r
theorem ownsRow_two {W : World} {base : Nat} {e : TypeId} {size : Nat} {v : Value} {k : Nat} {xs : List Value} (h : W.ownsRow base e size v (k + 1) xs) : ∃ g cap, v = .slice (some ⟨g, 0, none⟩) (k + 1) cap := by
 rcases h.2 with ⟨_, h0⟩ | ⟨g, cap, _, rfl, _⟩
 ·omega
 ·exact ⟨g, cap, rfl⟩
end Go.Proofs.Ytlaagheeemkklaa
namespace Go.Proofs.Ytlaagheeemkklaa
set_option maxRecDepth 100000
set_option maxHeartbeats 8000000
open Go.ChangeShapes Go.WideShapes Go.ChangeAt Go.RowKit
set_option linter.unusedVariables false

theorem infoU64 : (Try.prog.info? 22).map (fun i => (i.zero, i.size, i.bytes)) = some (some (.int .u64 0), 1, 8) := by kernel_rfl

def Cts (B : Nat) (w : World) (ao : Option Addr) (n cap : Nat) (C : List Int) : Prop :=
 C.length = n ∧ n ≤ cap ∧ cap ≤ 9223372036854775807 ∧
 (0 < n → ∃ b off, ao = some ⟨b, off, none⟩ ∧ b < B ∧ ∀ i, i < n → w.cell? ⟨b, off + i, none⟩ = some (.int .u64 (C.getD i 0)))
theorem Cts.of_row {base : Nat} {w : World} {v : Value} {C : List Int} (h : w.ownsRow base 22 1 v C.length (C.map (Value.int .u64))) : ∃ ao cap, v = .slice ao C.length cap ∧ Cts w.heap.size w ao C.length cap C := by
 have h' := h
 rcases h.2 with ⟨rfl, h0⟩ | ⟨g, cap, cur, rfl, hb, hh, hnc, hm, hs, ht⟩
 ·exact ⟨none, 0, by rw [h0], rfl, by omega, by omega, fun hn => absurd hn (by omega)⟩
 ·refine ⟨_, _, rfl, rfl, hnc, by unfold maxLen at hm; omega, fun _ => ⟨g, 0, rfl, (Array.getElem?_eq_some_iff.1 hh).1, fun i hi => ?_⟩⟩
  rw [Nat.zero_add, h'.cellAt i (by omega)]
  simp [List.getD_eq_getElem?_getD, List.getElem?_eq_getElem hi]

def ownK (L : List (Int × Int)) (k : Nat) : List Int := ((L.take k).filter fun p => decide (p.2 = 0)).map Prod.fst
def owned (L : List (Int × Int)) : List Int := (L.filter fun p => decide (p.2 = 0)).map Prod.fst
theorem ownK_all {L : List (Int × Int)} {k : Nat} (h : L.length ≤ k) : ownK L k = owned L := by unfold ownK owned; rw [List.take_of_length_le h]
theorem ownK_succ {L : List (Int × Int)} {k : Nat} {x y : Int} (h : k < L.length) (e : L.getD k (0, 0) = (x, y)) : ownK L (k + 1) = ownK L k ++ (if y = 0 then [x] else []) := by
 have e' : L[k] = (x, y) := by simpa [List.getD_eq_getElem?_getD, List.getElem?_eq_getElem h] using e
 unfold ownK
 rw [List.take_succ_eq_append_getElem h, e', List.filter_append, List.map_append]
 by_cases hy : y = 0 <;> simp [hy]
theorem ownK_hit {L : List (Int × Int)} {k : Nat} {x y : Int} (h : k < L.length) (e : L.getD k (0, 0) = (x, y)) (hy : y = 0) : ownK L (k + 1) = ownK L k ++ [x] := by rw [ownK_succ h e, if_pos hy]
theorem ownK_miss {L : List (Int × Int)} {k : Nat} {x y : Int} (h : k < L.length) (e : L.getD k (0, 0) = (x, y)) (hy : ¬ y = 0) : ownK L (k + 1) = ownK L k := by rw [ownK_succ h e, if_neg hy]; simp
theorem ownK_len (L : List (Int × Int)) (k : Nat) : (ownK L k).length ≤ k := by
 unfold ownK
 rw [List.length_map]
 exact Nat.le_trans (List.length_filter_le _ _) (by rw [List.length_take]; omega)

theorem owned_any {w : World} {ao : Option Addr} {n cap : Nat} {L : List (Int × Int)} (hL : Lab w.heap.size w ao n cap L) (hk : n < 274877906944) :
  Calls Try.prog 58 #[.slice ao n cap] w fun e w' => ∃ ao1 n1 cap1, e = .returned (.slice ao1 n1 cap1) ∧ Cts w'.heap.size w' ao1 n1 cap1 (owned L) ∧ Below w.heap.size w w' := by
 obtain ⟨i0, hi, hz0, hz1, hz2⟩ := info_parts infoU64
 have hn := hL.1
 have hnc := hL.2.1
 have hcm := hL.2.2.1.1
 go_enter Try.func58, Try.ntmps58
 go_wp2
 go_loopw [3, 8] (fun v i wr => ∃ k : Nat, k ≤ n ∧ i = .int .i64 k ∧ wr.ownsRow w.heap.size 22 1 v (ownK L k).length ((ownK L k).map (Value.int .u64)) ∧ Below w.heap.size w wr) (fun _ i _ => n - (intOf i).toNat)
 case atStart => exact ⟨0, Nat.zero_le _, rfl, World.ownsRow_nil _ _ _ _, Below.refl _ _⟩
 case round =>
  obtain ⟨k, hkn, rfl, hrow, hb⟩ := hrel
  have hlk := ownK_len L k
  by_cases hlt : k < n
  ·obtain ⟨b, off, x, y, rfl, hbB, d0, d1, hxy⟩ := hL.at hb hlt
   have hbw : b < wr.heap.size := Nat.lt_of_lt_of_le hbB hb.size
   clear hL
   by_cases hy : y = 0
   ·have hs : Hid (ownK L (k + 1) = ownK L k ++ [x]) := ownK_hit (by omega) hxy.out hy
    subst hy
    go_wp2_with (at_builtin; refine wpList_append_own _ rfl _ _ 25 rfl w.heap.size 22 i0 (.int .u64 0) 1 8 Try.underlying25 hi hz0 hz1 hz2 rfl (by decide) _ _ _ rfl ((hrow.alloc _).alloc _) ⟨wr.heap.size + 1, 0, none⟩ 1 1 [.int .u64 x] rfl rfl ?c1 (by simp [Value.oneCell']) (by unfold maxLen; omega) (by omega) (by have := hb.size; simp; omega) ?_)
    case c1 => have := cell_one_new (wr.alloc (.cells #[.int .u64 x, .int .i64 0] 80)) (.int .u64 x) 22; simpa using this
    intro v' w1 hown' hgrow _
    obtain ⟨g', cap', rfl⟩ := ownsRow_two hown'
    have hb2 : Below w.heap.size w w1 := ((hb.alloc hb.size _).alloc (by have := hb.size; simp; omega) _).grown hgrow (by have := hb.size; simp; omega) (fun j e => (hrow.lt j e).1)
    go_wp2
    go_roundw
    case rel => exact ⟨k + 1, by omega, by go_num, by rw [hs.out]; simpa using hown', hb2⟩
    case measure => simp [intOf]; omega
   ·have hs : Hid (ownK L (k + 1) = ownK L k) := ownK_miss (by omega) hxy.out hy
    have hy0 : (y == 0) = false := by simpa using hy
    go_wp2
    go_roundw
    case rel => exact ⟨k + 1, by omega, by go_num, by rw [hs.out]; exact hrow.alloc _, hb.alloc hb.size _⟩
    case measure => simp [intOf]; omega
  ·have hs := ownK_all (L := L) (k := k) (by omega)
   rw [hs] at hrow
   obtain ⟨aoL, capL, rfl, hcts⟩ := Cts.of_row hrow
   clear hL hs
   go_wp2
   go_ret
   exact ⟨_, _, _, rfl, hcts, hb⟩
end Go.Proofs.Ytlaagheeemkklaa
