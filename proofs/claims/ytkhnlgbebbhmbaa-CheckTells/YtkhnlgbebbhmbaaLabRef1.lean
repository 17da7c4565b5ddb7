/-
  PROVED HERE: what with, Set and Leq of the document's answer to label return when they are called (contracts over this translation). A label has fewer than 2^39 pairs where one is put to it.
-/
import Derived.Test.YtkhnlgbebbhmbaaLabCon2
import Derived.Test.YtkhnlgbebbhmbaaLabOwn
import Derived.WalkKit
import Derived.ProofKit
import Derived.OpenShut
import Derived.Below
import Derived.WalkSmall
import Derived.Deep.QuietTactic
import Derived.BigQuiet
import Derived.OwnWalk
import Derived.Maps.AppendAt
import Derived.Test.YtkhnlgbebbhmbaaLabCon3
namespace Go.Proofs.Ytkhnlgbebbhmbaa
open Go.ChangeShapes Go.WideShapes Go.ChangeAt Go.RowKit
set_option linter.unusedVariables false

/-- What is still to be written of a label with a category's level; d: the level has been written. -/
def wl (c l : Int) : Bool → List (Int × Int) → List (Int × Int)
  | d, [] => if d then [] else [(c, l)]
  | d, p :: r => (if !d && decide (c < p.1) then [(c, l)] else []) ++ ((if p.1 = c then [] else [p]) ++ wl c l (d || decide (c < p.1)) r)
def rwithL (L : List (Int × Int)) (c l : Int) : List (Int × Int) := wl c l (l == 2) L
theorem wl_drop {L : List (Int × Int)} {k : Nat} {x y : Int} (h : k < L.length) (e : L.getD k (0, 0) = (x, y)) (c l : Int) (d : Bool) :
    wl c l d (L.drop k) = (if !d && decide (c < x) then [(c, l)] else []) ++ ((if x = c then [] else [(x, y)]) ++ wl c l (d || decide (c < x)) (L.drop (k + 1))) := by
  have e' : L[k] = (x, y) := by simpa [List.getD_eq_getElem?_getD, List.getElem?_eq_getElem h] using e
  rw [List.drop_eq_getElem_cons h, e']
  rfl
theorem wl_len (c l : Int) : ∀ (L : List (Int × Int)) (d : Bool), (wl c l d L).length ≤ L.length + (if d then 0 else 1) := by
  intro L
  induction L with
  | nil => intro d; cases d <;> simp [wl]
  | cons p r ih =>
    intro d
    have h := ih (d || decide (c < p.1))
    simp only [wl, List.length_append, List.length_cons]
    cases d <;> by_cases h1 : c < p.1 <;> by_cases h2 : p.1 = c <;> simp [h1, h2] at h ⊢ <;> omega
theorem rwithL_len (L : List (Int × Int)) (c l : Int) : (rwithL L c l).length ≤ L.length + 1 := by
  have h := wl_len c l L (l == 2)
  unfold rwithL
  split at h <;> omega

theorem app_below {s : Nat} {w wr w1 : World} {e : TypeId} {size n : Nat} {v : Value} {xs : List Value} {o : Obj} (hb : Below s w wr) (hrow : wr.ownsRow s e size v n xs) (hg : (wr.alloc o).grownBy w1 v.ownBlock) (hs : s ≤ wr.heap.size) : Below s w w1 :=
  (hb.alloc hs o).grown hg (by simp; omega) (fun j e => (hrow.lt j e).1)

set_option maxHeartbeats 4000000 in
theorem rwith_any {B : Nat} {w : World} {ao : Option Addr} {n cap : Nat} {L : List (Int × Int)} (c l : Int) (hL : Lab B w ao n cap L) (hB : B ≤ w.heap.size) (hn : n < 549755813888) :
    Calls Try.prog 54 #[.slice ao n cap, .int .u64 c, .int .i64 l] w fun e w' => ∃ ao1 n1 cap1, e = .returned (.slice ao1 n1 cap1) ∧ OwnL w.heap.size w' ao1 n1 cap1 (rwithL L c l) ∧ Below w.heap.size w w' := by
  obtain ⟨i0, hi, hz0, hz1, hz2⟩ := info_parts infoPair
  have hll := hL.1
  have hnc := hL.2.1
  have hcm := hL.2.2.1.1
  go_enter Try.func54, Try.ntmps54
  go_wp2
  go_loopw [7, 8, 9] (fun v dv i wr => ∃ (k : Nat) (d : Bool) (O : List (Int × Int)) (ao1 : Option Addr) (cap1 : Nat), k ≤ n ∧ i = .int .i64 k ∧ dv = .bool d ∧ v = .slice ao1 O.length cap1 ∧ Hid (rwithL L c l = O ++ wl c l d (L.drop k)) ∧ O.length ≤ 2 * k ∧ OwnL w.heap.size wr ao1 O.length cap1 O ∧ Below w.heap.size w wr) (fun _ _ i _ => n - (intOf i).toNat)
  case atStart => exact ⟨0, _, [], none, 0, Nat.zero_le _, rfl, rfl, rfl, rfl, Nat.le_refl _, OwnL.nil _ _, Below.refl _ _⟩
  case round =>
    obtain ⟨k, d, O, ao1, cap1, hk, rfl, rfl, rfl, hO, hOl, ⟨_, hrow⟩, hb⟩ := hrel
    have hbs := hb.size
    by_cases hkn : k < n
    · obtain ⟨b, off, x, y, rfl, hbB, d0, d1, hxy⟩ := hL.at (hb.mono hB) hkn
      have hbw : b < wr.heap.size := by omega
      have hkn' : (k : Int) < n := by omega
      have hw := wl_drop (by omega) hxy.out c l d
      obtain ⟨b', off', x', y', hao, _, c0, c1, hxy'⟩ := hL.at (Below.refl _ _) hkn
      simp only [Option.some.injEq, Addr.mk.injEq, and_true] at hao
      obtain ⟨rfl, rfl⟩ := hao
      have hee := hxy.out.symm.trans hxy'.out
      simp only [Prod.mk.injEq] at hee
      obtain ⟨rfl, rfl⟩ := hee
      have HW : Hid (wl c l d (L.drop k) = _) := hw
      clear hL hw
      cases d with
      | true =>
        by_cases hxc : x = c
        · subst hxc
          go_wp2
          go_roundw
          case rel => exact ⟨k + 1, true, O, _, _, by omega, by go_num, rfl, rfl, hO.out.trans (by rw [HW.out]; simp), by omega, ⟨rfl, hrow⟩, hb⟩
          case measure => simp [intOf]; omega
        · have hxb : (x == c) = false := by simpa using hxc
          go_wp2_with (at_builtin; refine wpList_append_own _ rfl (.tmp 42) (.tmp 47) 23 rfl w.heap.size 43 i0 (.agg #[.int .u64 0, .int .i64 0]) 2 16 Try.underlying23 hi hz0 hz1 hz2 rfl (by decide) _ _ _ rfl (hrow.alloc _) ⟨wr.heap.size, 0, none⟩ 1 1 [.int .u64 x, .int .i64 y] rfl rfl (cell_two_new _ _ _ _) (by simp [Value.oneCell']) (by unfold maxLen; omega) (by omega) (by simp; omega) ?_; intro v1 w1 hown1 hgrow1 _; obtain ⟨g1, cp1, rfl⟩ := ownsRow_two hown1; have hb1 := app_below hb hrow hgrow1 hbs)
          go_roundw
          case rel => exact ⟨k + 1, true, O ++ [(x, y)], some ⟨g1, 0, none⟩, cp1, by omega, by go_num, rfl, by simp, hO.out.trans (by rw [HW.out]; simp [hxc]), by simp; omega, ⟨by simp, by rw [cellsOf_append]; simpa [cellsOf] using hown1⟩, hb1⟩
          case measure => simp [intOf]; omega
      | false =>
        by_cases hcx : c < x
        · have hxc : ¬ x = c := by omega
          have hxb : (x == c) = false := by simpa using hxc
          go_wp2_with (first | (at_builtin; refine wpList_append_own _ rfl (.tmp 29) (.tmp 33) 23 rfl w.heap.size 43 i0 (.agg #[.int .u64 0, .int .i64 0]) 2 16 Try.underlying23 hi hz0 hz1 hz2 rfl (by decide) _ _ _ rfl (hrow.alloc _) ⟨wr.heap.size, 0, none⟩ 1 1 [.int .u64 c, .int .i64 l] rfl rfl (cell_two_new _ _ _ _) (by simp [Value.oneCell']) (by unfold maxLen; omega) (by omega) (by simp; omega) ?_; intro v1 w1 hown1 hgrow1 _; obtain ⟨g1, cp1, rfl⟩ := ownsRow_two hown1; have hb1 := app_below hb hrow hgrow1 hbs; have hbs1 := hb1.size; have hbw1 : b < w1.heap.size := (by omega); have e0 := (hb1.cell (p := ⟨b, off + k * 2, none⟩) (by show b < _; omega)).trans c0; have e1 := (hb1.cell (p := ⟨b, off + k * 2 + 1, none⟩) (by show b < _; omega)).trans c1) | (at_builtin; refine wpList_append_own _ rfl (.tmp 42) (.tmp 47) 23 rfl w.heap.size 43 i0 (.agg #[.int .u64 0, .int .i64 0]) 2 16 Try.underlying23 hi hz0 hz1 hz2 rfl (by decide) _ _ _ rfl (hown1.alloc _) ⟨w1.heap.size, 0, none⟩ 1 1 [.int .u64 x, .int .i64 y] rfl rfl (cell_two_new _ _ _ _) (by simp [Value.oneCell']) (by unfold maxLen; omega) (by omega) (by simp; omega) ?_; intro v2 w2 hown2 hgrow2 _; obtain ⟨g2, cp2, rfl⟩ := ownsRow_two hown2; have hb2 := app_below hb1 hown1 hgrow2 hbs1))
          go_roundw
          case rel => exact ⟨k + 1, true, O ++ [(c, l)] ++ [(x, y)], some ⟨g2, 0, none⟩, cp2, by omega, by go_num, rfl, by simp, hO.out.trans (by rw [HW.out]; simp [hxc, hcx]), by simp; omega, ⟨by simp, by rw [cellsOf_append, cellsOf_append]; simpa [cellsOf] using hown2⟩, hb2⟩
          case measure => simp [intOf]; omega
        · by_cases hxc : x = c
          · subst hxc
            go_wp2
            go_roundw
            case rel => exact ⟨k + 1, false, O, _, _, by omega, by go_num, rfl, rfl, hO.out.trans (by rw [HW.out]; simp), by omega, ⟨rfl, hrow⟩, hb⟩
            case measure => simp [intOf]; omega
          · have hxb : (x == c) = false := by simpa using hxc
            go_wp2_with (at_builtin; refine wpList_append_own _ rfl (.tmp 42) (.tmp 47) 23 rfl w.heap.size 43 i0 (.agg #[.int .u64 0, .int .i64 0]) 2 16 Try.underlying23 hi hz0 hz1 hz2 rfl (by decide) _ _ _ rfl (hrow.alloc _) ⟨wr.heap.size, 0, none⟩ 1 1 [.int .u64 x, .int .i64 y] rfl rfl (cell_two_new _ _ _ _) (by simp [Value.oneCell']) (by unfold maxLen; omega) (by omega) (by simp; omega) ?_; intro v1 w1 hown1 hgrow1 _; obtain ⟨g1, cp1, rfl⟩ := ownsRow_two hown1; have hb1 := app_below hb hrow hgrow1 hbs)
            go_roundw
            case rel => exact ⟨k + 1, false, O ++ [(x, y)], some ⟨g1, 0, none⟩, cp1, by omega, by go_num, rfl, by simp, hO.out.trans (by rw [HW.out]; simp [hxc, hcx]), by simp; omega, ⟨by simp, by rw [cellsOf_append]; simpa [cellsOf] using hown1⟩, hb1⟩
            case measure => simp [intOf]; omega
    · have hO' : Hid (rwithL L c l = O ++ wl c l d []) := by
        have h2 : L.drop k = [] := List.drop_eq_nil_of_le (by omega)
        have h3 := hO.out
        rw [h2] at h3
        exact h3
      clear hL hO
      cases d with
      | true =>
        go_wp2
        go_ret
        exact ⟨_, _, _, rfl, by rw [hO'.out]; simp [wl]; exact ⟨rfl, hrow⟩, hb⟩
      | false =>
        go_wp2_with (at_builtin; refine wpList_append_own _ rfl (.tmp 51) (.tmp 55) 23 rfl w.heap.size 43 i0 (.agg #[.int .u64 0, .int .i64 0]) 2 16 Try.underlying23 hi hz0 hz1 hz2 rfl (by decide) _ _ _ rfl (hrow.alloc _) ⟨wr.heap.size, 0, none⟩ 1 1 [.int .u64 c, .int .i64 l] rfl rfl (cell_two_new _ _ _ _) (by simp [Value.oneCell']) (by unfold maxLen; omega) (by omega) (by simp; omega) ?_; intro v1 w1 hown1 hgrow1 _; obtain ⟨g1, cp1, rfl⟩ := ownsRow_two hown1; have hb1 := app_below hb hrow hgrow1 hbs)
        go_ret
        exact ⟨_, _, _, rfl, by rw [hO'.out]; exact ⟨by simp [wl], by rw [cellsOf_append]; simpa [cellsOf, wl] using hown1⟩, hb1⟩
end Go.Proofs.Ytkhnlgbebbhmbaa
