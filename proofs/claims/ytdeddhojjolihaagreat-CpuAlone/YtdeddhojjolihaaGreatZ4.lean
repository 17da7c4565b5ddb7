/-
 PROVED HERE: what the readers of package label, and of the document's answer to it, return when they are called (contracts . What is asked stands at each.
-/
import Derived.WalkKit
import Derived.ProofKit
import Derived.OpenShut
import Derived.Below
import Derived.WalkSmall
import Derived.Deep.QuietTactic
import Derived.BigQuiet
import Derived.OwnWalk
import Derived.Maps.AppendAt
import Derived.Test.YtdeddhojjolihaaGreatZ1
import Derived.Test.YtdeddhojjolihaaGreatZ2
namespace Go.Proofs.YtdeddhojjolihaaGreat
set_option maxRecDepth 100000
set_option maxHeartbeats 8000000
set_option linter.unusedVariables false
open Go.Proofs.Tryz
section
open Go.ChangeShapes Go.WideShapes Go.ChangeAt Go.RowKit
theorem uuz {B : Nat} {w : World} {ao : Option Addr} {n cap : Nat} {L : List (Int × Int)} (hL : Lab B w ao n cap L) (hB : B ≤ w.heap.size) :
  Calls prog 115 #[.slice ao n cap] w fun e w' => e = .returned (.bool (fitB L)) ∧ Below w.heap.size w w' := by
 have hn := hL.1
 have hnc := hL.2.1
 have hcm := hL.2.2.1.1
 go_enter func115, ntmps115
 go_wp2
 go_loopw [3] (fun i wr => ∃ k : Nat, k ≤ n ∧ i = .int .i64 k ∧ (∀ j, j < k → okAt L j = true) ∧ Below w.heap.size w wr) (fun i _ => n - (intOf i).toNat)
 case atStart => exact ⟨0, Nat.zero_le _, rfl, fun j hj => absurd hj (by omega), Below.refl _ _⟩
 case round =>
  obtain ⟨k, hk, rfl, hg, hb⟩ := hrel
  by_cases hkn : k < n
  ·obtain ⟨b, off, x, y, rfl, hbB, d0, d1, hxy⟩ := hL.at (hb.mono hB) hkn
   have hG : Hid (∀ j, j < k → okAt L j = true) := hg
   have hkn' : (k : Int) < n := by omega
   clear hg
   cases hf : Lv.fit y with
   | false =>
    have hr : Hid (fitB L = false) := fitB_no (k := k) (by omega) (okAt_lev hxy.out hf)
    clear hL
    go_wp2
    go_quiet (first | (go_at_call 137; refine Calls.quiet_of_same (rfit_any _ _)))
    go_wp2
    go_ret
    exact ⟨by rw [hr.out]; rfl, below_drewN hb _⟩
   | true =>
    by_cases h2 : y = 2
    ·have hr : Hid (fitB L = false) := fitB_no (k := k) (by omega) (okAt_two hxy.out h2)
     clear hL
     subst h2
     go_wp2
     go_quiet (first | (go_at_call 137; refine Calls.quiet_of_same (rfit_any _ _)))
     go_wp2
     go_ret
     exact ⟨by rw [hr.out]; rfl, below_drewN hb _⟩
    ·have h2' : (y == 2) = false := by simpa using h2
     by_cases h0 : k = 0
     ·subst h0
      have ho : Hid (okAt L 0 = true) := uLz hxy.out hf h2
      simp only [Nat.zero_mul, Nat.add_zero] at d0 d1
      clear hL
      go_wp2
      go_quiet (first | (go_at_call 137; refine Calls.quiet_of_same (rfit_any _ _)))
      go_wp2
      go_roundw
      case rel => exact ⟨1, by omega, by go_num, all_succ hG.out ho.out, below_drewN hb _⟩
      case measure => simp [intOf]; omega
     ·obtain ⟨m, rfl⟩ : ∃ m, k = m + 1 := ⟨k - 1, by omega⟩
      obtain ⟨b', off', x', y', hbo, _, d2, _, hxy'⟩ := hL.at (hb.mono hB) (i := m) (by omega)
      simp only [Option.some.injEq, Addr.mk.injEq, and_true] at hbo
      obtain ⟨rfl, rfl⟩ := hbo
      have hwm : IntKind.i64.wrap (m : Int) = m := wrapN (by omega)
      have hmn : (m : Int) < n := by omega
      by_cases hxx : x ≤ x'
      ·have hr : Hid (fitB L = false) := fitB_no (k := m + 1) (by omega) (okAt_cat hxy.out hxy'.out (by omega) hxx)
       clear hL
       go_wp2
       go_quiet (first | (go_at_call 137; refine Calls.quiet_of_same (rfit_any _ _)))
       go_wp2
       go_ret
       exact ⟨by rw [hr.out]; rfl, below_drewN hb _⟩
      ·have ho : Hid (okAt L (m + 1) = true) := okAt_yes hxy.out hf h2 hxy'.out (by omega)
       clear hL
       go_wp2
       go_quiet (first | (go_at_call 137; refine Calls.quiet_of_same (rfit_any _ _)))
       go_wp2
       go_roundw
       case rel => exact ⟨m + 1 + 1, by omega, by go_num, all_succ hG.out ho.out, below_drewN hb _⟩
       case measure => simp [intOf]; omega
  ·have hr : Hid (fitB L = true) := fitB_yes (fun j hj => hg j (by omega))
   clear hg hL
   go_wp2
   go_ret
   exact ⟨by rw [hr.out]; rfl, hb⟩
theorem rsame_any {B B' : Nat} {w : World} {ao ao' : Option Addr} {n n' cap cap' : Nat} {L L' : List (Int × Int)} (hL : Lab B w ao n cap L) (hB : B ≤ w.heap.size) (hL' : Lab B' w ao' n' cap' L') (hB' : B' ≤ w.heap.size) :
  Calls prog 32 #[.slice ao n cap, .slice ao' n' cap'] w fun e w' => e = .returned (.bool (sameB L L')) ∧ Below w.heap.size w w' := by
 have hn := hL.1
 have hnc := hL.2.1
 have hcm := hL.2.2.1.1
 have hn' := hL'.1
 by_cases hnn : n = n'
 ·subst hnn
  go_enter func32, ntmps32
  go_wp2
  go_loopw [5] (fun i wr => ∃ k : Nat, k ≤ n ∧ i = .int .i64 k ∧ (∀ j, j < k → L.getD j (0, 0) = L'.getD j (0, 0)) ∧ Below w.heap.size w wr) (fun i _ => n - (intOf i).toNat)
  case atStart => exact ⟨0, Nat.zero_le _, rfl, fun j hj => absurd hj (by omega), Below.refl _ _⟩
  case round =>
   obtain ⟨k, hk, rfl, hg, hb⟩ := hrel
   by_cases hkn : k < n
   ·obtain ⟨b, off, x, y, rfl, hbB, d0, d1, hxy⟩ := hL.at (hb.mono hB) hkn
    obtain ⟨b', off', x', y', rfl, hbB', d0', d1', hxy'⟩ := hL'.at (hb.mono hB') hkn
    have hG : Hid (∀ j, j < k → L.getD j (0, 0) = L'.getD j (0, 0)) := hg
    clear hg hL hL'
    have hkn' : (k : Int) < n := by omega
    by_cases hx : x = x'
    ·by_cases hy : y = y'
     ·subst hx hy
      have ho : Hid (L.getD k (0, 0) = L'.getD k (0, 0)) := hxy.out.trans hxy'.out.symm
      go_wp2
      go_quiet (fail)
      go_wp2
      go_roundw
      case rel => exact ⟨k + 1, by omega, by go_num, eq_succ hG.out ho.out, below_drewN hb _⟩
      case measure => simp [intOf]; omega
     ·subst hx
      have hr : Hid (sameB L L' = false) := sameB_at hxy.out hxy'.out (fun e => hy (by simpa using e))
      go_wp2
      go_quiet (fail)
      go_wp2
      go_ret
      exact ⟨by rw [hr.out]; rfl, below_drewN hb _⟩
    ·have hr : Hid (sameB L L' = false) := sameB_at hxy.out hxy'.out (fun e => hx (by simp at e; exact e.1))
     go_wp2
     go_quiet (fail)
     go_wp2
     go_ret
     exact ⟨by rw [hr.out]; rfl, below_drewN hb _⟩
   ·have hr : Hid (sameB L L' = true) := sameB_all (by omega) (fun j hj => hg j (by omega))
    clear hg hL hL'
    go_wp2
    go_ret
    exact ⟨by rw [hr.out]; rfl, hb⟩
 ·have hr : Hid (sameB L L' = false) := sameB_len (by omega)
  have hnz : ((n : Int) == n') = false := by rw [beq_eq_false_iff_ne]; omega
  clear hL hL'
  go_enter func32, ntmps32
  go_wp2
  go_ret
  exact ⟨by rw [hr.out]; rfl, Below.refl _ _⟩
end
section
open Go.ChangeShapes Go.WideShapes Go.ChangeAt Go.RowKit
def wl (c l : Int) : Bool → List (Int × Int) → List (Int × Int)
 | d, [] => if d then [] else [(c, l)]
 | d, p :: r => (if !d && decide (c < p.1) then [(c, l)] else []) ++ ((if p.1 = c then [] else [p]) ++ wl c l (d || decide (c < p.1)) r)
def wlz (L : List (Int × Int)) (c l : Int) : List (Int × Int) := wl c l (l == 2) L
variable {L : List (Int × Int)}
theorem wl_drop {k : Nat} {x y : Int} (h : k < L.length) (e : L.getD k (0, 0) = (x, y)) (c l : Int) (d : Bool) :
  wl c l d (L.drop k) = (if !d && decide (c < x) then [(c, l)] else []) ++ ((if x = c then [] else [(x, y)]) ++ wl c l (d || decide (c < x)) (L.drop (k + 1))) := by
 have e' : L[k] = (x, y) := by simpa [List.getD_eq_getElem?_getD, List.getElem?_eq_getElem h] using e
 rw [List.drop_eq_getElem_cons h, e']
 rfl
theorem wl_len (c l : Int) : ∀ (L : List (Int × Int)) (d : Bool), (wl c l d L).length ≤ L.length + (if d then 0 else 1) := by
 intro L
 induction L with
 | nil => intro d; cases d <;> simp [wl]
 | cons p r ih =>
  intro d
  have h := ih (d || decide (c < p.1))
  simp only [wl, List.length_append, List.length_cons]
  cases d <;> by_cases h1 : c < p.1 <;> by_cases h2 : p.1 = c <;> simp [h1, h2] at h ⊢ <;> omega
theorem k1z (L : List (Int × Int)) (c l : Int) : (wlz L c l).length ≤ L.length + 1 := by
 have h := wl_len c l L (l == 2)
 unfold wlz
 split at h <;> omega
theorem wOz {s : Nat} {w wr w1 : World} {e : TypeId} {size n : Nat} {v : Value} {xs : List Value} {o : Obj} (hb : Below s w wr) (hrow : wr.ownsRow s e size v n xs) (hg : (wr.alloc o).grownBy w1 v.ownBlock) (hs : s ≤ wr.heap.size) : Below s w w1 :=
 (hb.alloc hs o).grown hg (by simp; omega) (fun j e => (hrow.lt j e).1)
theorem jSz {B : Nat} {w : World} {ao : Option Addr} {n cap : Nat} (c l : Int) (hL : Lab B w ao n cap L) (hB : B ≤ w.heap.size) (hn : n < 549755813888) :
  Calls prog 118 #[.slice ao n cap, .int .u64 c, .int .i64 l] w fun e w' => ∃ ao1 n1 cap1, e = .returned (.slice ao1 n1 cap1) ∧ OwnL w.heap.size w' ao1 n1 cap1 (wlz L c l) ∧ Below w.heap.size w w' := by
 obtain ⟨i0, hi, hz0, hz1, hz2⟩ := info_parts juz
 have hll := hL.1
 have hnc := hL.2.1
 have hcm := hL.2.2.1.1
 go_enter func118, ntmps118
 go_wp2
 go_loopw [7, 8, 9] (fun v dv i wr => ∃ (k : Nat) (d : Bool) (O : List (Int × Int)) (ao1 : Option Addr) (cap1 : Nat), k ≤ n ∧ i = .int .i64 k ∧ dv = .bool d ∧ v = .slice ao1 O.length cap1 ∧ Hid (wlz L c l = O ++ wl c l d (L.drop k)) ∧ O.length ≤ 2 * k ∧ OwnL w.heap.size wr ao1 O.length cap1 O ∧ Below w.heap.size w wr) (fun _ _ i _ => n - (intOf i).toNat)
 case atStart => exact ⟨0, _, [], none, 0, Nat.zero_le _, rfl, rfl, rfl, rfl, Nat.le_refl _, OwnL.nil _ _, Below.refl _ _⟩
 case round =>
  obtain ⟨k, d, O, ao1, cap1, hk, rfl, rfl, rfl, hO, hOl, ⟨_, hrow⟩, hb⟩ := hrel
  have hbs := hb.size
  by_cases hkn : k < n
  ·obtain ⟨b, off, x, y, rfl, hbB, d0, d1, hxy⟩ := hL.at (hb.mono hB) hkn
   have hbw : b < wr.heap.size := by omega
   have hkn' : (k : Int) < n := by omega
   have hw := wl_drop (by omega) hxy.out c l d
   obtain ⟨b', off', x', y', hao, _, c0, c1, hxy'⟩ := hL.at (Below.refl _ _) hkn
   simp only [Option.some.injEq, Addr.mk.injEq, and_true] at hao
   obtain ⟨rfl, rfl⟩ := hao
   have hee := hxy.out.symm.trans hxy'.out
   simp only [Prod.mk.injEq] at hee
   obtain ⟨rfl, rfl⟩ := hee
   have HW : Hid (wl c l d (L.drop k) = _) := hw
   clear hL hw
   cases d with
   | true =>
    by_cases hxc : x = c
    ·subst hxc
     go_wp2
     go_roundw
     case rel => exact ⟨k + 1, true, O, _, _, by omega, by go_num, rfl, rfl, hO.out.trans (by rw [HW.out]; simp), by omega, ⟨rfl, hrow⟩, hb⟩
     case measure => simp [intOf]; omega
    ·have hxb : (x == c) = false := by simpa using hxc
     go_wp2_with (at_builtin; refine wpList_append_own _ rfl (.tmp 42) (.tmp 47) 34 rfl w.heap.size 111 i0 (.agg #[.int .u64 0, .int .i64 0]) 2 16 underlying34 hi hz0 hz1 hz2 rfl (by decide) _ _ _ rfl (hrow.alloc _) ⟨wr.heap.size, 0, none⟩ 1 1 [.int .u64 x, .int .i64 y] rfl rfl (waz _ _ _ _) (by simp [Value.oneCell']) (by unfold maxLen; omega) (by omega) (by simp; omega) ?_; intro v1 w1 hown1 hgrow1 _; obtain ⟨g1, cp1, rfl⟩ := whz hown1; have hb1 := wOz hb hrow hgrow1 hbs)
     go_roundw
     case rel => exact ⟨k + 1, true, O ++ [(x, y)], some ⟨g1, 0, none⟩, cp1, by omega, by go_num, rfl, by simp, hO.out.trans (by rw [HW.out]; simp [hxc]), by simp; omega, ⟨by simp, by rw [qWz]; simpa [cellsOf] using hown1⟩, hb1⟩
     case measure => simp [intOf]; omega
   | false =>
    by_cases hcx : c < x
    ·have hxc : ¬ x = c := by omega
     have hxb : (x == c) = false := by simpa using hxc
     go_wp2_with (first | (at_builtin; refine wpList_append_own _ rfl (.tmp 29) (.tmp 33) 34 rfl w.heap.size 111 i0 (.agg #[.int .u64 0, .int .i64 0]) 2 16 underlying34 hi hz0 hz1 hz2 rfl (by decide) _ _ _ rfl (hrow.alloc _) ⟨wr.heap.size, 0, none⟩ 1 1 [.int .u64 c, .int .i64 l] rfl rfl (waz _ _ _ _) (by simp [Value.oneCell']) (by unfold maxLen; omega) (by omega) (by simp; omega) ?_; intro v1 w1 hown1 hgrow1 _; obtain ⟨g1, cp1, rfl⟩ := whz hown1; have hb1 := wOz hb hrow hgrow1 hbs; have hbs1 := hb1.size; have hbw1 : b < w1.heap.size := (by omega); have e0 := (hb1.cell (p := ⟨b, off + k * 2, none⟩) (by show b < _; omega)).trans c0; have e1 := (hb1.cell (p := ⟨b, off + k * 2 + 1, none⟩) (by show b < _; omega)).trans c1) | (at_builtin; refine wpList_append_own _ rfl (.tmp 42) (.tmp 47) 34 rfl w.heap.size 111 i0 (.agg #[.int .u64 0, .int .i64 0]) 2 16 underlying34 hi hz0 hz1 hz2 rfl (by decide) _ _ _ rfl (hown1.alloc _) ⟨w1.heap.size, 0, none⟩ 1 1 [.int .u64 x, .int .i64 y] rfl rfl (waz _ _ _ _) (by simp [Value.oneCell']) (by unfold maxLen; omega) (by omega) (by simp; omega) ?_; intro v2 w2 hown2 hgrow2 _; obtain ⟨g2, cp2, rfl⟩ := whz hown2; have hb2 := wOz hb1 hown1 hgrow2 hbs1))
     go_roundw
     case rel => exact ⟨k + 1, true, O ++ [(c, l)] ++ [(x, y)], some ⟨g2, 0, none⟩, cp2, by omega, by go_num, rfl, by simp, hO.out.trans (by rw [HW.out]; simp [hxc, hcx]), by simp; omega, ⟨by simp, by rw [qWz, qWz]; simpa [cellsOf] using hown2⟩, hb2⟩
     case measure => simp [intOf]; omega
    ·by_cases hxc : x = c
     ·subst hxc
      go_wp2
      go_roundw
      case rel => exact ⟨k + 1, false, O, _, _, by omega, by go_num, rfl, rfl, hO.out.trans (by rw [HW.out]; simp), by omega, ⟨rfl, hrow⟩, hb⟩
      case measure => simp [intOf]; omega
     ·have hxb : (x == c) = false := by simpa using hxc
      go_wp2_with (at_builtin; refine wpList_append_own _ rfl (.tmp 42) (.tmp 47) 34 rfl w.heap.size 111 i0 (.agg #[.int .u64 0, .int .i64 0]) 2 16 underlying34 hi hz0 hz1 hz2 rfl (by decide) _ _ _ rfl (hrow.alloc _) ⟨wr.heap.size, 0, none⟩ 1 1 [.int .u64 x, .int .i64 y] rfl rfl (waz _ _ _ _) (by simp [Value.oneCell']) (by unfold maxLen; omega) (by omega) (by simp; omega) ?_; intro v1 w1 hown1 hgrow1 _; obtain ⟨g1, cp1, rfl⟩ := whz hown1; have hb1 := wOz hb hrow hgrow1 hbs)
      go_roundw
      case rel => exact ⟨k + 1, false, O ++ [(x, y)], some ⟨g1, 0, none⟩, cp1, by omega, by go_num, rfl, by simp, hO.out.trans (by rw [HW.out]; simp [hxc, hcx]), by simp; omega, ⟨by simp, by rw [qWz]; simpa [cellsOf] using hown1⟩, hb1⟩
      case measure => simp [intOf]; omega
  ·have hO' : Hid (wlz L c l = O ++ wl c l d []) := by
    have h2 : L.drop k = [] := List.drop_eq_nil_of_le (by omega)
    have h3 := hO.out
    rw [h2] at h3
    exact h3
   clear hL hO
   cases d with
   | true =>
    go_wp2
    go_ret
    exact ⟨_, _, _, rfl, by rw [hO'.out]; simp [wl]; exact ⟨rfl, hrow⟩, hb⟩
   | false =>
    go_wp2_with (at_builtin; refine wpList_append_own _ rfl (.tmp 51) (.tmp 55) 34 rfl w.heap.size 111 i0 (.agg #[.int .u64 0, .int .i64 0]) 2 16 underlying34 hi hz0 hz1 hz2 rfl (by decide) _ _ _ rfl (hrow.alloc _) ⟨wr.heap.size, 0, none⟩ 1 1 [.int .u64 c, .int .i64 l] rfl rfl (waz _ _ _ _) (by simp [Value.oneCell']) (by unfold maxLen; omega) (by omega) (by simp; omega) ?_; intro v1 w1 hown1 hgrow1 _; obtain ⟨g1, cp1, rfl⟩ := whz hown1; have hb1 := wOz hb hrow hgrow1 hbs)
    go_ret
    exact ⟨_, _, _, rfl, by rw [hO'.out]; exact ⟨by simp [wl], by rw [qWz]; simpa [cellsOf, wl] using hown1⟩, hb1⟩
end
section
open Go.ChangeShapes Go.WideShapes Go.ChangeAt Go.RowKit
def w4z (A C : List (Int × Int)) : Bool := (A.all fun p => Lv.leq p.2 (get C p.1)) && (C.all fun q => Lv.leq (get A q.1) q.2)
variable {f : Int × Int → Bool} {A : List (Int × Int)}
theorem all_no {k : Nat} {p : Int × Int} (h : k < A.length) (e : A.getD k (0, 0) = p) (hf : f p = false) : A.all f = false := by
 rw [List.all_eq_false]
 have e' : A[k] = p := by simpa [List.getD_eq_getElem?_getD, List.getElem?_eq_getElem h] using e
 exact ⟨p, e' ▸ List.getElem_mem h, by simp [hf]⟩
theorem gyz (h : ∀ k, k < A.length → f (A.getD k (0, 0)) = true) : A.all f = true := by
 rw [List.all_eq_true]
 intro x hx
 obtain ⟨k, hk, rfl⟩ := List.getElem_of_mem hx
 have := h k hk
 simpa [List.getD_eq_getElem?_getD, List.getElem?_eq_getElem hk] using this
theorem kuz {w : World} {ao ao' : Option Addr} {n n' cap cap' : Nat} {L L' : List (Int × Int)} (hL : Lab w.heap.size w ao n cap L) (hL' : Lab w.heap.size w ao' n' cap' L') :
  Calls prog 52 #[.slice ao n cap, .slice ao' n' cap'] w fun e w' => e = .returned (.bool (w4z L L')) ∧ Below w.heap.size w w' := by
 have hn := hL.1
 have hcm := hL.2.2.1.1
 have hnc := hL.2.1
 have hn' := hL'.1
 have hcm' := hL'.2.2.1.1
 have hnc' := hL'.2.1
 go_enter func52, ntmps52
 go_wp2
 go_loopw [5] (fun i wr => ∃ k : Nat, k ≤ n ∧ i = .int .i64 k ∧ (∀ j, j < k → Lv.leq (L.getD j (0, 0)).2 (get L' (L.getD j (0, 0)).1) = true) ∧ Below w.heap.size w wr) (fun i _ => n - (intOf i).toNat)
 case atStart => exact ⟨0, Nat.zero_le _, rfl, fun j hj => absurd hj (by omega), Below.refl _ _⟩
 case round =>
  obtain ⟨k, hk, rfl, hg, hb⟩ := hrel
  have HG : Hid (∀ j, j < k → Lv.leq (L.getD j (0, 0)).2 (get L' (L.getD j (0, 0)).1) = true) := hg
  clear hg
  by_cases hkn : k < n
  ·obtain ⟨b, off, x, y, rfl, hbB, d0, d1, hxy⟩ := hL.at hb hkn
   have hkn' : (k : Int) < n := by omega
   have HL' : ∀ m, Lab w.heap.size (wr.drewN m) ao' n' cap' L' := fun m => hL'.later (below_drewN hb m)
   clear hL hL'
   cases hq : Lv.leq y (get L' x) with
   | false =>
    have hr : Hid (w4z L L' = false) := by
     show (_ && _) = false
     rw [all_no (p := (x, y)) (k := k) (by omega) hxy.out hq]; rfl
    go_wp2
    go_quiet (first | (go_at_call 87; refine Calls.quiet_of_same (xkz _ (HL' _))) | (go_at_call 86; refine Calls.quiet_of_same (kaz _ _ _)))
    go_wp2
    go_ret
    exact ⟨by rw [hr.out]; rfl, below_drewN hb _⟩
   | true =>
    go_wp2
    go_quiet (first | (go_at_call 87; refine Calls.quiet_of_same (xkz _ (HL' _))) | (go_at_call 86; refine Calls.quiet_of_same (kaz _ _ _)))
    go_wp2
    go_roundw
    case rel => exact ⟨k + 1, by omega, by go_num, fun j hj => by
     rcases Nat.lt_or_ge j k with h | h
     ·exact HG.out j h
     ·have : j = k := by omega
      rw [this, hxy.out]; exact hq, below_drewN hb _⟩
    case measure => simp [intOf]; omega
  ·have hA : Hid (L.all (fun p => Lv.leq p.2 (get L' p.1)) = true) := gyz (fun j hj => HG.out j (by omega))
   clear HG
   go_wp2
   go_loopw [6] (fun i wr => ∃ k : Nat, k ≤ n' ∧ i = .int .i64 k ∧ (∀ j, j < k → Lv.leq (get L (L'.getD j (0, 0)).1) (L'.getD j (0, 0)).2 = true) ∧ Below w.heap.size w wr) (fun i _ => n' - (intOf i).toNat)
   case atStart => exact ⟨0, Nat.zero_le _, rfl, fun j hj => absurd hj (by omega), hb⟩
   case round =>
    clear hb
    obtain ⟨k, hk, rfl, hg, hb⟩ := hrel
    have HG : Hid (∀ j, j < k → Lv.leq (get L (L'.getD j (0, 0)).1) (L'.getD j (0, 0)).2 = true) := hg
    clear hg
    by_cases hkn : k < n'
    ·obtain ⟨b, off, x, y, rfl, hbB, d0, d1, hxy⟩ := hL'.at hb hkn
     have hkn' : (k : Int) < n' := by omega
     have HL : ∀ m, Lab w.heap.size (wr.drewN m) ao n cap L := fun m => hL.later (below_drewN hb m)
     clear hL hL'
     cases hq : Lv.leq (get L x) y with
     | false =>
      have hr : Hid (w4z L L' = false) := by
       show (_ && _) = false
       rw [all_no (A := L') (p := (x, y)) (k := k) (by omega) hxy.out hq, Bool.and_false]
      go_wp2
      go_quiet (first | (go_at_call 87; refine Calls.quiet_of_same (xkz _ (HL _))) | (go_at_call 86; refine Calls.quiet_of_same (kaz _ _ _)))
      go_wp2
      go_ret
      exact ⟨by rw [hr.out]; rfl, below_drewN hb _⟩
     | true =>
      go_wp2
      go_quiet (first | (go_at_call 87; refine Calls.quiet_of_same (xkz _ (HL _))) | (go_at_call 86; refine Calls.quiet_of_same (kaz _ _ _)))
      go_wp2
      go_roundw
      case rel => exact ⟨k + 1, by omega, by go_num, fun j hj => by
       rcases Nat.lt_or_ge j k with h | h
       ·exact HG.out j h
       ·have : j = k := by omega
        rw [this, hxy.out]; exact hq, below_drewN hb _⟩
      case measure => simp [intOf]; omega
    ·have hr : Hid (w4z L L' = true) := by
      show (_ && _) = true
      rw [hA.out, gyz (A := L') (fun j hj => HG.out j (by omega))]; rfl
     clear HG hL hL'
     go_wp2
     go_ret
     exact ⟨by rw [hr.out]; rfl, hb⟩
theorem yyz {w : World} {ao : Option Addr} {n cap : Nat} {L : List (Int × Int)} (hL : Lab w.heap.size w ao n cap L) (hk : n < 274877906944) :
  Calls prog 92 #[.slice ao n cap] w fun e w' => ∃ ao1 n1 cap1, e = .returned (.slice ao1 n1 cap1) ∧ Cts w'.heap.size w' ao1 n1 cap1 (xFz L) ∧ Below w.heap.size w w' := by
 obtain ⟨i0, hi, hz0, hz1, hz2⟩ := info_parts infoU64
 have hn := hL.1
 have hnc := hL.2.1
 have hcm := hL.2.2.1.1
 go_enter func92, ntmps92
 go_wp2
 go_loopw [3, 4] (fun v i wr => ∃ k : Nat, k ≤ n ∧ i = .int .i64 k ∧ wr.ownsRow w.heap.size 22 1 v (ownK L k).length ((ownK L k).map (Value.int .u64)) ∧ Below w.heap.size w wr) (fun _ i _ => n - (intOf i).toNat)
 case atStart => exact ⟨0, Nat.zero_le _, rfl, World.ownsRow_nil _ _ _ _, Below.refl _ _⟩
 case round =>
  obtain ⟨k, hkn, rfl, hrow, hb⟩ := hrel
  have hlk := ownK_len L k
  by_cases hlt : k < n
  ·obtain ⟨b, off, x, y, rfl, hbB, d0, d1, hxy⟩ := hL.at hb hlt
   have hbw : b < wr.heap.size := Nat.lt_of_lt_of_le hbB hb.size
   clear hL
   by_cases hy : y = 0
   ·have hs : Hid (ownK L (k + 1) = ownK L k ++ [x]) := ownK_hit (by omega) hxy.out hy
    subst hy
    go_wp2_with (at_builtin; refine wpList_append_own _ rfl _ _ 35 rfl w.heap.size 22 i0 (.int .u64 0) 1 8 underlying35 hi hz0 hz1 hz2 rfl (by decide) _ _ _ rfl (hrow.alloc _) ⟨wr.heap.size, 0, none⟩ 1 1 [.int .u64 x] rfl rfl (cell_one_new _ _ _) (by simp [Value.oneCell']) (by unfold maxLen; omega) (by omega) (by have := hb.size; simp; omega) ?_; intro v' w1 hown' hgrow _; obtain ⟨g', cap', rfl⟩ := whz hown')
    have hb2 : Below w.heap.size w w1 := wOz hb hrow hgrow hb.size
    go_roundw
    case rel => exact ⟨k + 1, by omega, by go_num, by rw [hs.out]; simpa using hown', hb2⟩
    case measure => simp [intOf]; omega
   ·have hs : Hid (ownK L (k + 1) = ownK L k) := uIz (by omega) hxy.out hy
    have hy0 : (y == 0) = false := by simpa using hy
    go_wp2
    go_roundw
    case rel => exact ⟨k + 1, by omega, by go_num, by rw [hs.out]; exact hrow, hb⟩
    case measure => simp [intOf]; omega
  ·have hs := ownK_all (L := L) (k := k) (by omega)
   rw [hs] at hrow
   obtain ⟨aoL, capL, rfl, hcts⟩ := Cts.of_row hrow
   clear hL hs
   go_wp2
   go_ret
   exact ⟨_, _, _, rfl, hcts, hb⟩
end
end Go.Proofs.YtdeddhojjolihaaGreat
