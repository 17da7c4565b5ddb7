/-
 PROVED HERE: what the document's Hides returns when it is called (a contract over this translation): nothing just where the. What is asked stands at each.
-/
import Derived.Test.YtblklhgojdbfeaaGreatY6
import Derived.Test.YtblklhgojdbfeaaGreatY10
import Derived.Test.YtblklhgojdbfeaaGreatY33
namespace Go.Proofs.YtblklhgojdbfeaaGreat
set_option maxRecDepth 100000
set_option maxHeartbeats 8000000
open Go.ChangeShapes Go.WideShapes Go.ChangeAt Go.RowKit
theorem Cts.row {base : Nat} {w : World} {ao : Option Addr} {n cap : Nat} {C : List Int} (h : w.ownsRow base 22 1 (.slice ao n cap) C.length (C.map (Value.int .u64))) : Cts w.heap.size w ao n cap C := by
 obtain ⟨a, c, e, hc⟩ := Cts.of_row h
 simp only [Value.slice.injEq] at e
 obtain ⟨rfl, rfl, rfl⟩ := e
 exact hc
theorem Cts.at {w : World} {ao : Option Addr} {n cap : Nat} {C : List Int} {B : Nat} (h : Cts B w ao n cap C) {i : Nat} (hi : i < n) :
  ∃ (b off : Nat) (x : Int), ao = some ⟨b, off, none⟩ ∧ b < B ∧ w.cell? ⟨b, off + i, none⟩ = some (.int .u64 x) ∧ Hid (C.getD i 0 = x) := by
 obtain ⟨h1, h2, h3, h4⟩ := h
 obtain ⟨b, off, e, hb, hc⟩ := h4 (by omega)
 exact ⟨b, off, _, e, hb, hc i hi, rfl⟩
end Go.Proofs.YtblklhgojdbfeaaGreat
namespace Go.Proofs.YtblklhgojdbfeaaGreat.HdM
set_option maxRecDepth 100000
set_option maxHeartbeats 8000000
open Go.ChangeShapes Go.WideShapes Go.ChangeAt Go.RowKit
set_option linter.unusedVariables false

def il (x : Int) : Bool → List Int → List Int
 | d, [] => if d then [] else [x]
 | d, c :: r => (if !d && decide (x ≤ c) then [x] else []) ++ ((if c = x then [] else [c]) ++ il x (d || decide (x ≤ c)) r)
def insL (C : List Int) (x : Int) : List Int := il x false C
theorem il_drop {C : List Int} {k : Nat} {y : Int} (h : k < C.length) (e : C.getD k 0 = y) (x : Int) (d : Bool) :
  il x d (C.drop k) = (if !d && decide (x ≤ y) then [x] else []) ++ ((if y = x then [] else [y]) ++ il x (d || decide (x ≤ y)) (C.drop (k + 1))) := by
 have e' : C[k] = y := by simpa [List.getD_eq_getElem?_getD, List.getElem?_eq_getElem h] using e
 rw [List.drop_eq_getElem_cons h, e']
 rfl
theorem il_len (x : Int) : ∀ (C : List Int) (d : Bool), (il x d C).length ≤ C.length + (if d then 0 else 1) := by
 intro C
 induction C with
 | nil => intro d; cases d <;> simp [il]
 | cons c r ih =>
  intro d
  have h := ih (d || decide (x ≤ c))
  simp only [il, List.length_append, List.length_cons]
  cases d <;> by_cases h1 : x ≤ c <;> by_cases h2 : c = x <;> simp [h1, h2] at h ⊢ <;> omega
theorem insL_len (C : List Int) (x : Int) : (insL C x).length ≤ C.length + 1 := by unfold insL; simpa using il_len x C false
theorem insert_any {w : World} {ao : Option Addr} {n cap : Nat} {C : List Int} (x : Int) (hC : Cts w.heap.size w ao n cap C) (hn : n < 1073741824) :
  Calls Tryz.prog 46 #[.slice ao n cap, .int .u64 x] w fun e w' => ∃ ao1 n1 cap1, e = .returned (.slice ao1 n1 cap1) ∧ Cts w'.heap.size w' ao1 n1 cap1 (insL C x) ∧ Below w.heap.size w w' := by
 obtain ⟨i0, hi, hz0, hz1, hz2⟩ := info_parts infoU64
 have hll := hC.1
 have hnc := hC.2.1
 have hcm := hC.2.2.1
 go_enter Tryz.func46, Tryz.ntmps46
 go_wp2
 go_loopw [5, 6, 7] (fun v dv i wr => ∃ (k : Nat) (d : Bool) (O : List Int) (ao1 : Option Addr) (cap1 : Nat), k ≤ n ∧ i = .int .i64 k ∧ dv = .bool d ∧ v = .slice ao1 O.length cap1 ∧ Hid (insL C x = O ++ il x d (C.drop k)) ∧ O.length ≤ 2 * k ∧ wr.ownsRow w.heap.size 22 1 (.slice ao1 O.length cap1) O.length (O.map (Value.int .u64)) ∧ Below w.heap.size w wr) (fun _ _ i _ => n - (intOf i).toNat)
 case atStart => exact ⟨0, _, [], none, 0, Nat.zero_le _, rfl, rfl, rfl, rfl, Nat.le_refl _, World.ownsRow_nil _ _ _ _, Below.refl _ _⟩
 case round =>
  obtain ⟨k, d, O, ao1, cap1, hk, rfl, rfl, rfl, hO, hOl, hrow, hb⟩ := hrel
  have hbs := hb.size
  by_cases hkn : k < n
  ·obtain ⟨b, off, y, hao, hbB, d0, hy⟩ := (hC.later hb).at hkn
   subst hao
   have hbw : b < wr.heap.size := by omega
   have HW : Hid (il x d (C.drop k) = _) := il_drop (by omega) hy.out x d
   have dd := (hC.at hkn)
   obtain ⟨b', off', y', hao', _, dw, hy'⟩ := dd
   simp only [Option.some.injEq, Addr.mk.injEq, and_true] at hao'
   obtain ⟨rfl, rfl⟩ := hao'
   obtain rfl : y = y' := hy.out.symm.trans hy'.out
   clear hC
   cases d with
   | true =>
    by_cases hyx : y = x
    ·subst hyx
     go_wp2
     go_roundw
     case rel => exact ⟨k + 1, true, O, _, _, by omega, by go_num, rfl, rfl, hO.out.trans (by rw [HW.out]; simp), by omega, hrow, hb⟩
     case measure => simp [intOf]; omega
    ·have hyb : (y == x) = false := by simpa using hyx
     go_wp2_with (at_builtin; refine wpList_append_own _ rfl (.tmp 34) (.tmp 39) 28 rfl w.heap.size 22 i0 (.int .u64 0) 1 8 Tryz.underlying28 hi hz0 hz1 hz2 rfl (by decide) _ _ _ rfl (hrow.alloc _) ⟨wr.heap.size, 0, none⟩ 1 1 [.int .u64 y] rfl rfl (cell_one_new _ _ _) (by simp [Value.oneCell']) (by unfold maxLen; omega) (by omega) (by simp; omega) ?_; intro v1 w1 hown1 hgrow1 _; obtain ⟨g1, cp1, rfl⟩ := ownsRow_two hown1; have hb1 := app_below hb hrow hgrow1 hbs)
     go_roundw
     case rel => exact ⟨k + 1, true, O ++ [y], some ⟨g1, 0, none⟩, cp1, by omega, by go_num, rfl, by simp, hO.out.trans (by rw [HW.out]; simp [hyx]), by simp; omega, by simpa using hown1, hb1⟩
     case measure => simp [intOf]; omega
   | false =>
    by_cases hxy : x ≤ y
    ·by_cases hyx : y = x
     ·subst hyx
      go_wp2_with (at_builtin; refine wpList_append_own _ rfl (.tmp 24) (.tmp 26) 28 rfl w.heap.size 22 i0 (.int .u64 0) 1 8 Tryz.underlying28 hi hz0 hz1 hz2 rfl (by decide) _ _ _ rfl (hrow.alloc _) ⟨wr.heap.size, 0, none⟩ 1 1 [.int .u64 y] rfl rfl (cell_one_new _ _ _) (by simp [Value.oneCell']) (by unfold maxLen; omega) (by omega) (by simp; omega) ?_; intro v1 w1 hown1 hgrow1 _; obtain ⟨g1, cp1, rfl⟩ := ownsRow_two hown1; have hb1 := app_below hb hrow hgrow1 hbs; have d2 := (hb1.cell (p := ⟨b, off + k, none⟩) hbB).trans dw)
      go_roundw
      case rel => exact ⟨k + 1, true, O ++ [y], some ⟨g1, 0, none⟩, cp1, by omega, by go_num, rfl, by simp, hO.out.trans (by rw [HW.out]; simp), by simp; omega, by simpa using hown1, hb1⟩
      case measure => simp [intOf]; omega
     ·have hyb : (y == x) = false := by simpa using hyx
      go_wp2_with (first | (at_builtin; refine wpList_append_own _ rfl (.tmp 24) (.tmp 26) 28 rfl w.heap.size 22 i0 (.int .u64 0) 1 8 Tryz.underlying28 hi hz0 hz1 hz2 rfl (by decide) _ _ _ rfl (hrow.alloc _) ⟨wr.heap.size, 0, none⟩ 1 1 [.int .u64 x] rfl rfl (cell_one_new _ _ _) (by simp [Value.oneCell']) (by unfold maxLen; omega) (by omega) (by simp; omega) ?_; intro v1 w1 hown1 hgrow1 _; obtain ⟨g1, cp1, rfl⟩ := ownsRow_two hown1; have hb1 := app_below hb hrow hgrow1 hbs; have hbs1 := hb1.size; have d2 := (hb1.cell (p := ⟨b, off + k, none⟩) hbB).trans dw) | (at_builtin; refine wpList_append_own _ rfl (.tmp 34) (.tmp 39) 28 rfl w.heap.size 22 i0 (.int .u64 0) 1 8 Tryz.underlying28 hi hz0 hz1 hz2 rfl (by decide) _ _ _ rfl (hown1.alloc _) ⟨w1.heap.size, 0, none⟩ 1 1 [.int .u64 y] rfl rfl (cell_one_new _ _ _) (by simp [Value.oneCell']) (by unfold maxLen; omega) (by omega) (by simp; omega) ?_; intro v2 w2 hown2 hgrow2 _; obtain ⟨g2, cp2, rfl⟩ := ownsRow_two hown2; have hb2 := app_below hb1 hown1 hgrow2 hbs1))
      go_roundw
      case rel => exact ⟨k + 1, true, O ++ [x] ++ [y], some ⟨g2, 0, none⟩, cp2, by omega, by go_num, rfl, by simp, hO.out.trans (by rw [HW.out]; simp [hyx, hxy]), by simp; omega, by simpa using hown2, hb2⟩
      case measure => simp [intOf]; omega
    ·have hyx : ¬ y = x := by omega
     have hyb : (y == x) = false := by simpa using hyx
     go_wp2_with (at_builtin; refine wpList_append_own _ rfl (.tmp 34) (.tmp 39) 28 rfl w.heap.size 22 i0 (.int .u64 0) 1 8 Tryz.underlying28 hi hz0 hz1 hz2 rfl (by decide) _ _ _ rfl (hrow.alloc _) ⟨wr.heap.size, 0, none⟩ 1 1 [.int .u64 y] rfl rfl (cell_one_new _ _ _) (by simp [Value.oneCell']) (by unfold maxLen; omega) (by omega) (by simp; omega) ?_; intro v1 w1 hown1 hgrow1 _; obtain ⟨g1, cp1, rfl⟩ := ownsRow_two hown1; have hb1 := app_below hb hrow hgrow1 hbs)
     go_roundw
     case rel => exact ⟨k + 1, false, O ++ [y], some ⟨g1, 0, none⟩, cp1, by omega, by go_num, rfl, by simp, hO.out.trans (by rw [HW.out]; simp [hyx, hxy]), by simp; omega, by simpa using hown1, hb1⟩
     case measure => simp [intOf]; omega
  ·have hO' : Hid (insL C x = O ++ il x d []) := by
    have h2 : C.drop k = [] := List.drop_eq_nil_of_le (by omega)
    have h3 := hO.out
    rw [h2] at h3
    exact h3
   clear hC hO
   cases d with
   | true =>
    have hO2 : Hid (insL C x = O) := by have := hO'.out; show insL C x = O; simpa [il] using this
    go_wp2
    go_ret
    exact ⟨_, _, _, rfl, by rw [hO2.out]; exact Cts.row hrow, hb⟩
   | false =>
    have hO2 : Hid (insL C x = O ++ [x]) := hO'.out
    go_wp2_with (at_builtin; refine wpList_append_own _ rfl (.tmp 43) (.tmp 45) 28 rfl w.heap.size 22 i0 (.int .u64 0) 1 8 Tryz.underlying28 hi hz0 hz1 hz2 rfl (by decide) _ _ _ rfl (hrow.alloc _) ⟨wr.heap.size, 0, none⟩ 1 1 [.int .u64 x] rfl rfl (cell_one_new _ _ _) (by simp [Value.oneCell']) (by unfold maxLen; omega) (by omega) (by simp; omega) ?_; intro v1 w1 hown1 hgrow1 _; obtain ⟨g1, cp1, rfl⟩ := ownsRow_two hown1; have hb1 := app_below hb hrow hgrow1 hbs)
    go_ret
    exact ⟨_, _, _, rfl, by rw [hO2.out]; exact Cts.row (by simpa using hown1), hb1⟩

def h1 (U W : List (Int × Int)) (k : Nat) : List Int := ((U.take k).filter fun p => decide (get W p.1 < p.2)).map Prod.fst
theorem h1_succ {U W : List (Int × Int)} {k : Nat} {x y : Int} (h : k < U.length) (e : U.getD k (0, 0) = (x, y)) : h1 U W (k + 1) = h1 U W k ++ (if get W x < y then [x] else []) := by
 have e' : U[k] = (x, y) := by simpa [List.getD_eq_getElem?_getD, List.getElem?_eq_getElem h] using e
 unfold h1
 rw [List.take_succ_eq_append_getElem h, e', List.filter_append, List.map_append]
 by_cases hy : get W x < y <;> simp [hy]
theorem h1_len (U W : List (Int × Int)) (k : Nat) : (h1 U W k).length ≤ k := by
 unfold h1
 rw [List.length_map]
 exact Nat.le_trans (List.length_filter_le _ _) (by rw [List.length_take]; omega)
def h2s (U T : List (Int × Int)) (acc : List Int) (q : Int × Int) : List Int := if q.2 < get U q.1 ∧ get T q.1 = 2 then insL acc q.1 else acc
def h2 (U T W : List (Int × Int)) (k : Nat) : List Int := (W.take k).foldl (h2s U T) (h1 U W U.length)
theorem h2_succ {U T W : List (Int × Int)} {k : Nat} {x y : Int} (h : k < W.length) (e : W.getD k (0, 0) = (x, y)) : h2 U T W (k + 1) = h2s U T (h2 U T W k) (x, y) := by
 have e' : W[k] = (x, y) := by simpa [List.getD_eq_getElem?_getD, List.getElem?_eq_getElem h] using e
 unfold h2
 rw [List.take_succ_eq_append_getElem h, e', List.foldl_append]
 rfl
theorem h2s_hit {U T : List (Int × Int)} {acc : List Int} {x y : Int} (h : y < get U x) (k : get T x = 2) : h2s U T acc (x, y) = insL acc x := by unfold h2s; rw [if_pos ⟨h, k⟩]
theorem h2s_miss {U T : List (Int × Int)} {acc : List Int} {x y : Int} (h : ¬ (y < get U x ∧ get T x = 2)) : h2s U T acc (x, y) = acc := by unfold h2s; rw [if_neg h]

theorem rhides_any {w : World} {a1 a2 : Option Addr} {n1 n2 c1 c2 : Nat} {T W : List (Int × Int)} (hT : Lab w.heap.size w a1 n1 c1 T) (hW : Lab w.heap.size w a2 n2 c2 W) (k1 : n1 < 1048576) (k2 : n2 < 1048576) (fT : Fit T) :
  Calls Tryz.prog 19 #[.slice a1 n1 c1, .slice a2 n2 c2] w fun e w' => ∃ ao m cap, e = .returned (.slice ao m cap) ∧ Cts w'.heap.size w' ao m cap (h2 (raiseL T) T W W.length) ∧ Below w.heap.size w w' := by
 obtain ⟨i0, hi, hz0, hz1, hz2⟩ := info_parts infoU64
 go_enter Tryz.func19, Tryz.ntmps19
 go_wp2_with (go_at_call 45; refine (rraise_f hT (by omega) fT).mono ?_; rintro e w1 ⟨ar, nr, cr, rfl, hU, knr, kb⟩)
 have hT1 := hT.next kb
 have hW1 := hW.next kb
 clear hT hW
 have hUl := hU.1
 have hUn := hU.2.1
 have hUm := hU.2.2.1.1
 have hWl := hW1.1
 have hWn := hW1.2.1
 have hWm := hW1.2.2.1.1
 go_loopw [6, 7] (fun v i wr => ∃ k : Nat, k ≤ nr ∧ i = .int .i64 k ∧ wr.ownsRow w1.heap.size 22 1 v (h1 (raiseL T) W k).length ((h1 (raiseL T) W k).map (Value.int .u64)) ∧ Below w1.heap.size w1 wr) (fun _ i _ => nr - (intOf i).toNat)
 case atStart => exact ⟨0, Nat.zero_le _, rfl, World.ownsRow_nil _ _ _ _, Below.refl _ _⟩
 case round =>
  obtain ⟨k, hkn, rfl, hrow, hb⟩ := hrel
  have hbs := hb.size
  have hlk := h1_len (raiseL T) W k
  by_cases hlt : k < nr
  ·obtain ⟨b, off, x, y, hao, hbB, d0, d1, hxy⟩ := hU.at hb hlt
   subst hao
   have hlt' : (k : Int) < nr := by omega
   have hs := h1_succ (W := W) (by omega) hxy.out
   have HW : ∀ m, Lab w1.heap.size (wr.drewN m) a2 n2 c2 W := fun m => hW1.later (below_drewN hb m)
   have hrow' : ∀ m, (wr.drewN m).ownsRow w1.heap.size 22 1 _ (h1 (raiseL T) W k).length ((h1 (raiseL T) W k).map (Value.int .u64)) := fun m => hrow
   clear hU hW1 hT1
   by_cases hq : get W x < y
   ·have hS : Hid (h1 (raiseL T) W (k + 1) = h1 (raiseL T) W k ++ [x]) := by show h1 (raiseL T) W (k + 1) = _; rw [hs, if_pos hq]
    clear hs
    go_wp2
    go_quiet (first | (go_at_call 44; refine Calls.quiet_of_same (rget_any _ (HW _))))
    go_wp2_with (at_builtin; refine wpList_append_own _ rfl _ _ 28 rfl w1.heap.size 22 i0 (.int .u64 0) 1 8 Tryz.underlying28 hi hz0 hz1 hz2 rfl (by decide) _ _ _ rfl ((hrow' _).alloc _) ⟨wr.heap.size, 0, none⟩ 1 1 [.int .u64 x] rfl rfl (cell_one_new _ _ _) (by simp [Value.oneCell']) (by unfold maxLen; omega) (by omega) (by simp; omega) ?_; intro v1 w2 hown1 hgrow1 _; obtain ⟨g1, cp1, rfl⟩ := ownsRow_two hown1; have hb1 := app_below (below_drewN hb _) (hrow' _) hgrow1 hbs)
    go_roundw
    case rel => exact ⟨k + 1, by omega, by go_num, by rw [hS.out]; simpa using hown1, hb1⟩
    case measure => simp [intOf]; omega
   ·have hS : Hid (h1 (raiseL T) W (k + 1) = h1 (raiseL T) W k) := by show h1 (raiseL T) W (k + 1) = _; rw [hs, if_neg hq]; simp
    clear hs
    go_wp2
    go_quiet (first | (go_at_call 44; refine Calls.quiet_of_same (rget_any _ (HW _))))
    go_wp2
    go_roundw
    case rel => exact ⟨k + 1, by omega, by go_num, by rw [hS.out]; exact hrow, below_drewN hb _⟩
    case measure => simp [intOf]; omega
  ·obtain rfl : k = nr := by omega
   obtain ⟨aoO, capO, rfl, hO⟩ := Cts.of_row hrow
   have hO0 : Cts wr.heap.size wr aoO (h1 (raiseL T) W k).length capO (h2 (raiseL T) T W 0) := by
    have e : h2 (raiseL T) T W 0 = h1 (raiseL T) W k := by unfold h2; rw [← hUl]; rfl
    rw [e]; exact hO
   have hOl : (h1 (raiseL T) W k).length ≤ k := hlk
   clear hrow hO hlk
   generalize (h1 (raiseL T) W k).length = m0 at *
   go_wp2
   go_loopw [6, 8] (fun v i wr => ∃ (j : Nat) (ao1 : Option Addr) (m1 cap1 : Nat), j ≤ n2 ∧ i = .int .i64 j ∧ v = .slice ao1 m1 cap1 ∧ m1 ≤ k + j ∧ Cts wr.heap.size wr ao1 m1 cap1 (h2 (raiseL T) T W j) ∧ Below w1.heap.size w1 wr) (fun _ i _ => n2 - (intOf i).toNat)
   case atStart => exact ⟨0, _, _, _, Nat.zero_le _, rfl, rfl, hOl, hO0, hb⟩
   case round =>
    clear hO0 hb hbs hOl
    obtain ⟨j, ao1, m1, cap1, hjn, rfl, rfl, hm1, hC, hb⟩ := hrel
    have hbs := hb.size
    by_cases hlt2 : j < n2
    ·obtain ⟨b, off, x, y, hao, hbB, d0, d1, hxy⟩ := hW1.at hb hlt2
     subst hao
     have hlt' : (j : Int) < n2 := by omega
     have hs : Hid (h2 (raiseL T) T W (j + 1) = h2s (raiseL T) T (h2 (raiseL T) T W j) (x, y)) := h2_succ (by omega) hxy.out
     have HX : ∀ m, Labs (wr.drewN m) [(ar, k, cr, raiseL T), (a1, n1, c1, T)] := fun m => ((Labs.nil _).push (hT1.next (below_drewN hb m))).push (hU.next (below_drewN hb m))
     have hC' : ∀ m, Cts (wr.drewN m).heap.size (wr.drewN m) ao1 m1 cap1 (h2 (raiseL T) T W j) := fun m => hC
     have hCl := hC.1
     clear hU hW1 hT1
     by_cases hq : y < get (raiseL T) x
     ·have hqb : decide (y < get (raiseL T) x) = true := by simpa using hq
      by_cases h2q : get T x = 2
      ·have hS : Hid (h2 (raiseL T) T W (j + 1) = insL (h2 (raiseL T) T W j) x) := hs.out.trans (h2s_hit hq h2q)
       have h2b : (get T x == 2) = true := by simpa using h2q
       go_wp2
       go_quiet (first | (go_at_call 44; refine Calls.quiet_of_same (rget_any _ ((HX _).get (by repeat (first | exact List.Mem.head _ | apply List.Mem.tail))))))
       go_wp2_with (go_at_call 46; refine (insert_any _ (hC' _) (by omega)).mono ?_; rintro e w2 ⟨ao2, m2, cap2, rfl, hI, hb2⟩)
       go_roundw
       case rel => exact ⟨j + 1, ao2, m2, cap2, by omega, by go_num, rfl, by have h1 := hI.1; have h2 := insL_len (h2 (raiseL T) T W j) x; omega, by rw [hS.out]; exact hI, (below_drewN hb _).trans (hb2.mono hbs)⟩
       case measure => simp [intOf]; omega
      ·have hS : Hid (h2 (raiseL T) T W (j + 1) = h2 (raiseL T) T W j) := hs.out.trans (h2s_miss fun h => h2q h.2)
       have h2b : (get T x == 2) = false := by simpa using h2q
       go_wp2
       go_quiet (first | (go_at_call 44; refine Calls.quiet_of_same (rget_any _ ((HX _).get (by repeat (first | exact List.Mem.head _ | apply List.Mem.tail))))))
       go_wp2
       go_roundw
       case rel => exact ⟨j + 1, _, _, _, by omega, by go_num, rfl, by omega, by rw [hS.out]; exact hC, below_drewN hb _⟩
       case measure => simp [intOf]; omega
     ·have hS : Hid (h2 (raiseL T) T W (j + 1) = h2 (raiseL T) T W j) := hs.out.trans (h2s_miss fun h => hq h.1)
      have hqb : decide (y < get (raiseL T) x) = false := by simpa using hq
      go_wp2
      go_quiet (first | (go_at_call 44; refine Calls.quiet_of_same (rget_any _ ((HX _).get (by repeat (first | exact List.Mem.head _ | apply List.Mem.tail))))))
      go_wp2
      go_roundw
      case rel => exact ⟨j + 1, _, _, _, by omega, by go_num, rfl, by omega, by rw [hS.out]; exact hC, below_drewN hb _⟩
      case measure => simp [intOf]; omega
    ·have hj : j = W.length := by omega
     have hC2 : Hid (Cts wr.heap.size wr ao1 m1 cap1 (h2 (raiseL T) T W W.length)) := by rw [← hj]; exact hC
     clear hU hW1 hT1 hC
     go_wp2
     go_ret
     exact ⟨_, _, _, rfl, hC2.out, kb.trans (hb.mono kb.size)⟩

theorem ri_mem : ∀ {C : List Int} {b c : Int}, Ri b C → c ∈ C → b < c := by
 intro C
 induction C with
 | nil => intro b c _ h; cases h
 | cons x r ih =>
  intro b c h hm
  rcases List.mem_cons.1 hm with rfl | hm
  ·exact h.1
  ·have := ih h.2 hm
   have := h.1
   omega
theorem ri_ext : ∀ {A C : List Int} {b b' : Int}, Ri b A → Ri b' C → (∀ c, c ∈ A ↔ c ∈ C) → A = C := by
 intro A
 induction A with
 | nil =>
  intro C b b' _ _ h
  cases C with
  | nil => rfl
  | cons c s => exact absurd ((h c).2 (by simp)) (by simp)
 | cons a r ih =>
  intro C b b' hA hC h
  cases C with
  | nil => exact absurd ((h a).1 (by simp)) (by simp)
  | cons c s =>
   have hac : a = c := by
    rcases List.mem_cons.1 ((h a).1 (by simp)) with e | e
    ·exact e
    ·rcases List.mem_cons.1 ((h c).2 (by simp)) with e' | e'
     ·exact e'.symm
     ·have h1 := ri_mem hC.2 e
      have h2 := ri_mem hA.2 e'
      omega
   subst hac
   have : r = s := ih hA.2 hC.2 fun d => by
    have hd := h d
    simp only [List.mem_cons] at hd
    constructor
    ·intro k
     have := ri_mem hA.2 k
     exact (hd.1 (.inr k)).resolve_left (by omega)
    ·intro k
     have := ri_mem hC.2 k
     exact (hd.2 (.inr k)).resolve_left (by omega)
   rw [this]
theorem il_true {x : Int} : ∀ {C : List Int}, Ri x C → il x true C = C := by
 intro C
 induction C with
 | nil => intro _; simp [il]
 | cons c r ih =>
  intro h
  have hc : ¬ c = x := by have := h.1; omega
  have := ih (h.2.low (by have := h.1; omega))
  simp [il, hc, this]
theorem il_false {x : Int} : ∀ {C : List Int} {b : Int}, Ri b C → b < x → Ri b (il x false C) ∧ ∀ y, (y ∈ il x false C ↔ y = x ∨ y ∈ C) := by
 intro C
 induction C with
 | nil => intro b _ hx; exact ⟨⟨hx, trivial⟩, fun y => by simp [il]⟩
 | cons c r ih =>
  intro b h hx
  by_cases hxc : x ≤ c
  ·by_cases he : c = x
   ·subst he
    have e : il c false (c :: r) = c :: r := by simp [il, il_true h.2]
    rw [e]
    exact ⟨h, fun y => by simp⟩
   ·have e : il x false (c :: r) = x :: c :: r := by simp [il, hxc, he, il_true (h.2.low hxc)]
    rw [e]
    exact ⟨⟨hx, by omega, h.2⟩, fun y => by simp⟩
  ·have e : il x false (c :: r) = c :: il x false r := by
    have he : ¬ c = x := by omega
    simp [il, hxc, he]
   rw [e]
   obtain ⟨i1, i2⟩ := ih h.2 (by omega)
   refine ⟨⟨h.1, i1⟩, fun y => ?_⟩
   rw [List.mem_cons, i2, List.mem_cons]
   constructor
   ·rintro (h | h | h)
    ·exact .inr (.inl h)
    ·exact .inl h
    ·exact .inr (.inr h)
   ·rintro (h | h | h)
    ·exact .inr (.inl h)
    ·exact .inl h
    ·exact .inr (.inr h)
theorem filt_ri {f : Int × Int → Bool} : ∀ {U : List (Int × Int)} {b : Int}, Rc b U → Ri b ((U.filter f).map Prod.fst) := by
 intro U
 induction U with
 | nil => intro b _; trivial
 | cons p r ih =>
  intro b h
  have hi := ih h.2
  by_cases hf : f p = true
  ·rw [List.filter_cons_of_pos hf, List.map_cons]
   exact ⟨h.1, hi⟩
  ·rw [List.filter_cons_of_neg hf]
   exact hi.low (by have := h.1; omega)
theorem rc_mem : ∀ {U : List (Int × Int)} {b : Int} {p : Int × Int}, Rc b U → p ∈ U → b < p.1 := by
 intro U
 induction U with
 | nil => intro b p _ h; cases h
 | cons q r ih =>
  intro b p h hm
  rcases List.mem_cons.1 hm with rfl | hm
  ·exact h.1
  ·have := ih h.2 hm
   have := h.1
   omega
theorem h2_fold {U T : List (Int × Int)} {b : Int} : ∀ (Q : List (Int × Int)) (acc : List Int), Ri b acc → (∀ q ∈ Q, b < q.1) →
  Ri b (Q.foldl (h2s U T) acc) ∧ ∀ c, (c ∈ Q.foldl (h2s U T) acc ↔ c ∈ acc ∨ ∃ q ∈ Q, q.1 = c ∧ q.2 < get U c ∧ get T c = 2) := by
 intro Q
 induction Q with
 | nil => intro acc h _; exact ⟨h, fun c => by simp⟩
 | cons q r ih =>
  intro acc h hq
  have hq0 := hq q (by simp)
  rw [List.foldl_cons]
  by_cases hc : q.2 < get U q.1 ∧ get T q.1 = 2
  ·have e : h2s U T acc q = insL acc q.1 := by unfold h2s; rw [if_pos hc]
   rw [e]
   obtain ⟨j1, j2⟩ := il_false h hq0
   obtain ⟨i1, i2⟩ := ih (insL acc q.1) j1 fun x hx => hq x (by simp [hx])
   refine ⟨i1, fun c => ?_⟩
   rw [i2]
   have : c ∈ insL acc q.1 ↔ c = q.1 ∨ c ∈ acc := j2 c
   rw [this]
   constructor
   ·rintro ((rfl | h) | ⟨x, hx, h⟩)
    ·exact .inr ⟨q, by simp, rfl, hc⟩
    ·exact .inl h
    ·exact .inr ⟨x, by simp [hx], h⟩
   ·rintro (h | ⟨x, hx, h⟩)
    ·exact .inl (.inr h)
    ·rcases List.mem_cons.1 hx with rfl | hx
     ·exact .inl (.inl h.1.symm)
     ·exact .inr ⟨x, hx, h⟩
  ·have e : h2s U T acc q = acc := by unfold h2s; rw [if_neg hc]
   rw [e]
   obtain ⟨i1, i2⟩ := ih acc h fun x hx => hq x (by simp [hx])
   refine ⟨i1, fun c => ?_⟩
   rw [i2]
   constructor
   ·rintro (h | ⟨x, hx, h⟩)
    ·exact .inl h
    ·exact .inr ⟨x, by simp [hx], h⟩
   ·rintro (h | ⟨x, hx, h⟩)
    ·exact .inl h
    ·rcases List.mem_cons.1 hx with rfl | hx
     ·exfalso
      obtain ⟨h1, h2, h3⟩ := h
      exact hc ⟨by rw [h1]; exact h2, by rw [h1]; exact h3⟩
     ·exact .inr ⟨x, hx, h⟩

theorem hid_mem {T W : List (Int × Int)} (hT : Fit T) (hW : Fit W) (c : Int) : c ∈ h2 (raiseL T) T W W.length ↔ get W c < get (raiseL T) c := by
 have fU := raiseL_fit hT
 obtain ⟨b0, rU0⟩ := fU.rc
 obtain ⟨b1, rW0⟩ := hW.rc
 obtain ⟨rU, rW⟩ := rU0.both_low rW0
 have e1 : h2 (raiseL T) T W W.length = W.foldl (h2s (raiseL T) T) (((raiseL T).filter fun p => decide (get W p.1 < p.2)).map Prod.fst) := by
  unfold h2 h1
  rw [List.take_length, List.take_length]
 rw [e1]
 obtain ⟨i1, i2⟩ := h2_fold (U := raiseL T) (T := T) W (((raiseL T).filter fun p => decide (get W p.1 < p.2)).map Prod.fst) (filt_ri rU) (fun q hq => rc_mem rW hq)
 rw [i2]
 constructor
 ·rintro (h | ⟨q, hq, h1, h2, h3⟩)
  ·obtain ⟨p, hp, rfl⟩ := List.mem_map.1 h
   obtain ⟨hp1, hp2⟩ := List.mem_filter.1 hp
   rw [get_mem rU hp1]
   simpa using hp2
  ·rw [← h1, get_mem rW hq, h1]
   exact h2
 ·intro h
  by_cases hu : get (raiseL T) c = 2
  ·right
   have hw : get W c ≠ 2 := by omega
   obtain ⟨q, hq, h1, h2⟩ := mem_of_get hw
   refine ⟨q, hq, h1, by rw [h2]; exact h, ?_⟩
   rw [raiseL_get hT] at hu
   split at hu <;> omega
  ·left
   obtain ⟨p, hp, h1, h2⟩ := mem_of_get hu
   exact List.mem_map.2 ⟨p, List.mem_filter.2 ⟨hp, by rw [h1, h2]; simpa using h⟩, h1⟩
theorem hid_nil {T W : List (Int × Int)} (hT : Fit T) (hW : Fit W) : (h2 (raiseL T) T W W.length).length = 0 ↔ leqB (raiseL T) W = true := by
 rw [leqB_iff (raiseL_fit hT) hW, List.length_eq_zero_iff, List.eq_nil_iff_forall_not_mem]
 exact ⟨fun h k => Int.not_lt.1 fun q => h k ((hid_mem hT hW k).2 q), fun h k q => absurd ((hid_mem hT hW k).1 q) (Int.not_lt.2 (h k))⟩
end Go.Proofs.YtblklhgojdbfeaaGreat.HdM
