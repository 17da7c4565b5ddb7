/-
  PROVED HERE: what the document's answer to Hides returns when it is called (a contract over this translation), and that it is what check.Hides returns. The labels are fit and have fewer than 2^20 pairs.
-/
import Derived.Test.YtkhnlgbebbhmbaaChk14
namespace Go.Proofs.Ytkhnlgbebbhmbaa
open Go.ChangeShapes Go.WideShapes Go.ChangeAt Go.RowKit
set_option linter.unusedVariables false

def h1 (U W : List (Int × Int)) (k : Nat) : List Int := ((U.take k).filter fun p => decide (get W p.1 < p.2)).map Prod.fst
theorem h1_succ {U W : List (Int × Int)} {k : Nat} {x y : Int} (h : k < U.length) (e : U.getD k (0, 0) = (x, y)) : h1 U W (k + 1) = h1 U W k ++ (if get W x < y then [x] else []) := by
  have e' : U[k] = (x, y) := by simpa [List.getD_eq_getElem?_getD, List.getElem?_eq_getElem h] using e
  unfold h1
  rw [List.take_succ_eq_append_getElem h, e', List.filter_append, List.map_append]
  by_cases hy : get W x < y <;> simp [hy]
theorem h1_len (U W : List (Int × Int)) (k : Nat) : (h1 U W k).length ≤ k := by
  unfold h1
  rw [List.length_map]
  exact Nat.le_trans (List.length_filter_le _ _) (by rw [List.length_take]; omega)
def h2s (U T : List (Int × Int)) (acc : List Int) (q : Int × Int) : List Int := if q.2 < get U q.1 ∧ get T q.1 = 2 then insL acc q.1 else acc
def h2 (U T W : List (Int × Int)) (k : Nat) : List Int := (W.take k).foldl (h2s U T) (h1 U W U.length)
theorem h2_succ {U T W : List (Int × Int)} {k : Nat} {x y : Int} (h : k < W.length) (e : W.getD k (0, 0) = (x, y)) : h2 U T W (k + 1) = h2s U T (h2 U T W k) (x, y) := by
  have e' : W[k] = (x, y) := by simpa [List.getD_eq_getElem?_getD, List.getElem?_eq_getElem h] using e
  unfold h2
  rw [List.take_succ_eq_append_getElem h, e', List.foldl_append]
  rfl
theorem h2s_hit {U T : List (Int × Int)} {acc : List Int} {x y : Int} (h : y < get U x) (k : get T x = 2) : h2s U T acc (x, y) = insL acc x := by unfold h2s; rw [if_pos ⟨h, k⟩]
theorem h2s_miss {U T : List (Int × Int)} {acc : List Int} {x y : Int} (h : ¬ (y < get U x ∧ get T x = 2)) : h2s U T acc (x, y) = acc := by unfold h2s; rw [if_neg h]

set_option maxRecDepth 100000 in
set_option maxHeartbeats 4000000 in
theorem rhides_any {w : World} {a1 a2 : Option Addr} {n1 n2 c1 c2 : Nat} {T W : List (Int × Int)} (hT : Lab w.heap.size w a1 n1 c1 T) (hW : Lab w.heap.size w a2 n2 c2 W) (k1 : n1 < 1048576) (k2 : n2 < 1048576) (fT : Fit T) :
    Calls Try.prog 29 #[.slice a1 n1 c1, .slice a2 n2 c2] w fun e w' => ∃ ao m cap, e = .returned (.slice ao m cap) ∧ Cts w'.heap.size w' ao m cap (h2 (raiseL T) T W W.length) ∧ Below w.heap.size w w' := by
  obtain ⟨i0, hi, hz0, hz1, hz2⟩ := info_parts infoU64
  go_enter Try.func29, Try.ntmps29
  go_wp2_with (go_at_call 31; refine (rraise_f hT (by omega) fT).mono ?_; rintro e w1 ⟨ar, nr, cr, rfl, hU, knr, kb⟩)
  have hT1 := hT.next kb
  have hW1 := hW.next kb
  clear hT hW
  have hUl := hU.1
  have hUn := hU.2.1
  have hUm := hU.2.2.1.1
  have hWl := hW1.1
  have hWn := hW1.2.1
  have hWm := hW1.2.2.1.1
  go_loopw [6, 7] (fun v i wr => ∃ k : Nat, k ≤ nr ∧ i = .int .i64 k ∧ wr.ownsRow w1.heap.size 37 1 v (h1 (raiseL T) W k).length ((h1 (raiseL T) W k).map (Value.int .u64)) ∧ Below w1.heap.size w1 wr) (fun _ i _ => nr - (intOf i).toNat)
  case atStart => exact ⟨0, Nat.zero_le _, rfl, World.ownsRow_nil _ _ _ _, Below.refl _ _⟩
  case round =>
    obtain ⟨k, hkn, rfl, hrow, hb⟩ := hrel
    have hbs := hb.size
    have hlk := h1_len (raiseL T) W k
    by_cases hlt : k < nr
    · obtain ⟨b, off, x, y, hao, hbB, d0, d1, hxy⟩ := hU.at hb hlt
      subst hao
      have hlt' : (k : Int) < nr := by omega
      have hs := h1_succ (W := W) (by omega) hxy.out
      have HW : ∀ m, Lab w1.heap.size (wr.drewN m) a2 n2 c2 W := fun m => hW1.later (below_drewN hb m)
      have hrow' : ∀ m, (wr.drewN m).ownsRow w1.heap.size 37 1 _ (h1 (raiseL T) W k).length ((h1 (raiseL T) W k).map (Value.int .u64)) := fun m => hrow
      clear hU hW1 hT1
      by_cases hq : get W x < y
      · have hS : Hid (h1 (raiseL T) W (k + 1) = h1 (raiseL T) W k ++ [x]) := by show h1 (raiseL T) W (k + 1) = _; rw [hs, if_pos hq]
        clear hs
        go_wp2
        go_quiet (first | (go_at_call 35; refine Calls.quiet_of_same (rget_any _ (HW _))))
        go_wp2_with (at_builtin; refine wpList_append_own _ rfl _ _ 31 rfl w1.heap.size 37 i0 (.int .u64 0) 1 8 Try.underlying31 hi hz0 hz1 hz2 rfl (by decide) _ _ _ rfl ((hrow' _).alloc _) ⟨wr.heap.size, 0, none⟩ 1 1 [.int .u64 x] rfl rfl (cell_one_new _ _ _) (by simp [Value.oneCell']) (by unfold maxLen; omega) (by omega) (by simp; omega) ?_; intro v1 w2 hown1 hgrow1 _; obtain ⟨g1, cp1, rfl⟩ := ownsRow_two hown1; have hb1 := app_below (below_drewN hb _) (hrow' _) hgrow1 hbs)
        go_roundw
        case rel => exact ⟨k + 1, by omega, by go_num, by rw [hS.out]; simpa using hown1, hb1⟩
        case measure => simp [intOf]; omega
      · have hS : Hid (h1 (raiseL T) W (k + 1) = h1 (raiseL T) W k) := by show h1 (raiseL T) W (k + 1) = _; rw [hs, if_neg hq]; simp
        clear hs
        go_wp2
        go_quiet (first | (go_at_call 35; refine Calls.quiet_of_same (rget_any _ (HW _))))
        go_wp2
        go_roundw
        case rel => exact ⟨k + 1, by omega, by go_num, by rw [hS.out]; exact hrow, below_drewN hb _⟩
        case measure => simp [intOf]; omega
    · obtain rfl : k = nr := by omega
      obtain ⟨aoO, capO, rfl, hO⟩ := Cts.of_row hrow
      have hO0 : Cts wr.heap.size wr aoO (h1 (raiseL T) W k).length capO (h2 (raiseL T) T W 0) := by
        have e : h2 (raiseL T) T W 0 = h1 (raiseL T) W k := by unfold h2; rw [← hUl]; rfl
        rw [e]; exact hO
      have hOl : (h1 (raiseL T) W k).length ≤ k := hlk
      clear hrow hO hlk
      generalize (h1 (raiseL T) W k).length = m0 at *
      go_wp2
      go_loopw [6, 8] (fun v i wr => ∃ (j : Nat) (ao1 : Option Addr) (m1 cap1 : Nat), j ≤ n2 ∧ i = .int .i64 j ∧ v = .slice ao1 m1 cap1 ∧ m1 ≤ k + j ∧ Cts wr.heap.size wr ao1 m1 cap1 (h2 (raiseL T) T W j) ∧ Below w1.heap.size w1 wr) (fun _ i _ => n2 - (intOf i).toNat)
      case atStart => exact ⟨0, _, _, _, Nat.zero_le _, rfl, rfl, hOl, hO0, hb⟩
      case round =>
        clear hO0 hb hbs hOl
        obtain ⟨j, ao1, m1, cap1, hjn, rfl, rfl, hm1, hC, hb⟩ := hrel
        have hbs := hb.size
        by_cases hlt2 : j < n2
        · obtain ⟨b, off, x, y, hao, hbB, d0, d1, hxy⟩ := hW1.at hb hlt2
          subst hao
          have hlt' : (j : Int) < n2 := by omega
          have hs : Hid (h2 (raiseL T) T W (j + 1) = h2s (raiseL T) T (h2 (raiseL T) T W j) (x, y)) := h2_succ (by omega) hxy.out
          have HX : ∀ m, Labs (wr.drewN m) [(ar, k, cr, raiseL T), (a1, n1, c1, T)] := fun m => ((Labs.nil _).push (hT1.next (below_drewN hb m))).push (hU.next (below_drewN hb m))
          have hC' : ∀ m, Cts (wr.drewN m).heap.size (wr.drewN m) ao1 m1 cap1 (h2 (raiseL T) T W j) := fun m => hC
          have hCl := hC.1
          clear hU hW1 hT1
          by_cases hq : y < get (raiseL T) x
          · have hqb : decide (y < get (raiseL T) x) = true := by simpa using hq
            by_cases h2q : get T x = 2
            · have hS : Hid (h2 (raiseL T) T W (j + 1) = insL (h2 (raiseL T) T W j) x) := hs.out.trans (h2s_hit hq h2q)
              have h2b : (get T x == 2) = true := by simpa using h2q
              go_wp2
              go_quiet (first | (go_at_call 35; refine Calls.quiet_of_same (rget_any _ ((HX _).get (by repeat (first | exact List.Mem.head _ | apply List.Mem.tail))))))
              go_wp2_with (go_at_call 51; refine (insert_any _ (hC' _) (by omega)).mono ?_; rintro e w2 ⟨ao2, m2, cap2, rfl, hI, hb2⟩)
              go_roundw
              case rel => exact ⟨j + 1, ao2, m2, cap2, by omega, by go_num, rfl, by have h1 := hI.1; have h2 := insL_len (h2 (raiseL T) T W j) x; omega, by rw [hS.out]; exact hI, (below_drewN hb _).trans (hb2.mono hbs)⟩
              case measure => simp [intOf]; omega
            · have hS : Hid (h2 (raiseL T) T W (j + 1) = h2 (raiseL T) T W j) := hs.out.trans (h2s_miss fun h => h2q h.2)
              have h2b : (get T x == 2) = false := by simpa using h2q
              go_wp2
              go_quiet (first | (go_at_call 35; refine Calls.quiet_of_same (rget_any _ ((HX _).get (by repeat (first | exact List.Mem.head _ | apply List.Mem.tail))))))
              go_wp2
              go_roundw
              case rel => exact ⟨j + 1, _, _, _, by omega, by go_num, rfl, by omega, by rw [hS.out]; exact hC, below_drewN hb _⟩
              case measure => simp [intOf]; omega
          · have hS : Hid (h2 (raiseL T) T W (j + 1) = h2 (raiseL T) T W j) := hs.out.trans (h2s_miss fun h => hq h.1)
            have hqb : decide (y < get (raiseL T) x) = false := by simpa using hq
            go_wp2
            go_quiet (first | (go_at_call 35; refine Calls.quiet_of_same (rget_any _ ((HX _).get (by repeat (first | exact List.Mem.head _ | apply List.Mem.tail))))))
            go_wp2
            go_roundw
            case rel => exact ⟨j + 1, _, _, _, by omega, by go_num, rfl, by omega, by rw [hS.out]; exact hC, below_drewN hb _⟩
            case measure => simp [intOf]; omega
        · have hj : j = W.length := by omega
          have hC2 : Hid (Cts wr.heap.size wr ao1 m1 cap1 (h2 (raiseL T) T W W.length)) := by rw [← hj]; exact hC
          clear hU hW1 hT1 hC
          go_wp2
          go_ret
          exact ⟨_, _, _, rfl, hC2.out, kb.trans (hb.mono kb.size)⟩
end Go.Proofs.Ytkhnlgbebbhmbaa
