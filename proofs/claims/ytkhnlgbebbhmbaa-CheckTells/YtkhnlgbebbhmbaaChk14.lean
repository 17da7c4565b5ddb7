/-
  PROVED HERE: what the document's answer to Hides returns when it is called (contracts over this translation). The labels are fit and have fewer than 2^20 pairs.
-/
import Derived.Test.YtkhnlgbebbhmbaaChk13
import Derived.Test.YtkhnlgbebbhmbaaLabRef1
namespace Go.Proofs.Ytkhnlgbebbhmbaa
open Go.ChangeShapes Go.WideShapes Go.ChangeAt Go.RowKit
set_option linter.unusedVariables false

/-- What is still to be written of a rising list with one more; d: it has been written. -/
def il (x : Int) : Bool → List Int → List Int
  | d, [] => if d then [] else [x]
  | d, c :: r => (if !d && decide (x ≤ c) then [x] else []) ++ ((if c = x then [] else [c]) ++ il x (d || decide (x ≤ c)) r)
def insL (C : List Int) (x : Int) : List Int := il x false C
theorem il_drop {C : List Int} {k : Nat} {y : Int} (h : k < C.length) (e : C.getD k 0 = y) (x : Int) (d : Bool) :
    il x d (C.drop k) = (if !d && decide (x ≤ y) then [x] else []) ++ ((if y = x then [] else [y]) ++ il x (d || decide (x ≤ y)) (C.drop (k + 1))) := by
  have e' : C[k] = y := by simpa [List.getD_eq_getElem?_getD, List.getElem?_eq_getElem h] using e
  rw [List.drop_eq_getElem_cons h, e']
  rfl
theorem il_len (x : Int) : ∀ (C : List Int) (d : Bool), (il x d C).length ≤ C.length + (if d then 0 else 1) := by
  intro C
  induction C with
  | nil => intro d; cases d <;> simp [il]
  | cons c r ih =>
    intro d
    have h := ih (d || decide (x ≤ c))
    simp only [il, List.length_append, List.length_cons]
    cases d <;> by_cases h1 : x ≤ c <;> by_cases h2 : c = x <;> simp [h1, h2] at h ⊢ <;> omega
theorem insL_len (C : List Int) (x : Int) : (insL C x).length ≤ C.length + 1 := by unfold insL; simpa using il_len x C false
theorem row_one {W : World} {base : Nat} {v : Value} {O : List Int} {x : Int} {m : Nat} (h : W.ownsRow base 37 1 v m (O.map (Value.int .u64) ++ [.int .u64 x])) (hm : m = O.length + 1) : W.ownsRow base 37 1 v (O ++ [x]).length ((O ++ [x]).map (Value.int .u64)) := by
  subst hm
  simpa using h

set_option maxHeartbeats 4000000 in
theorem insert_any {w : World} {ao : Option Addr} {n cap : Nat} {C : List Int} (x : Int) (hC : Cts w.heap.size w ao n cap C) (hn : n < 1073741824) :
    Calls Try.prog 51 #[.slice ao n cap, .int .u64 x] w fun e w' => ∃ ao1 n1 cap1, e = .returned (.slice ao1 n1 cap1) ∧ Cts w'.heap.size w' ao1 n1 cap1 (insL C x) ∧ Below w.heap.size w w' := by
  obtain ⟨i0, hi, hz0, hz1, hz2⟩ := info_parts infoU64
  have hll := hC.1
  have hnc := hC.2.1
  have hcm := hC.2.2.1
  go_enter Try.func51, Try.ntmps51
  go_wp2
  go_loopw [5, 6, 7] (fun v dv i wr => ∃ (k : Nat) (d : Bool) (O : List Int) (ao1 : Option Addr) (cap1 : Nat), k ≤ n ∧ i = .int .i64 k ∧ dv = .bool d ∧ v = .slice ao1 O.length cap1 ∧ Hid (insL C x = O ++ il x d (C.drop k)) ∧ O.length ≤ 2 * k ∧ wr.ownsRow w.heap.size 37 1 (.slice ao1 O.length cap1) O.length (O.map (Value.int .u64)) ∧ Below w.heap.size w wr) (fun _ _ i _ => n - (intOf i).toNat)
  case atStart => exact ⟨0, _, [], none, 0, Nat.zero_le _, rfl, rfl, rfl, rfl, Nat.le_refl _, World.ownsRow_nil _ _ _ _, Below.refl _ _⟩
  case round =>
    obtain ⟨k, d, O, ao1, cap1, hk, rfl, rfl, rfl, hO, hOl, hrow, hb⟩ := hrel
    have hbs := hb.size
    by_cases hkn : k < n
    · obtain ⟨b, off, y, hao, hbB, d0, hy⟩ := (hC.later hb).at hkn
      subst hao
      have hbw : b < wr.heap.size := by omega
      have HW : Hid (il x d (C.drop k) = _) := il_drop (by omega) hy.out x d
      have dd := (hC.at hkn)
      obtain ⟨b', off', y', hao', _, dw, hy'⟩ := dd
      simp only [Option.some.injEq, Addr.mk.injEq, and_true] at hao'
      obtain ⟨rfl, rfl⟩ := hao'
      obtain rfl : y = y' := hy.out.symm.trans hy'.out
      clear hC
      cases d with
      | true =>
        by_cases hyx : y = x
        · subst hyx
          go_wp2
          go_roundw
          case rel => exact ⟨k + 1, true, O, _, _, by omega, by go_num, rfl, rfl, hO.out.trans (by rw [HW.out]; simp), by omega, hrow, hb⟩
          case measure => simp [intOf]; omega
        · have hyb : (y == x) = false := by simpa using hyx
          go_wp2_with (at_builtin; refine wpList_append_own _ rfl (.tmp 34) (.tmp 39) 31 rfl w.heap.size 37 i0 (.int .u64 0) 1 8 Try.underlying31 hi hz0 hz1 hz2 rfl (by decide) _ _ _ rfl (hrow.alloc _) ⟨wr.heap.size, 0, none⟩ 1 1 [.int .u64 y] rfl rfl (cell_one_new _ _ _) (by simp [Value.oneCell']) (by unfold maxLen; omega) (by omega) (by simp; omega) ?_; intro v1 w1 hown1 hgrow1 _; obtain ⟨g1, cp1, rfl⟩ := ownsRow_two hown1; have hb1 := app_below hb hrow hgrow1 hbs)
          go_roundw
          case rel => exact ⟨k + 1, true, O ++ [y], some ⟨g1, 0, none⟩, cp1, by omega, by go_num, rfl, by simp, hO.out.trans (by rw [HW.out]; simp [hyx]), by simp; omega, by simpa using hown1, hb1⟩
          case measure => simp [intOf]; omega
      | false =>
        by_cases hxy : x ≤ y
        · by_cases hyx : y = x
          · subst hyx
            go_wp2_with (at_builtin; refine wpList_append_own _ rfl (.tmp 24) (.tmp 26) 31 rfl w.heap.size 37 i0 (.int .u64 0) 1 8 Try.underlying31 hi hz0 hz1 hz2 rfl (by decide) _ _ _ rfl (hrow.alloc _) ⟨wr.heap.size, 0, none⟩ 1 1 [.int .u64 y] rfl rfl (cell_one_new _ _ _) (by simp [Value.oneCell']) (by unfold maxLen; omega) (by omega) (by simp; omega) ?_; intro v1 w1 hown1 hgrow1 _; obtain ⟨g1, cp1, rfl⟩ := ownsRow_two hown1; have hb1 := app_below hb hrow hgrow1 hbs; have d2 := (hb1.cell (p := ⟨b, off + k, none⟩) hbB).trans dw)
            go_roundw
            case rel => exact ⟨k + 1, true, O ++ [y], some ⟨g1, 0, none⟩, cp1, by omega, by go_num, rfl, by simp, hO.out.trans (by rw [HW.out]; simp), by simp; omega, by simpa using hown1, hb1⟩
            case measure => simp [intOf]; omega
          · have hyb : (y == x) = false := by simpa using hyx
            go_wp2_with (first | (at_builtin; refine wpList_append_own _ rfl (.tmp 24) (.tmp 26) 31 rfl w.heap.size 37 i0 (.int .u64 0) 1 8 Try.underlying31 hi hz0 hz1 hz2 rfl (by decide) _ _ _ rfl (hrow.alloc _) ⟨wr.heap.size, 0, none⟩ 1 1 [.int .u64 x] rfl rfl (cell_one_new _ _ _) (by simp [Value.oneCell']) (by unfold maxLen; omega) (by omega) (by simp; omega) ?_; intro v1 w1 hown1 hgrow1 _; obtain ⟨g1, cp1, rfl⟩ := ownsRow_two hown1; have hb1 := app_below hb hrow hgrow1 hbs; have hbs1 := hb1.size; have d2 := (hb1.cell (p := ⟨b, off + k, none⟩) hbB).trans dw) | (at_builtin; refine wpList_append_own _ rfl (.tmp 34) (.tmp 39) 31 rfl w.heap.size 37 i0 (.int .u64 0) 1 8 Try.underlying31 hi hz0 hz1 hz2 rfl (by decide) _ _ _ rfl (hown1.alloc _) ⟨w1.heap.size, 0, none⟩ 1 1 [.int .u64 y] rfl rfl (cell_one_new _ _ _) (by simp [Value.oneCell']) (by unfold maxLen; omega) (by omega) (by simp; omega) ?_; intro v2 w2 hown2 hgrow2 _; obtain ⟨g2, cp2, rfl⟩ := ownsRow_two hown2; have hb2 := app_below hb1 hown1 hgrow2 hbs1))
            go_roundw
            case rel => exact ⟨k + 1, true, O ++ [x] ++ [y], some ⟨g2, 0, none⟩, cp2, by omega, by go_num, rfl, by simp, hO.out.trans (by rw [HW.out]; simp [hyx, hxy]), by simp; omega, by simpa using hown2, hb2⟩
            case measure => simp [intOf]; omega
        · have hyx : ¬ y = x := by omega
          have hyb : (y == x) = false := by simpa using hyx
          go_wp2_with (at_builtin; refine wpList_append_own _ rfl (.tmp 34) (.tmp 39) 31 rfl w.heap.size 37 i0 (.int .u64 0) 1 8 Try.underlying31 hi hz0 hz1 hz2 rfl (by decide) _ _ _ rfl (hrow.alloc _) ⟨wr.heap.size, 0, none⟩ 1 1 [.int .u64 y] rfl rfl (cell_one_new _ _ _) (by simp [Value.oneCell']) (by unfold maxLen; omega) (by omega) (by simp; omega) ?_; intro v1 w1 hown1 hgrow1 _; obtain ⟨g1, cp1, rfl⟩ := ownsRow_two hown1; have hb1 := app_below hb hrow hgrow1 hbs)
          go_roundw
          case rel => exact ⟨k + 1, false, O ++ [y], some ⟨g1, 0, none⟩, cp1, by omega, by go_num, rfl, by simp, hO.out.trans (by rw [HW.out]; simp [hyx, hxy]), by simp; omega, by simpa using hown1, hb1⟩
          case measure => simp [intOf]; omega
    · have hO' : Hid (insL C x = O ++ il x d []) := by
        have h2 : C.drop k = [] := List.drop_eq_nil_of_le (by omega)
        have h3 := hO.out
        rw [h2] at h3
        exact h3
      clear hC hO
      cases d with
      | true =>
        have hO2 : Hid (insL C x = O) := by have := hO'.out; show insL C x = O; simpa [il] using this
        go_wp2
        go_ret
        exact ⟨_, _, _, rfl, by rw [hO2.out]; exact Cts.row hrow, hb⟩
      | false =>
        have hO2 : Hid (insL C x = O ++ [x]) := hO'.out
        go_wp2_with (at_builtin; refine wpList_append_own _ rfl (.tmp 43) (.tmp 45) 31 rfl w.heap.size 37 i0 (.int .u64 0) 1 8 Try.underlying31 hi hz0 hz1 hz2 rfl (by decide) _ _ _ rfl (hrow.alloc _) ⟨wr.heap.size, 0, none⟩ 1 1 [.int .u64 x] rfl rfl (cell_one_new _ _ _) (by simp [Value.oneCell']) (by unfold maxLen; omega) (by omega) (by simp; omega) ?_; intro v1 w1 hown1 hgrow1 _; obtain ⟨g1, cp1, rfl⟩ := ownsRow_two hown1; have hb1 := app_below hb hrow hgrow1 hbs)
        go_ret
        exact ⟨_, _, _, rfl, by rw [hO2.out]; exact Cts.row (by simpa using hown1), hb1⟩
end Go.Proofs.Ytkhnlgbebbhmbaa
