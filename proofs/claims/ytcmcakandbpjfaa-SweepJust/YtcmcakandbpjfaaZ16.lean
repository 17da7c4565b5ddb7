/-
 PROVED HERE: what the document's Has and Apart of chapter 7 return when they are called (contracts over this translation); . What is asked stands at each.
-/
import Derived.Test.YtcmcakandbpjfaaZ5
import Derived.Test.YtcmcakandbpjfaaZ14
import Derived.Test.YtcmcakandbpjfaaZ15
namespace Go.Proofs.Ytcmcakandbpjfaa
set_option maxRecDepth 100000
set_option maxHeartbeats 8000000
open Go.RowKit Go.Shelf
set_option linter.unusedVariables false
attribute [local go_sem] Oper.semAt_some

theorem rHas_any {k a b m : Nat} (hm : m < 18446744073709551616) (w : World) :
  Calls Try.prog 59 #[.int .u64 (k : Int), .agg #[.int .u64 (a : Int), .int .u64 (b : Int)], .int .u64 (m : Int)] w fun e w' => e = .returned (.bool (SrM.hasK k a b m)) ∧ Below w.heap.size w w' := by
 have hn := fun w => SrM.rnum_any (key := k) hm w
 have hr : Hid (SrM.hasK k a b m = ((decide (1 ≤ m) && decide (m ≤ 2305843009213693952)) && (decide (a ≤ Pm.numN k m) && decide (Pm.numN k m < b)))) := rfl
 rw [hr.out]
 generalize Pm.numN k m = y at hn ⊢
 have d0 : (#[.int .u64 (a : Int), .int .u64 (b : Int)] : Array Value)[0]? = some (.int .u64 (a : Int)) := rfl
 have d1 : (#[.int .u64 (a : Int), .int .u64 (b : Int)] : Array Value)[1]? = some (.int .u64 (b : Int)) := rfl
 generalize (#[.int .u64 (a : Int), .int .u64 (b : Int)] : Array Value) = G at d0 d1 ⊢
 go_enter Try.func59, Try.ntmps59
 go_wp2_with (first
  | (with_reducible refine wpList_box rfl 47 _ rfl G rfl ?_; intro B2 W2 hN2 hB2 hk; replace d0 := (hB2.cell 0).trans d0; replace d1 := (hB2.cell 1).trans d1)
  | (go_at_call 78; (with_reducible refine (hn _).mono ?_); rintro e w1 ⟨rfl, rfl⟩)
  | ((with_reducible refine wpList_test (by with_unfolding_all rfl) .geq _ _ _ _ rfl (.int .u64 (m : Int)) _ rfl rfl (tge_int _ _ _ _ _ _) ?_ ?_) <;> intro hq1)
  | ((with_reducible refine wpList_test (by with_unfolding_all rfl) .leq _ _ _ _ rfl (.int .u64 (m : Int)) _ rfl rfl (tle_int _ _ _ _ _ _) ?_ ?_) <;> intro hq2)
  | ((with_reducible refine wpList_test (by with_unfolding_all rfl) .geq _ _ _ _ rfl (.int .u64 (y : Int)) _ rfl rfl (tge_int _ _ _ _ _ _) ?_ ?_) <;> intro hq3)
  | ((with_reducible refine wpList_test (by with_unfolding_all rfl) .lss _ _ _ _ rfl (.int .u64 (y : Int)) _ rfl rfl (tlt_int _ _ _ _ _ _) ?_ ?_) <;> intro hq4))
 all_goals
  go_ret
  refine ⟨congrArg (fun z => Ending.returned (.bool z)) ?_, hk⟩
  clear hr
  simp only [Hid] at *
  first
   | (refine Eq.symm ?_; simp only [Bool.and_eq_true, decide_eq_true_eq]; omega)
   | (refine Eq.symm ?_; rw [Bool.eq_false_iff]; simp only [ne_eq, Bool.and_eq_true, decide_eq_true_eq]; omega)
theorem rapart_any (a b c d : Nat) (w : World) :
  Calls Try.prog 60 #[.agg #[.int .u64 (a : Int), .int .u64 (b : Int)], .agg #[.int .u64 (c : Int), .int .u64 (d : Int)]] w fun e w' => e = .returned (.bool (rapB a b c d)) ∧ Below w.heap.size w w' := by
 have hr : Hid (rapB a b c d = (decide (a = b) || (decide (c = d) || (decide (b ≤ c) || decide (d ≤ a))))) := rfl
 rw [hr.out]
 have d0 : (#[.int .u64 (a : Int), .int .u64 (b : Int)] : Array Value)[0]? = some (.int .u64 (a : Int)) := rfl
 have d1 : (#[.int .u64 (a : Int), .int .u64 (b : Int)] : Array Value)[1]? = some (.int .u64 (b : Int)) := rfl
 have e0 : (#[.int .u64 (c : Int), .int .u64 (d : Int)] : Array Value)[0]? = some (.int .u64 (c : Int)) := rfl
 have e1 : (#[.int .u64 (c : Int), .int .u64 (d : Int)] : Array Value)[1]? = some (.int .u64 (d : Int)) := rfl
 generalize (#[.int .u64 (a : Int), .int .u64 (b : Int)] : Array Value) = G at d0 d1 ⊢
 generalize (#[.int .u64 (c : Int), .int .u64 (d : Int)] : Array Value) = H at e0 e1 ⊢
 go_enter Try.func60, Try.ntmps60
 go_wp2_with (first
  | (with_reducible refine wpList_box rfl 47 _ rfl G rfl ?_; intro B2 W2 hN2 hB2 hk)
  | (with_reducible refine wpList_box rfl 47 _ rfl H rfl ?_; intro B3 W3 hN3 hB3 hk3; replace hB2 := hB2.next hk3; replace hk := hk.trans (hk3.mono hk.size); replace d0 := (hB2.cell 0).trans d0; replace d1 := (hB2.cell 1).trans d1; replace e0 := (hB3.cell 0).trans e0; replace e1 := (hB3.cell 1).trans e1)
  | ((with_reducible refine wpList_test (by with_unfolding_all rfl) .eql _ _ _ _ rfl (.int .u64 (a : Int)) _ rfl rfl (eqg_int _ _ _ _ _ _) ?_ ?_) <;> intro hq1)
  | ((with_reducible refine wpList_test (by with_unfolding_all rfl) .eql _ _ _ _ rfl (.int .u64 (c : Int)) _ rfl rfl (eqg_int _ _ _ _ _ _) ?_ ?_) <;> intro hq2)
  | ((with_reducible refine wpList_test (by with_unfolding_all rfl) .leq _ _ _ _ rfl (.int .u64 (b : Int)) _ rfl rfl (tle_int _ _ _ _ _ _) ?_ ?_) <;> intro hq3)
  | ((with_reducible refine wpList_test (by with_unfolding_all rfl) .leq _ _ _ _ rfl (.int .u64 (d : Int)) _ rfl rfl (tle_int _ _ _ _ _ _) ?_ ?_) <;> intro hq4))
 all_goals
  go_ret
  refine ⟨congrArg (fun z => Ending.returned (.bool z)) ?_, hk⟩
  clear hr
  simp only [Hid] at *
  first
   | (refine Eq.symm ?_; simp only [Bool.or_eq_true, decide_eq_true_eq]; omega)
   | (refine Eq.symm ?_; rw [Bool.eq_false_iff]; simp only [ne_eq, Bool.or_eq_true, decide_eq_true_eq]; omega)
end Go.Proofs.Ytcmcakandbpjfaa
namespace Go.Proofs.Ytcmcakandbpjfaa
set_option maxRecDepth 100000
set_option maxHeartbeats 8000000
open Go.RowKit Go.Shelf
set_option linter.unusedVariables false
attribute [local go_sem] Oper.semAt_some

theorem spa_iff {key : Nat} {X : List Ob} : spaB key X = true ↔ ∀ i, i < X.length → (oat X i).kind = 4 → ∀ k, k < X.length → rowB key X i k = true := by
 unfold spaB
 rw [List.all_eq_true]
 refine forall_congr' fun i => ?_
 rw [List.mem_range]
 refine imp_congr_right fun _ => ?_
 by_cases h : (oat X i).kind = 4
 ·rw [decide_eq_true h, Bool.not_true, Bool.false_or, List.all_eq_true]
  simp only [List.mem_range]
  exact ⟨fun q _ => q, fun q => q h⟩
 ·rw [decide_eq_false h]
  exact ⟨fun _ q => absurd q h, fun _ => rfl⟩
theorem sp_next {key n i : Nat} {X : List Ob} (h : ∀ j, j < i → (oat X j).kind = 4 → ∀ m, m < n → rowB key X j m = true) (h1 : (oat X i).kind = 4 → ∀ m, m < n → rowB key X i m = true) : ∀ j, j < i + 1 → (oat X j).kind = 4 → ∀ m, m < n → rowB key X j m = true := by
 intro j hj
 rcases Nat.lt_or_ge j i with c | c
 ·exact h j c
 ·obtain rfl : j = i := by omega
  exact h1
theorem rspans_w {w : World} {t ro : Int} {key : Nat} {ao : Option Addr} {n cap : Nat} {X : List Ob} (h : Obs w ao n cap X) (hw : ∀ x ∈ X, WdO x) : Calls Try.prog 38 #[.agg #[.int .i64 t, .int .u64 (key : Int), .int .u64 ro, .slice ao n cap]] w fun e w' => e = .returned (.bool (spaB key X)) ∧ Below w.heap.size w w' := by
 have hn : Hid (X.length = n) := h.1
 have hnc := h.2.1
 have hcm := h.2.2.1.1
 have ga1 := Try.isAgg22
 have ga3 := Try.isAgg23
 have gai := Try.isAgg3
 have c1 : (#[.int .i64 t, .int .u64 (key : Int), .int .u64 ro, .slice ao n cap] : Array Value)[1]? = some (.int .u64 (key : Int)) := rfl
 have c3 : (#[.int .i64 t, .int .u64 (key : Int), .int .u64 ro, .slice ao n cap] : Array Value)[3]? = some (.slice ao n cap) := rfl
 have hyes : Hid ((∀ i, i < n → (oat X i).kind = 4 → ∀ k, k < n → rowB key X i k = true) → spaB key X = true) := by
  refine (?_ : (∀ i, i < n → (oat X i).kind = 4 → ∀ k, k < n → rowB key X i k = true) → spaB key X = true)
  intro q
  rw [spa_iff, hn.out]
  exact q
 have hno : Hid (∀ i k, i < n → k < n → (oat X i).kind = 4 → rowB key X i k = false → spaB key X = false) := by
  refine (?_ : ∀ i k, i < n → k < n → (oat X i).kind = 4 → rowB key X i k = false → spaB key X = false)
  intro i k hi hk h4 q
  rw [Bool.eq_false_iff]
  intro e
  rw [spa_iff, hn.out] at e
  have := e i hi h4 k hk
  rw [q] at this
  cases this
 have hwd : Hid (∀ i, i < n → WdO (oat X i)) := fun i hi => hw _ (oat_mem (by rw [hn.out]; exact hi))
 generalize spaB key X = res at hyes hno ⊢
 obtain ⟨G, hG⟩ : ∃ G : Array Value, G = #[.int .i64 t, .int .u64 (key : Int), .int .u64 ro, .slice ao n cap] := ⟨_, rfl⟩
 rw [← hG] at c1 c3
 rw [← hG]
 clear hG
 go_enter Try.func38, Try.ntmps38
 go_wp2_with (first
  | (with_reducible refine wpList_box rfl 25 _ rfl G rfl ?_; intro B W2 hN2 hB hk))
 clear hN2
 go_loopw [3] (fun j wr => ∃ k : Nat, k ≤ n ∧ j = .int .i64 k ∧ Hid (∀ i, i < k → (oat X i).kind = 4 → ∀ m, m < n → rowB key X i m = true) ∧ Blk wr B G 25 ∧ Below w.heap.size w wr) (fun j _ => n - (intOf j).toNat)
 case atStart => exact ⟨0, Nat.zero_le _, rfl, fun i hi => absurd hi (by omega), hB, hk⟩
 case round =>
  clear hB hk
  obtain ⟨i, hin, rfl, hal, hB, hk⟩ := hrel
  by_cases hkn : i < n
  ·obtain ⟨b, off, C, rfl, hbb, hC, hr⟩ := obs_at (obs_next h hk) hkn
   have hkn' : (i : Int) < n := by omega
   have hz := hC.size
   have h1c := hC.one
   have k1 := hC.kind
   have hwi := hwd.out i hkn
   have el : ((oat X i).th.lo.toNat : Int) = (oat X i).th.lo := Int.toNat_of_nonneg hwi.2.1.1
   have eh : ((oat X i).th.hi.toNat : Int) = (oat X i).th.hi := Int.toNat_of_nonneg hwi.2.2.1
   have hV : C.extract 37 (37 + 2) = #[.int .u64 ((oat X i).th.lo.toNat : Int), .int .u64 ((oat X i).th.hi.toNat : Int)] := by rw [el, eh]; exact ext2 hC.th.lo hC.th.hi
   go_wp2_with (first
    | (with_reducible refine wpList_load1 (by kernel_rfl) _ _ rfl B _ rfl _ _ hB _ c3 ga3 ?_)
    | (with_reducible refine wpList_loadm (by kernel_rfl) 54 _ rfl b _ rfl C hr _ Try.underlying54 (by kernel_rfl) (size40C hz) ?_)
    | ((with_reducible refine wpList_alloc rfl _ rfl zC zero40 ?_); intro R W3 hB3 hR3 hk3)
    | ((with_reducible refine wpList_store_blk rfl _ _ _ rfl R rfl C rfl zC hR3 (size40C hz) (zC_size.trans hz.symm) h1c ?_); intro W4 hR4 o4; have k4 := o4.below wr.heap.size wr (by have := hB3.out.1; omega) hk3; replace hB := hB.next k4; replace hk := hk.trans (k4.mono hk.size)))
   have hal2 : Hid ((oat X i).kind = 4 → ∀ q, q < 0 → rowB key X i q = true) := fun _ q hq => absurd hq (by omega)
   go_loopw [5] (fun j wr => ∃ k : Nat, k ≤ n ∧ j = .int .i64 k ∧ Hid ((oat X i).kind = 4 → ∀ q, q < k → rowB key X i q = true) ∧ Blk wr B G 25 ∧ Blk wr R C 54 ∧ Below w.heap.size w wr) (fun j _ => n - (intOf j).toNat)
   case atStart => exact ⟨0, Nat.zero_le _, rfl, hal2, hB, hR4, hk⟩
   case round =>
    rename_i wq _
    clear hB hk hR4 k4 hal2
    obtain ⟨m, hmn1, rfl, hrw, hB, hR4, hk⟩ := hrel
    by_cases h4 : (oat X i).kind = 4
    ·have h4b : ((oat X i).kind == 4) = true := by simpa using h4
     by_cases hmn : m < n
     ·obtain ⟨b2, off2, C2, e2, hbb2, hC2, hr2⟩ := obs_at (obs_next h hk) hmn
      cases e2
      have hmn' : (m : Int) < n := by omega
      have hz2 := hC2.size
      have h1c2 := hC2.one
      have k2 := hC2.kind
      have i2 := hC2.id
      have hwm := hwd.out m hmn
      have el2 : ((oat X m).th.lo.toNat : Int) = (oat X m).th.lo := Int.toNat_of_nonneg hwm.2.1.1
      have eh2 : ((oat X m).th.hi.toNat : Int) = (oat X m).th.hi := Int.toNat_of_nonneg hwm.2.2.1
      have ei2 : ((oat X m).id.toNat : Int) = (oat X m).id := Int.toNat_of_nonneg hwm.1.1
      have hV2 : C2.extract 37 (37 + 2) = #[.int .u64 ((oat X m).th.lo.toNat : Int), .int .u64 ((oat X m).th.hi.toNat : Int)] := by rw [el2, eh2]; exact ext2 hC2.th.lo hC2.th.hi
      rw [← ei2] at i2
      have hid64 : (oat X m).id.toNat < 18446744073709551616 := by have := hwm.1.2; omega
      have hrow : Hid (rowB key X i m = !(SrM.hasK key (oat X i).th.lo.toNat (oat X i).th.hi.toNat (oat X m).id.toNat || (decide ((oat X m).kind = 4) && (decide (m ≠ i) && !rapB (oat X i).th.lo.toNat (oat X i).th.hi.toNat (oat X m).th.lo.toNat (oat X m).th.hi.toNat)))) := rfl
      have hhas := fun W => rHas_any (k := key) (a := (oat X i).th.lo.toNat) (b := (oat X i).th.hi.toNat) hid64 W
      have hap := fun W => rapart_any (oat X i).th.lo.toNat (oat X i).th.hi.toNat (oat X m).th.lo.toNat (oat X m).th.hi.toNat W
      clear hwm el2 eh2 ei2 hid64 hwi el eh hC hC2 hr hbb2
      generalize SrM.hasK key (oat X i).th.lo.toNat (oat X i).th.hi.toNat (oat X m).id.toNat = hb0 at hhas hrow
      generalize rapB (oat X i).th.lo.toNat (oat X i).th.hi.toNat (oat X m).th.lo.toNat (oat X m).th.hi.toNat = ap0 at hap hrow
      generalize (oat X i).th.lo.toNat = lo at hV hhas hap
      generalize (oat X i).th.hi.toNat = hi at hV hhas hap
      generalize (oat X m).th.lo.toNat = lo2 at hV2 hap
      generalize (oat X m).th.hi.toNat = hi2 at hV2 hap
      generalize (oat X m).id.toNat = id2 at i2 hhas
      generalize (oat X m).kind = kd2 at k2 hrow
      have hnx : Hid (rowB key X i m = true → (oat X i).kind = 4 → ∀ q, q < m + 1 → rowB key X i q = true) := by
       refine (?_ : rowB key X i m = true → (oat X i).kind = 4 → ∀ q, q < m + 1 → rowB key X i q = true)
       intro e q4 q hq
       rcases Nat.lt_or_ge q m with c | c
       ·exact hrw.out q4 q c
       ·obtain rfl : q = m := by omega
        exact e
      cases hb0 with
      | true =>
       go_wp2_with (first
        | (with_reducible refine wpList_load1 (by first | kernel_rfl | with_unfolding_all rfl) _ _ rfl B _ rfl _ _ hB _ c3 ga3 ?_)
        | (with_reducible refine wpList_load1 (by first | kernel_rfl | with_unfolding_all rfl) _ _ rfl R _ rfl _ _ hR4 _ k1 gai ?_)
        | (with_reducible refine wpList_loadm (by first | kernel_rfl | with_unfolding_all rfl) 54 _ rfl b _ rfl C2 hr2 _ Try.underlying54 (by kernel_rfl) (size40C hz2) ?_)
        | ((with_reducible refine wpList_alloc rfl _ rfl zC zero40 ?_); intro R2 W5 hN5 hR5 hk5)
        | ((with_reducible refine wpList_store_blk rfl _ _ _ rfl R2 rfl C2 rfl zC hR5 (size40C hz2) (zC_size.trans hz2.symm) h1c2 ?_); intro W6 hR6 o6; have k6 := o6.below wr.heap.size wr (by have := hN5.out.1; omega) hk5; replace hB := hB.next k6; replace hR4 := hR4.next k6; replace hk := hk.trans (k6.mono hk.size); clear hN5 hR5 hk5 o6 k6)
        | (with_reducible refine wpList_load1 (by first | kernel_rfl | with_unfolding_all rfl) _ _ rfl B _ rfl _ _ hB _ c1 ga1 ?_)
        | (with_reducible refine wpList_load1 (by first | kernel_rfl | with_unfolding_all rfl) _ _ rfl R2 _ rfl _ _ hR6 _ i2 ga1 ?_)
        | (with_reducible refine wpList_load1 (by first | kernel_rfl | with_unfolding_all rfl) _ _ rfl R2 _ rfl _ _ hR6 _ k2 gai ?_)
        | (with_reducible refine wpList_loadp (by first | kernel_rfl | with_unfolding_all rfl) _ _ rfl R 37 rfl 2 C _ hR4 #[.int .u64 (lo : Int), .int .u64 (hi : Int)] hV (by omega) _ Try.underlying47 (by kernel_rfl) (by kernel_rfl) ?_)
        | (with_reducible refine wpList_loadp (by first | kernel_rfl | with_unfolding_all rfl) _ _ rfl R2 37 rfl 2 C2 _ hR6 #[.int .u64 (lo2 : Int), .int .u64 (hi2 : Int)] hV2 (by omega) _ Try.underlying47 (by kernel_rfl) (by kernel_rfl) ?_)
        | (go_at_call 59; (with_reducible refine (hhas _).mono ?_); rintro e w7 ⟨rfl, hb7⟩; replace hB := hB.next hb7; replace hR4 := hR4.next hb7; replace hR6 := hR6.next hb7; replace hk := hk.trans (hb7.mono hk.size); clear hb7)
        | (go_at_call 60; (with_reducible refine (hap _).mono ?_); rintro e w8 ⟨rfl, hb8⟩; replace hB := hB.next hb8; replace hR4 := hR4.next hb8; replace hR6 := hR6.next hb8; replace hk := hk.trans (hb8.mono hk.size); clear hb8)
        | ((with_reducible refine wpList_test (by first | kernel_rfl | with_unfolding_all rfl) .eql 3 _ _ _ rfl (.int .i64 kd2) (.int .i64 4) rfl rfl (eqg_int _ _ _ _ _ _) ?_ ?_) <;> intro hq2)
        | ((with_reducible refine wpList_test (by first | kernel_rfl | with_unfolding_all rfl) .neq 3 _ _ _ rfl (.int .i64 (m : Int)) (.int .i64 (i : Int)) rfl rfl (neg_int _ _ _ _ _ _) ?_ ?_) <;> intro hq3))
       go_ret
       exact ⟨by rw [hno.out i m hkn hmn h4 (by rw [hrow.out]; rfl)]; rfl, hk⟩
      | false =>
       cases ap0 with
       | true =>
        go_wp2_with (first
         | (with_reducible refine wpList_load1 (by first | kernel_rfl | with_unfolding_all rfl) _ _ rfl B _ rfl _ _ hB _ c3 ga3 ?_)
         | (with_reducible refine wpList_load1 (by first | kernel_rfl | with_unfolding_all rfl) _ _ rfl R _ rfl _ _ hR4 _ k1 gai ?_)
         | (with_reducible refine wpList_loadm (by first | kernel_rfl | with_unfolding_all rfl) 54 _ rfl b _ rfl C2 hr2 _ Try.underlying54 (by kernel_rfl) (size40C hz2) ?_)
         | ((with_reducible refine wpList_alloc rfl _ rfl zC zero40 ?_); intro R2 W5 hN5 hR5 hk5)
         | ((with_reducible refine wpList_store_blk rfl _ _ _ rfl R2 rfl C2 rfl zC hR5 (size40C hz2) (zC_size.trans hz2.symm) h1c2 ?_); intro W6 hR6 o6; have k6 := o6.below wr.heap.size wr (by have := hN5.out.1; omega) hk5; replace hB := hB.next k6; replace hR4 := hR4.next k6; replace hk := hk.trans (k6.mono hk.size); clear hN5 hR5 hk5 o6 k6)
         | (with_reducible refine wpList_load1 (by first | kernel_rfl | with_unfolding_all rfl) _ _ rfl B _ rfl _ _ hB _ c1 ga1 ?_)
         | (with_reducible refine wpList_load1 (by first | kernel_rfl | with_unfolding_all rfl) _ _ rfl R2 _ rfl _ _ hR6 _ i2 ga1 ?_)
         | (with_reducible refine wpList_load1 (by first | kernel_rfl | with_unfolding_all rfl) _ _ rfl R2 _ rfl _ _ hR6 _ k2 gai ?_)
         | (with_reducible refine wpList_loadp (by first | kernel_rfl | with_unfolding_all rfl) _ _ rfl R 37 rfl 2 C _ hR4 #[.int .u64 (lo : Int), .int .u64 (hi : Int)] hV (by omega) _ Try.underlying47 (by kernel_rfl) (by kernel_rfl) ?_)
         | (with_reducible refine wpList_loadp (by first | kernel_rfl | with_unfolding_all rfl) _ _ rfl R2 37 rfl 2 C2 _ hR6 #[.int .u64 (lo2 : Int), .int .u64 (hi2 : Int)] hV2 (by omega) _ Try.underlying47 (by kernel_rfl) (by kernel_rfl) ?_)
         | (go_at_call 59; (with_reducible refine (hhas _).mono ?_); rintro e w7 ⟨rfl, hb7⟩; replace hB := hB.next hb7; replace hR4 := hR4.next hb7; replace hR6 := hR6.next hb7; replace hk := hk.trans (hb7.mono hk.size); clear hb7)
         | (go_at_call 60; (with_reducible refine (hap _).mono ?_); rintro e w8 ⟨rfl, hb8⟩; replace hB := hB.next hb8; replace hR4 := hR4.next hb8; replace hR6 := hR6.next hb8; replace hk := hk.trans (hb8.mono hk.size); clear hb8)
         | ((with_reducible refine wpList_test (by first | kernel_rfl | with_unfolding_all rfl) .eql 3 _ _ _ rfl (.int .i64 kd2) (.int .i64 4) rfl rfl (eqg_int _ _ _ _ _ _) ?_ ?_) <;> intro hq2)
         | ((with_reducible refine wpList_test (by first | kernel_rfl | with_unfolding_all rfl) .neq 3 _ _ _ rfl (.int .i64 (m : Int)) (.int .i64 (i : Int)) rfl rfl (neg_int _ _ _ _ _ _) ?_ ?_) <;> intro hq3))
        all_goals
         go_roundw
         case rel => exact ⟨m + 1, by omega, by go_num, hnx.out (by rw [hrow.out]; simp), hB, hR4, hk⟩
         case measure => simp [intOf]; omega
       | false =>
        go_wp2_with (first
         | (with_reducible refine wpList_load1 (by first | kernel_rfl | with_unfolding_all rfl) _ _ rfl B _ rfl _ _ hB _ c3 ga3 ?_)
         | (with_reducible refine wpList_load1 (by first | kernel_rfl | with_unfolding_all rfl) _ _ rfl R _ rfl _ _ hR4 _ k1 gai ?_)
         | (with_reducible refine wpList_loadm (by first | kernel_rfl | with_unfolding_all rfl) 54 _ rfl b _ rfl C2 hr2 _ Try.underlying54 (by kernel_rfl) (size40C hz2) ?_)
         | ((with_reducible refine wpList_alloc rfl _ rfl zC zero40 ?_); intro R2 W5 hN5 hR5 hk5)
         | ((with_reducible refine wpList_store_blk rfl _ _ _ rfl R2 rfl C2 rfl zC hR5 (size40C hz2) (zC_size.trans hz2.symm) h1c2 ?_); intro W6 hR6 o6; have k6 := o6.below wr.heap.size wr (by have := hN5.out.1; omega) hk5; replace hB := hB.next k6; replace hR4 := hR4.next k6; replace hk := hk.trans (k6.mono hk.size); clear hN5 hR5 hk5 o6 k6)
         | (with_reducible refine wpList_load1 (by first | kernel_rfl | with_unfolding_all rfl) _ _ rfl B _ rfl _ _ hB _ c1 ga1 ?_)
         | (with_reducible refine wpList_load1 (by first | kernel_rfl | with_unfolding_all rfl) _ _ rfl R2 _ rfl _ _ hR6 _ i2 ga1 ?_)
         | (with_reducible refine wpList_load1 (by first | kernel_rfl | with_unfolding_all rfl) _ _ rfl R2 _ rfl _ _ hR6 _ k2 gai ?_)
         | (with_reducible refine wpList_loadp (by first | kernel_rfl | with_unfolding_all rfl) _ _ rfl R 37 rfl 2 C _ hR4 #[.int .u64 (lo : Int), .int .u64 (hi : Int)] hV (by omega) _ Try.underlying47 (by kernel_rfl) (by kernel_rfl) ?_)
         | (with_reducible refine wpList_loadp (by first | kernel_rfl | with_unfolding_all rfl) _ _ rfl R2 37 rfl 2 C2 _ hR6 #[.int .u64 (lo2 : Int), .int .u64 (hi2 : Int)] hV2 (by omega) _ Try.underlying47 (by kernel_rfl) (by kernel_rfl) ?_)
         | (go_at_call 59; (with_reducible refine (hhas _).mono ?_); rintro e w7 ⟨rfl, hb7⟩; replace hB := hB.next hb7; replace hR4 := hR4.next hb7; replace hR6 := hR6.next hb7; replace hk := hk.trans (hb7.mono hk.size); clear hb7)
         | (go_at_call 60; (with_reducible refine (hap _).mono ?_); rintro e w8 ⟨rfl, hb8⟩; replace hB := hB.next hb8; replace hR4 := hR4.next hb8; replace hR6 := hR6.next hb8; replace hk := hk.trans (hb8.mono hk.size); clear hb8)
         | ((with_reducible refine wpList_test (by first | kernel_rfl | with_unfolding_all rfl) .eql 3 _ _ _ rfl (.int .i64 kd2) (.int .i64 4) rfl rfl (eqg_int _ _ _ _ _ _) ?_ ?_) <;> intro hq2)
         | ((with_reducible refine wpList_test (by first | kernel_rfl | with_unfolding_all rfl) .neq 3 _ _ _ rfl (.int .i64 (m : Int)) (.int .i64 (i : Int)) rfl rfl (neg_int _ _ _ _ _ _) ?_ ?_) <;> intro hq3))
        ·go_ret
         exact ⟨by rw [hno.out i m hkn hmn h4 (by rw [hrow.out, decide_eq_true hq2.out, decide_eq_true (show m ≠ i by have := hq3.out; omega)]; rfl)]; rfl, hk⟩
        ·go_roundw
         case rel => exact ⟨m + 1, by omega, by go_num, hnx.out (by rw [hrow.out, decide_eq_false (show ¬ m ≠ i by have := hq3.out; omega)]; simp), hB, hR4, hk⟩
         case measure => simp [intOf]; omega
        ·go_roundw
         case rel => exact ⟨m + 1, by omega, by go_num, hnx.out (by rw [hrow.out, decide_eq_false hq2.out]; simp), hB, hR4, hk⟩
         case measure => simp [intOf]; omega
     ·obtain rfl : m = n := by omega
      go_wp2_with (first
       | (with_reducible refine wpList_load1 (by first | kernel_rfl | with_unfolding_all rfl) _ _ rfl B _ rfl _ _ hB _ c3 ga3 ?_)
       | (with_reducible refine wpList_load1 (by first | kernel_rfl | with_unfolding_all rfl) _ _ rfl R _ rfl _ _ hR4 _ k1 gai ?_))
      go_roundw
      case rel => exact ⟨i + 1, by omega, by go_num, sp_next hal.out hrw.out, hB, hk⟩
      case measure => simp [intOf]; omega
    ·have h4b : ((oat X i).kind == 4) = false := by simpa using h4
     by_cases hmn : m < n
     ·have hmn' : (m : Int) < n := by omega
      go_wp2_with (first
       | (with_reducible refine wpList_load1 (by first | kernel_rfl | with_unfolding_all rfl) _ _ rfl B _ rfl _ _ hB _ c3 ga3 ?_)
       | (with_reducible refine wpList_load1 (by first | kernel_rfl | with_unfolding_all rfl) _ _ rfl R _ rfl _ _ hR4 _ k1 gai ?_))
      go_roundw
      case rel => exact ⟨i + 1, by omega, by go_num, sp_next hal.out (fun q => absurd q h4), hB, hk⟩
      case measure => simp [intOf]; omega
     ·obtain rfl : m = n := by omega
      go_wp2_with (first
       | (with_reducible refine wpList_load1 (by first | kernel_rfl | with_unfolding_all rfl) _ _ rfl B _ rfl _ _ hB _ c3 ga3 ?_)
       | (with_reducible refine wpList_load1 (by first | kernel_rfl | with_unfolding_all rfl) _ _ rfl R _ rfl _ _ hR4 _ k1 gai ?_))
      go_roundw
      case rel => exact ⟨i + 1, by omega, by go_num, sp_next hal.out (fun q => absurd q h4), hB, hk⟩
      case measure => simp [intOf]; omega
  ·obtain rfl : i = n := by omega
   go_wp2_with (first
    | (with_reducible refine wpList_load1 (by kernel_rfl) _ _ rfl B _ rfl _ _ hB _ c3 ga3 ?_))
   go_ret
   exact ⟨by rw [hyes.out hal.out]; rfl, hk⟩
end Go.Proofs.Ytcmcakandbpjfaa
namespace Go.Proofs.Ytcmcakandbpjfaa
set_option maxRecDepth 100000
set_option maxHeartbeats 8000000
open Go.RowKit Go.Shelf
set_option linter.unusedVariables false
attribute [local go_sem] Oper.semAt_some

theorem own_ct {base : Nat} {w : World} {v : Value} {L : List Int} (h : w.ownsRow base 22 1 v L.length (wordsC L)) : ∃ al cl, v = .slice al L.length cl ∧ CtD (fun b => base ≤ b ∧ b < w.heap.size) w al L.length cl L := by
 obtain ⟨ao, cap, e, h1, h2, h3, h4⟩ := RowC.of_owns h
 refine ⟨ao, cap, e, rfl, h2, h3, fun hn => ?_⟩
 obtain ⟨b, off, ea, hb, hr⟩ := h4 hn
 refine ⟨b, off, ea, hb, fun i hi => ?_⟩
 refine hr i _ ?_
 unfold wordsC
 rw [List.getElem?_map, List.getElem?_eq_getElem hi, List.getD_eq_getElem?_getD, List.getElem?_eq_getElem hi]
 rfl
theorem own_base {W : World} {b b' : Nat} {e : TypeId} {size : Nat} {v : Value} {k : Nat} {xs : List Value} (hb : b' ≤ b) (h : W.ownsRow b e size v k xs) : W.ownsRow b' e size v k xs := by
 refine ⟨h.1, ?_⟩
 rcases h.2 with q | ⟨g, c, cur, q1, q2, q3⟩
 ·exact .inl q
 ·exact .inr ⟨g, c, cur, q1, Nat.le_trans hb q2, q3⟩
theorem abv_step {X : List Ob} {m : Nat} {j h : Int} {r : List Int} (e : holL X j = h :: r) : abvL X (m + 1) j = h :: abvL X m h := by
 conv => lhs; unfold abvL
 rw [e]
theorem abv_stop {X : List Ob} {m : Nat} {j : Int} (e : holL X j = []) : abvL X m j = [] := by
 cases m with
 | zero => rfl
 | succ m => unfold abvL; rw [e]
theorem rabove_w {w : World} {t ke ro : Int} {ao : Option Addr} {n cap : Nat} {X : List Ob} {i : Int} (h : Obs w ao n cap X) (hn16 : n ≤ 4096) : Calls Try.prog 77 #[.agg #[.int .i64 t, .int .u64 ke, .int .u64 ro, .slice ao n cap], .int .u64 i] w fun e w' => ∃ v, e = .returned v ∧ w'.ownsRow w.heap.size 22 1 v (rabv X i).length (wordsC (rabv X i)) ∧ Below w.heap.size w w' := by
 have hn : Hid (X.length = n) := h.1
 have ga1 := Try.isAgg22
 have ga3 := Try.isAgg23
 have c3 : (#[.int .i64 t, .int .u64 ke, .int .u64 ro, .slice ao n cap] : Array Value)[3]? = some (.slice ao n cap) := rfl
 have hzw : (Try.prog.info? 25).map (·.size) = some (#[.int .i64 t, .int .u64 ke, .int .u64 ro, .slice ao n cap] : Array Value).size := by kernel_rfl
 have hho := fun (W : World) (i : Int) (hk : Below w.heap.size w W) => rholders_any (t := t) (ke := ke) (ro := ro) (i := i) (obs_next h hk) hn16
 obtain ⟨G, hG⟩ : ∃ G : Array Value, G = #[.int .i64 t, .int .u64 ke, .int .u64 ro, .slice ao n cap] := ⟨_, rfl⟩
 rw [← hG] at c3 hzw hho
 rw [← hG]
 clear hG
 obtain ⟨A, hA⟩ : ∃ A, Hid (A = abvL X (n + 1) i) := ⟨_, rfl⟩
 obtain ⟨RV, hRV⟩ : ∃ RV, Hid (rabv X i = RV) := ⟨_, rfl⟩
 have hrv : Hid (RV = if A.length ≤ n then A else []) := by show RV = _; rw [← hRV.out]; unfold rabv; rw [hn.out, hA.out]
 rw [hRV.out]
 go_enter Try.func77, Try.ntmps77
 go_wp2_with (first
  | (with_reducible refine wpList_box rfl 25 _ rfl G rfl ?_; intro B2 W2 hN2 hB2 hk0))
 have hs0 := hk0.size
 clear hN2
 go_loopw [1, 5] (fun vi vo wr => ∃ (j : Int) (pre : List Int), vi = .int .u64 j ∧ pre.length ≤ n + 1 ∧ wr.ownsRow W2.heap.size 22 1 vo pre.length (wordsC pre) ∧ Hid (pre ++ abvL X (n + 1 - pre.length) j = A) ∧ Below W2.heap.size W2 wr) (fun _ vo _ => match vo with | .slice _ k _ => n + 1 - k | _ => 0)
 case atStart => exact ⟨i, [], rfl, Nat.zero_le _, World.ownsRow_nil _ _ _ _, hA.out.symm, Below.refl _ _⟩
 case round =>
  obtain ⟨j, pre, rfl, hpl, hown, hpa, hk2⟩ := hrel
  replace hB2 := hB2.next hk2
  have hk := hk0.trans (hk2.mono hs0)
  obtain ⟨al, cl, rfl, hct⟩ := own_ct hown
  by_cases hle : pre.length ≤ n
  ·have hle' : ((pre.length : Nat) : Int) ≤ n := by omega
   obtain ⟨m, hm⟩ : ∃ m, Hid (n + 1 - pre.length = m + 1) := ⟨n - pre.length, by show _ = _; omega⟩
   rw [hm.out] at hpa
   have hhj := hho wr j hk
   cases hj : holL X j with
   | nil =>
    rw [hj] at hhj
    have hA2 : Hid (A = pre) := by show A = pre; rw [← hpa.out, abv_stop hj, List.append_nil]
    go_wp2_with (first
     | (with_reducible refine wpList_load1 (by kernel_rfl) _ _ rfl B2 _ rfl _ _ hB2 _ c3 ga3 ?_)
     | (with_reducible refine wpList_loadb (by kernel_rfl) _ _ rfl B2 rfl G hB2 _ Try.underlying25 (by kernel_rfl) hzw ?_)
     | (go_at_call 17; (with_reducible refine hhj.mono ?_); rintro e w1 ⟨v, rfl, hown1, hb1⟩; obtain ⟨al1, cl1, rfl, hct1⟩ := own_ct hown1; replace hk := hk.trans (hb1.mono hk.size); have hown2 := own_next hown hb1))
    go_ret
    refine ⟨_, rfl, ?_, hk⟩
    have e : RV = pre := by rw [hrv.out, hA2.out, if_pos hle]
    rw [e]
    exact own_base hs0 hown2
   | cons a r =>
    rw [hj] at hhj
    have hst := abv_step (m := m) hj
    go_wp2_with (first
     | (with_reducible refine wpList_load1 (by kernel_rfl) _ _ rfl B2 _ rfl _ _ hB2 _ c3 ga3 ?_)
     | (with_reducible refine wpList_loadb (by kernel_rfl) _ _ rfl B2 rfl G hB2 _ Try.underlying25 (by kernel_rfl) hzw ?_)
     | (go_at_call 17; (with_reducible refine hhj.mono ?_); rintro e w1 ⟨v, rfl, hown1, hb1⟩; obtain ⟨al1, cl1, rfl, hct1⟩ := own_ct hown1; obtain ⟨b1, off1, rfl, hbb1, hc1⟩ := ct_at hct1 (i := 0) (by simp); have hB2' := hB2.next hb1; have hk1 := hk.trans (hb1.mono hk.size); have hown2 := own_next hown hb1; have hlr : (0 : Int) < ((a :: r).length : Nat) := (by simp only [List.length_cons]; omega); have hlz : ((((a :: r).length : Nat) : Int) == 0) = false := (by rw [beq_eq_false_iff_ne]; omega); simp only [List.getD_cons_zero] at hc1)
     | (with_reducible refine wpList_loadc (by kernel_rfl) _ _ rfl b1 _ rfl _ hc1 ga1 ?_)
     | ((with_reducible refine wpList_bsw rfl _ rfl a rfl ?_); intro Bq W8 hBq hbq hk8; have hown8 := own_next hown2 hk8)
     | (at_builtin; refine wpList_append_row infoW Try.underlying28 rfl (by omega) rfl _ _ rfl W2.heap.size _ _ _ rfl hown8 _ _ _ _ [.int .u64 a] rfl (row_word hbq) (fun u hu => by rw [List.mem_singleton] at hu; rw [hu]; rfl) (by unfold maxLen; omega) (by omega) (Nat.le_trans hk2.size (Nat.le_trans hb1.size hk8.size)) ?_; intro v' w2 hown' hgrow))
    go_roundw
    case rel =>
     have hk8' : Below W2.heap.size W2 W8 := (hk2.trans (hb1.mono hk2.size)).trans (hk8.mono (Nat.le_trans hk2.size hb1.size))
     have hb2 : Below W2.heap.size W2 w2 := hk8'.grown hgrow hk8'.size (own_ge hown8)
     refine ⟨a, pre ++ [a], rfl, by simp; omega, ?_, ?_, hb2⟩
     ·have e : wordsC (pre ++ [a]) = wordsC pre ++ [.int .u64 a] := by simp [wordsC]
      rw [e, List.length_append]
      exact hown'
     ·show pre ++ [a] ++ abvL X (n + 1 - (pre ++ [a]).length) a = A
      have e : n + 1 - (pre ++ [a]).length = m := by have := hm.out; simp; omega
      rw [e, ← hpa.out, hst, List.append_assoc]
      rfl
    case measure =>
     obtain ⟨al9, cl9, rfl, _⟩ := RowC.of_owns hown'
     simp only []
     omega
  ·have hle' : ¬ ((pre.length : Nat) : Int) ≤ n := by omega
   have hpn : Hid (pre.length = n + 1) := by show _ = _; omega
   have hA2 : Hid (A = pre) := by show A = pre; rw [← hpa.out, hpn.out, Nat.sub_self]; unfold abvL; rw [List.append_nil]
   go_wp2_with (first
    | (with_reducible refine wpList_load1 (by kernel_rfl) _ _ rfl B2 _ rfl _ _ hB2 _ c3 ga3 ?_))
   go_ret
   refine ⟨_, rfl, ?_, hk⟩
   have e : RV = [] := by rw [hrv.out, hA2.out, if_neg hle]
   rw [e]
   exact World.ownsRow_nil _ _ _ _
end Go.Proofs.Ytcmcakandbpjfaa
namespace Go.Proofs.Ytcmcakandbpjfaa
set_option maxRecDepth 100000
set_option maxHeartbeats 8000000
open Go.RowKit Go.Shelf
set_option linter.unusedVariables false
attribute [local go_sem] Oper.semAt_some

def AtW (v W : World) : Prop := W = v
theorem AtW.blk {v W : World} {B : Nat} {C : Array Value} {t : TypeId} (h : AtW v W) (k : Blk v B C t) : Blk W B C t := by
 unfold AtW at h
 rw [h]
 exact k
theorem AtW.cel {v W : World} {p : Addr} {x : Value} (h : AtW v W) (k : v.cell? p = some x) : W.cell? p = some x := by
 unfold AtW at h
 rw [h]
 exact k
theorem lnw_at {S : World → Prop} {ao : Option Addr} {n cap : Nat} : Obl.holds Try.prog S (.ln 28 3 (.slice ao n cap) (.int .i64 n)) := fun w hS => by
 go_simp
theorem last_getD (L : List Int) : L.getLast?.getD 0 = L.getD (L.length - 1) 0 := by
 rw [List.getLast?_eq_getElem?, List.getD_eq_getElem?_getD]
theorem rup_w {w : World} {t ke ro : Int} {ao : Option Addr} {n cap : Nat} {X : List Ob} {i : Int} (h : Obs w ao n cap X) (hn16 : n ≤ 4096) : Calls Try.prog 58 #[.agg #[.int .i64 t, .int .u64 ke, .int .u64 ro, .slice ao n cap], .int .u64 i] w fun e w' => e = .returned (.bool (upB X ro i)) ∧ Below w.heap.size w w' := by
 have hmx : Try.prog.follows .mixedOrders = true := by kernel_rfl
 have g2 : (#[.int .i64 t, .int .u64 ke, .int .u64 ro, .slice ao n cap] : Array Value)[2]? = some (.int .u64 ro) := rfl
 have hzw : (Try.prog.info? 25).map (·.size) = some (#[.int .i64 t, .int .u64 ke, .int .u64 ro, .slice ao n cap] : Array Value).size := by kernel_rfl
 have hab := fun (W : World) (hk : Below w.heap.size w W) => rabove_w (t := t) (ke := ke) (ro := ro) (i := i) (obs_next h hk) hn16
 have hlen : (rabv X i).length ≤ 4096 := by
  have hl : X.length = n := h.1
  unfold rabv
  split
  ·omega
  ·exact Nat.zero_le _
 have hU : Hid (upB X ro i = ((decide (i = ro) && decide ((rabv X i).length = 0)) || (decide (0 < (rabv X i).length) && decide ((rabv X i).getD ((rabv X i).length - 1) 0 = ro)))) := by
  show upB X ro i = _
  unfold upB
  rw [last_getD]
 rw [hU.out]
 generalize rabv X i = L at hab hlen
 obtain ⟨G, hG⟩ : ∃ G : Array Value, G = #[.int .i64 t, .int .u64 ke, .int .u64 ro, .slice ao n cap] := ⟨_, rfl⟩
 rw [← hG] at g2 hzw hab
 rw [← hG]
 clear hG
 go_enter Try.func58, Try.ntmps58
 go_wp2_with (first
  | (with_reducible refine wpList_box rfl 25 _ rfl G rfl ?_; intro B2 W2 hN2 hB2 hk)
  | (with_reducible refine wpList_loadb (by kernel_rfl) _ _ rfl B2 rfl G hB2 _ Try.underlying25 (by kernel_rfl) hzw ?_)
  | (go_at_call 77; (with_reducible refine (hab _ hk).mono ?_); rintro e w1 ⟨v, rfl, hown, hb1⟩; replace hB2 := hB2.next hb1; replace hk := hk.trans (hb1.mono hk.size); obtain ⟨al, cl, rfl, hct⟩ := own_ct hown))
 clear hN2
 have hkd := (Below.refl w1.heap.size w1).drew
 refine PgM.region_out (S := AtW w1.drew) hmx rfl (fun hS => ?_)
 replace hB2 := hB2.next hkd
 replace hk := hk.trans (hkd.mono hk.size)
 have hct2 := hct.laterK fun b hb => hkd.block b hb.2
 clear hct hown
 generalize w1.drew = W5 at hS hB2 hk hct2 ⊢
 clear hkd hb1
 by_cases q2 : L.length = 0
 ·replace q2 : Hid (L.length = 0) := q2
  have q2i : Hid ((L.length : Int) = 0) := by show _ = _; have := q2.out; omega
  have q2p : Hid (¬ (0 : Int) < (L.length : Int)) := by refine (?_ : ¬ (0 : Int) < (L.length : Int)); have := q2.out; omega
  by_cases q1 : i = ro
  ·replace q1 : Hid (i = ro) := q1
   refine wpAnyH_sym (by kernel_rfl) (fun _ _ _ _ _ h => h) hS [(0, none), (1, none), (2, some (.int .u64 ro)), (3, some (.bool true)), (4, none), (5, none), (6, some (.int .i64 L.length)), (7, some (.bool true)), (8, none), (9, none), (10, none), (11, none), (12, none), (13, none), (14, none), (15, none), (16, none), (17, none), (18, none), (19, none), (20, none), (21, none), (22, none), (23, none), (24, none), (25, none)] (l' := #[true, true, true, true, true, true, true, true, true, true, true, true, true, true, true, true, true, true, true, true, true, true, true, true, true, true]) (a' := { tmps := #[.agg G, .int .u64 i, .pointer (some ⟨B2, 0, none⟩), undef, .bool true, .slice al L.length cl, .agg G, .int .u64 i, .slice al L.length cl, .int .u64 i, .pointer (some ⟨B2, 2, none⟩), .int .u64 ro, .bool true, .bool true, .slice al L.length cl, .int .i64 L.length, .bool true, .bool true, .bool true, ud, ud, ud, ud, ud, ud, ud, ud, ud, ud, ud, ud, ud, undef, .bool true], defers := [] }) (obs := [.load 22 B2 2 (.int .u64 ro), .test .eql 22 (.tmp 9) (.tmp 11) (.int .u64 i) (.int .u64 ro) (.bool true), .ln 28 3 (.slice al L.length cl) (.int .i64 L.length), .test .eql 3 (.tmp 15) (.const (.int .i64 0)) (.int .i64 L.length) (.int .i64 0) (.bool true)]) (n := 0) (by kernel_rfl) (by kernel_rfl) ⟨ob_load1 (fun _ e => AtW.blk e hB2) g2 Try.isAgg22, ob_yes (fun _ => eqg_int _ _ _ _ _ _) q1, lnw_at, ob_yes (fun _ => eqg_int _ _ _ _ _ _) q2i, trivial⟩ ?_
   refine wpAnyH_done (by kernel_rfl) ?_ _
   go_wp2
   go_ret
   exact ⟨by rw [List.eq_nil_of_length_eq_zero q2.out]; simp [q1.out], hk⟩
  ·replace q1 : Hid (¬ i = ro) := q1
   refine wpAnyH_sym (by kernel_rfl) (fun _ _ _ _ _ h => h) hS [(0, none), (1, none), (2, some (.int .u64 ro)), (3, some (.bool false)), (4, none), (5, none), (6, none), (7, none), (8, none), (9, none), (10, none), (11, some (.int .i64 L.length)), (12, some (.bool false)), (13, none), (14, none), (15, none), (16, none), (17, none), (18, none), (19, none), (20, none), (21, none), (22, none), (23, none), (24, none), (25, none)] (l' := #[true, true, true, true, true, true, true, true, true, true, true, true, true, true, true, true, true, true, true, true, true, true, true, true, true, true]) (a' := { tmps := #[.agg G, .int .u64 i, .pointer (some ⟨B2, 0, none⟩), undef, .bool false, .slice al L.length cl, .agg G, .int .u64 i, .slice al L.length cl, .int .u64 i, .pointer (some ⟨B2, 2, none⟩), .int .u64 ro, .bool false, .bool false, ud, ud, undef, .bool false, .bool false, .slice al L.length cl, .int .i64 L.length, .bool false, .bool false, ud, ud, ud, ud, ud, ud, ud, ud, undef, .bool false, .bool false], defers := [] }) (obs := [.load 22 B2 2 (.int .u64 ro), .test .eql 22 (.tmp 9) (.tmp 11) (.int .u64 i) (.int .u64 ro) (.bool false), .ln 28 3 (.slice al L.length cl) (.int .i64 L.length), .test .gtr 3 (.tmp 20) (.const (.int .i64 0)) (.int .i64 L.length) (.int .i64 0) (.bool false)]) (n := 0) (by kernel_rfl) (by kernel_rfl) ⟨ob_load1 (fun _ e => AtW.blk e hB2) g2 Try.isAgg22, ob_no (fun _ => eqg_int _ _ _ _ _ _) q1, lnw_at, ob_no (fun _ => tgt_int _ _ _ _ _ _) q2p, trivial⟩ ?_
   refine wpAnyH_done (by kernel_rfl) ?_ _
   go_wp2
   go_ret
   exact ⟨by rw [List.eq_nil_of_length_eq_zero q2.out]; simp [q1.out], hk⟩
 ·replace q2 : Hid (¬ L.length = 0) := q2
  obtain ⟨m, hm⟩ : ∃ m, Hid (L.length = m + 1) := ⟨L.length - 1, by show _ = _; have := q2.out; omega⟩
  have hm2 : m < L.length := by have := hm.out; omega
  have hms : IntKind.i64.wrap ((L.length : Int) - 1) = (m : Int) := by rw [IntKind.wrap_i64]; have := hm.out; omega
  have q2i : Hid (¬ (L.length : Int) = 0) := by refine (?_ : ¬ (L.length : Int) = 0); have := q2.out; omega
  have q2p : Hid ((0 : Int) < (L.length : Int)) := by refine (?_ : (0 : Int) < (L.length : Int)); have := q2.out; omega
  obtain ⟨b, off, rfl, hbb, hc⟩ := ct_at hct2 hm2
  have hlz : L.getD (L.length - 1) 0 = L.getD m 0 := by rw [hm.out]; rfl
  generalize L.getD m 0 = z at hc hlz
  have q2q : 0 < L.length := by omega
  by_cases q1 : i = ro
  ·replace q1 : Hid (i = ro) := q1
   by_cases q3 : z = ro
   ·replace q3 : Hid (z = ro) := q3
    refine wpAnyH_sym (by kernel_rfl) (fun _ _ _ _ _ h => h) hS [(0, none), (1, none), (2, some (.int .u64 ro)), (3, some (.bool true)), (4, none), (5, none), (6, some (.int .i64 L.length)), (7, some (.bool false)), (8, none), (9, none), (10, none), (11, some (.int .i64 L.length)), (12, some (.bool true)), (13, none), (14, none), (15, none), (16, some (.int .i64 L.length)), (17, some (.int .i64 m)), (18, some (.pointer (some ⟨b, off + m, none⟩))), (19, some (.int .u64 z)), (20, none), (21, some (.int .u64 ro)), (22, some (.bool true)), (23, none), (24, none), (25, none)] (l' := #[true, true, true, true, true, true, true, true, true, true, true, true, true, true, true, true, true, true, true, true, true, true, true, true, true, true]) (a' := { tmps := #[.agg G, .int .u64 i, .pointer (some ⟨B2, 0, none⟩), undef, .bool true, .slice (some ⟨b, off, none⟩) L.length cl, .agg G, .int .u64 i, .slice (some ⟨b, off, none⟩) L.length cl, .int .u64 i, .pointer (some ⟨B2, 2, none⟩), .int .u64 ro, .bool true, .bool true, .slice (some ⟨b, off, none⟩) L.length cl, .int .i64 L.length, .bool false, .bool false, .bool false, .slice (some ⟨b, off, none⟩) L.length cl, .int .i64 L.length, .bool true, .bool true, .slice (some ⟨b, off, none⟩) L.length cl, .slice (some ⟨b, off, none⟩) L.length cl, .int .i64 L.length, .int .i64 m, .pointer (some ⟨b, off + m, none⟩), .int .u64 z, .pointer (some ⟨B2, 2, none⟩), .int .u64 ro, .bool true, .bool true, .bool true], defers := [] }) (obs := [.load 22 B2 2 (.int .u64 ro), .test .eql 22 (.tmp 9) (.tmp 11) (.int .u64 i) (.int .u64 ro) (.bool true), .ln 28 3 (.slice (some ⟨b, off, none⟩) L.length cl) (.int .i64 L.length), .test .eql 3 (.tmp 15) (.const (.int .i64 0)) (.int .i64 L.length) (.int .i64 0) (.bool false), .ln 28 3 (.slice (some ⟨b, off, none⟩) L.length cl) (.int .i64 L.length), .test .gtr 3 (.tmp 20) (.const (.int .i64 0)) (.int .i64 L.length) (.int .i64 0) (.bool true), .ln 28 3 (.slice (some ⟨b, off, none⟩) L.length cl) (.int .i64 L.length), .test .sub 3 (.tmp 25) (.const (.int .i64 1)) (.int .i64 L.length) (.int .i64 1) (.int .i64 m), .ia 28 (.slice (some ⟨b, off, none⟩) L.length cl) (.int .i64 m) (.pointer (some ⟨b, off + m, none⟩)), .load 22 b (off + m) (.int .u64 z), .load 22 B2 2 (.int .u64 ro), .test .eql 22 (.tmp 28) (.tmp 30) (.int .u64 z) (.int .u64 ro) (.bool true)]) (n := 0) (by kernel_rfl) (by kernel_rfl) ⟨ob_load1 (fun _ e => AtW.blk e hB2) g2 Try.isAgg22, ob_yes (fun _ => eqg_int _ _ _ _ _ _) q1, lnw_at, ob_no (fun _ => eqg_int _ _ _ _ _ _) q2i, lnw_at, ob_yes (fun _ => tgt_int _ _ _ _ _ _) q2p, lnw_at, sub_at hm hms, iaw_at hm2, ob_word (fun _ e => AtW.cel e hc) Try.isAgg22, ob_load1 (fun _ e => AtW.blk e hB2) g2 Try.isAgg22, ob_yes (fun _ => eqg_int _ _ _ _ _ _) q3, trivial⟩ ?_
    refine wpAnyH_done (by kernel_rfl) ?_ _
    go_wp2
    go_ret
    exact ⟨by rw [hlz]; simp [q1.out, q2.out, q2q, q3.out], hk⟩
   ·replace q3 : Hid (¬ z = ro) := q3
    refine wpAnyH_sym (by kernel_rfl) (fun _ _ _ _ _ h => h) hS [(0, none), (1, none), (2, some (.int .u64 ro)), (3, some (.bool true)), (4, none), (5, none), (6, some (.int .i64 L.length)), (7, some (.bool false)), (8, none), (9, none), (10, none), (11, some (.int .i64 L.length)), (12, some (.bool true)), (13, none), (14, none), (15, none), (16, some (.int .i64 L.length)), (17, some (.int .i64 m)), (18, some (.pointer (some ⟨b, off + m, none⟩))), (19, some (.int .u64 z)), (20, none), (21, some (.int .u64 ro)), (22, some (.bool false)), (23, none), (24, none), (25, none)] (l' := #[true, true, true, true, true, true, true, true, true, true, true, true, true, true, true, true, true, true, true, true, true, true, true, true, true, true]) (a' := { tmps := #[.agg G, .int .u64 i, .pointer (some ⟨B2, 0, none⟩), undef, .bool false, .slice (some ⟨b, off, none⟩) L.length cl, .agg G, .int .u64 i, .slice (some ⟨b, off, none⟩) L.length cl, .int .u64 i, .pointer (some ⟨B2, 2, none⟩), .int .u64 ro, .bool true, .bool true, .slice (some ⟨b, off, none⟩) L.length cl, .int .i64 L.length, .bool false, .bool false, .bool false, .slice (some ⟨b, off, none⟩) L.length cl, .int .i64 L.length, .bool true, .bool true, .slice (some ⟨b, off, none⟩) L.length cl, .slice (some ⟨b, off, none⟩) L.length cl, .int .i64 L.length, .int .i64 m, .pointer (some ⟨b, off + m, none⟩), .int .u64 z, .pointer (some ⟨B2, 2, none⟩), .int .u64 ro, .bool false, .bool false, .bool false], defers := [] }) (obs := [.load 22 B2 2 (.int .u64 ro), .test .eql 22 (.tmp 9) (.tmp 11) (.int .u64 i) (.int .u64 ro) (.bool true), .ln 28 3 (.slice (some ⟨b, off, none⟩) L.length cl) (.int .i64 L.length), .test .eql 3 (.tmp 15) (.const (.int .i64 0)) (.int .i64 L.length) (.int .i64 0) (.bool false), .ln 28 3 (.slice (some ⟨b, off, none⟩) L.length cl) (.int .i64 L.length), .test .gtr 3 (.tmp 20) (.const (.int .i64 0)) (.int .i64 L.length) (.int .i64 0) (.bool true), .ln 28 3 (.slice (some ⟨b, off, none⟩) L.length cl) (.int .i64 L.length), .test .sub 3 (.tmp 25) (.const (.int .i64 1)) (.int .i64 L.length) (.int .i64 1) (.int .i64 m), .ia 28 (.slice (some ⟨b, off, none⟩) L.length cl) (.int .i64 m) (.pointer (some ⟨b, off + m, none⟩)), .load 22 b (off + m) (.int .u64 z), .load 22 B2 2 (.int .u64 ro), .test .eql 22 (.tmp 28) (.tmp 30) (.int .u64 z) (.int .u64 ro) (.bool false)]) (n := 0) (by kernel_rfl) (by kernel_rfl) ⟨ob_load1 (fun _ e => AtW.blk e hB2) g2 Try.isAgg22, ob_yes (fun _ => eqg_int _ _ _ _ _ _) q1, lnw_at, ob_no (fun _ => eqg_int _ _ _ _ _ _) q2i, lnw_at, ob_yes (fun _ => tgt_int _ _ _ _ _ _) q2p, lnw_at, sub_at hm hms, iaw_at hm2, ob_word (fun _ e => AtW.cel e hc) Try.isAgg22, ob_load1 (fun _ e => AtW.blk e hB2) g2 Try.isAgg22, ob_no (fun _ => eqg_int _ _ _ _ _ _) q3, trivial⟩ ?_
    refine wpAnyH_done (by kernel_rfl) ?_ _
    go_wp2
    go_ret
    exact ⟨by rw [hlz]; simp [q1.out, q2.out, q2q, q3.out], hk⟩
  ·replace q1 : Hid (¬ i = ro) := q1
   by_cases q3 : z = ro
   ·replace q3 : Hid (z = ro) := q3
    refine wpAnyH_sym (by kernel_rfl) (fun _ _ _ _ _ h => h) hS [(0, none), (1, none), (2, some (.int .u64 ro)), (3, some (.bool false)), (4, none), (5, none), (6, none), (7, none), (8, none), (9, none), (10, none), (11, some (.int .i64 L.length)), (12, some (.bool true)), (13, none), (14, none), (15, none), (16, some (.int .i64 L.length)), (17, some (.int .i64 m)), (18, some (.pointer (some ⟨b, off + m, none⟩))), (19, some (.int .u64 z)), (20, none), (21, some (.int .u64 ro)), (22, some (.bool true)), (23, none), (24, none), (25, none)] (l' := #[true, true, true, true, true, true, true, true, true, true, true, true, true, true, true, true, true, true, true, true, true, true, true, true, true, true]) (a' := { tmps := #[.agg G, .int .u64 i, .pointer (some ⟨B2, 0, none⟩), undef, .bool true, .slice (some ⟨b, off, none⟩) L.length cl, .agg G, .int .u64 i, .slice (some ⟨b, off, none⟩) L.length cl, .int .u64 i, .pointer (some ⟨B2, 2, none⟩), .int .u64 ro, .bool false, .bool false, ud, ud, undef, .bool false, .bool false, .slice (some ⟨b, off, none⟩) L.length cl, .int .i64 L.length, .bool true, .bool true, .slice (some ⟨b, off, none⟩) L.length cl, .slice (some ⟨b, off, none⟩) L.length cl, .int .i64 L.length, .int .i64 m, .pointer (some ⟨b, off + m, none⟩), .int .u64 z, .pointer (some ⟨B2, 2, none⟩), .int .u64 ro, .bool true, .bool true, .bool true], defers := [] }) (obs := [.load 22 B2 2 (.int .u64 ro), .test .eql 22 (.tmp 9) (.tmp 11) (.int .u64 i) (.int .u64 ro) (.bool false), .ln 28 3 (.slice (some ⟨b, off, none⟩) L.length cl) (.int .i64 L.length), .test .gtr 3 (.tmp 20) (.const (.int .i64 0)) (.int .i64 L.length) (.int .i64 0) (.bool true), .ln 28 3 (.slice (some ⟨b, off, none⟩) L.length cl) (.int .i64 L.length), .test .sub 3 (.tmp 25) (.const (.int .i64 1)) (.int .i64 L.length) (.int .i64 1) (.int .i64 m), .ia 28 (.slice (some ⟨b, off, none⟩) L.length cl) (.int .i64 m) (.pointer (some ⟨b, off + m, none⟩)), .load 22 b (off + m) (.int .u64 z), .load 22 B2 2 (.int .u64 ro), .test .eql 22 (.tmp 28) (.tmp 30) (.int .u64 z) (.int .u64 ro) (.bool true)]) (n := 0) (by kernel_rfl) (by kernel_rfl) ⟨ob_load1 (fun _ e => AtW.blk e hB2) g2 Try.isAgg22, ob_no (fun _ => eqg_int _ _ _ _ _ _) q1, lnw_at, ob_yes (fun _ => tgt_int _ _ _ _ _ _) q2p, lnw_at, sub_at hm hms, iaw_at hm2, ob_word (fun _ e => AtW.cel e hc) Try.isAgg22, ob_load1 (fun _ e => AtW.blk e hB2) g2 Try.isAgg22, ob_yes (fun _ => eqg_int _ _ _ _ _ _) q3, trivial⟩ ?_
    refine wpAnyH_done (by kernel_rfl) ?_ _
    go_wp2
    go_ret
    exact ⟨by rw [hlz]; simp [q1.out, q2.out, q2q, q3.out], hk⟩
   ·replace q3 : Hid (¬ z = ro) := q3
    refine wpAnyH_sym (by kernel_rfl) (fun _ _ _ _ _ h => h) hS [(0, none), (1, none), (2, some (.int .u64 ro)), (3, some (.bool false)), (4, none), (5, none), (6, none), (7, none), (8, none), (9, none), (10, none), (11, some (.int .i64 L.length)), (12, some (.bool true)), (13, none), (14, none), (15, none), (16, some (.int .i64 L.length)), (17, some (.int .i64 m)), (18, some (.pointer (some ⟨b, off + m, none⟩))), (19, some (.int .u64 z)), (20, none), (21, some (.int .u64 ro)), (22, some (.bool false)), (23, none), (24, none), (25, none)] (l' := #[true, true, true, true, true, true, true, true, true, true, true, true, true, true, true, true, true, true, true, true, true, true, true, true, true, true]) (a' := { tmps := #[.agg G, .int .u64 i, .pointer (some ⟨B2, 0, none⟩), undef, .bool false, .slice (some ⟨b, off, none⟩) L.length cl, .agg G, .int .u64 i, .slice (some ⟨b, off, none⟩) L.length cl, .int .u64 i, .pointer (some ⟨B2, 2, none⟩), .int .u64 ro, .bool false, .bool false, ud, ud, undef, .bool false, .bool false, .slice (some ⟨b, off, none⟩) L.length cl, .int .i64 L.length, .bool true, .bool true, .slice (some ⟨b, off, none⟩) L.length cl, .slice (some ⟨b, off, none⟩) L.length cl, .int .i64 L.length, .int .i64 m, .pointer (some ⟨b, off + m, none⟩), .int .u64 z, .pointer (some ⟨B2, 2, none⟩), .int .u64 ro, .bool false, .bool false, .bool false], defers := [] }) (obs := [.load 22 B2 2 (.int .u64 ro), .test .eql 22 (.tmp 9) (.tmp 11) (.int .u64 i) (.int .u64 ro) (.bool false), .ln 28 3 (.slice (some ⟨b, off, none⟩) L.length cl) (.int .i64 L.length), .test .gtr 3 (.tmp 20) (.const (.int .i64 0)) (.int .i64 L.length) (.int .i64 0) (.bool true), .ln 28 3 (.slice (some ⟨b, off, none⟩) L.length cl) (.int .i64 L.length), .test .sub 3 (.tmp 25) (.const (.int .i64 1)) (.int .i64 L.length) (.int .i64 1) (.int .i64 m), .ia 28 (.slice (some ⟨b, off, none⟩) L.length cl) (.int .i64 m) (.pointer (some ⟨b, off + m, none⟩)), .load 22 b (off + m) (.int .u64 z), .load 22 B2 2 (.int .u64 ro), .test .eql 22 (.tmp 28) (.tmp 30) (.int .u64 z) (.int .u64 ro) (.bool false)]) (n := 0) (by kernel_rfl) (by kernel_rfl) ⟨ob_load1 (fun _ e => AtW.blk e hB2) g2 Try.isAgg22, ob_no (fun _ => eqg_int _ _ _ _ _ _) q1, lnw_at, ob_yes (fun _ => tgt_int _ _ _ _ _ _) q2p, lnw_at, sub_at hm hms, iaw_at hm2, ob_word (fun _ e => AtW.cel e hc) Try.isAgg22, ob_load1 (fun _ e => AtW.blk e hB2) g2 Try.isAgg22, ob_no (fun _ => eqg_int _ _ _ _ _ _) q3, trivial⟩ ?_
    refine wpAnyH_done (by kernel_rfl) ?_ _
    go_wp2
    go_ret
    exact ⟨by rw [hlz]; simp [q1.out, q2.out, q2q, q3.out], hk⟩
end Go.Proofs.Ytcmcakandbpjfaa
namespace Go.Proofs.Ytcmcakandbpjfaa
set_option maxRecDepth 100000
set_option maxHeartbeats 8000000
open Go.RowKit Go.Shelf
set_option linter.unusedVariables false
attribute [local go_sem] Oper.semAt_some

theorem rplaced_w {w : World} {t ke ro : Int} {ao : Option Addr} {n cap : Nat} {X : List Ob} {C : Array Value} {o : Ob} (h : Obs w ao n cap X) (hn16 : n ≤ 4096) (ho : ObD (LtN w) w C o) : Calls Try.prog 37 #[.agg #[.int .i64 t, .int .u64 ke, .int .u64 ro, .slice ao n cap], .agg C] w fun e w' => e = .returned (.bool (plaB X ro o)) ∧ Below w.heap.size w w' := by
 have g2 : (#[.int .i64 t, .int .u64 ke, .int .u64 ro, .slice ao n cap] : Array Value)[2]? = some (.int .u64 ro) := rfl
 have hzw : (Try.prog.info? 25).map (·.size) = some (#[.int .i64 t, .int .u64 ke, .int .u64 ro, .slice ao n cap] : Array Value).size := by kernel_rfl
 have hho := fun (W : World) (hk : Below w.heap.size w W) => rholders_any (t := t) (ke := ke) (ro := ro) (i := o.id) (obs_next h hk) hn16
 have hup := fun (W : World) (hk : Below w.heap.size w W) => rup_w (t := t) (ke := ke) (ro := ro) (i := o.id) (obs_next h hk) hn16
 have c0 := ho.id
 have c1 := ho.kind
 have c3 := ho.quota
 have c4 := ho.fixed
 have hP : Hid (plaB X ro o = if o.id = ro then decide ((holL X o.id).length = 0) && (decide (o.kind = 2) && decide (o.quota ≤ 1024)) else (decide (1 ≤ (holL X o.id).length) && !(decide (1 < (holL X o.id).length) && (!o.fixed || (decide (o.kind = 2) || decide (o.kind = 4))))) && (!decide (o.kind = 2) || upB X ro o.id)) := rfl
 rw [hP.out]
 clear hP
 obtain ⟨G, hG⟩ : ∃ G : Array Value, G = #[.int .i64 t, .int .u64 ke, .int .u64 ro, .slice ao n cap] := ⟨_, rfl⟩
 rw [← hG] at g2 hzw hho hup
 rw [← hG]
 clear hG ho
 obtain ⟨m, hm⟩ : ∃ m, Hid ((holL X o.id).length = m) := ⟨_, rfl⟩
 rw [hm.out]
 generalize holL X o.id = L at hho hm
 generalize upB X ro o.id = ub at hup ⊢
 generalize o.id = i at c0 hho hup ⊢
 generalize o.kind = kd at c1 ⊢
 generalize o.quota = qt at c3 ⊢
 generalize o.fixed = fx at c4 ⊢
 by_cases hi : i = ro
 ·subst hi
  rw [if_pos rfl]
  go_enter Try.func37, Try.ntmps37
  go_wp2_with (first
   | (with_reducible refine wpList_box rfl 25 _ rfl G rfl ?_; intro B2 W2 hN2 hB2 hk)
   | (with_reducible refine wpList_box rfl 54 _ rfl C rfl ?_; intro B3 W3 hN3 hB3 hk3; replace hB2 := hB2.next hk3; replace hk := hk.trans (hk3.mono hk.size))
   | (with_reducible refine wpList_loadb (by with_unfolding_all rfl) _ _ rfl B2 rfl G hB2 _ Try.underlying25 (by kernel_rfl) hzw ?_)
   | (with_reducible refine wpList_load1 (by with_unfolding_all rfl) _ _ rfl B3 _ rfl _ _ hB3 _ c0 Try.isAgg22 ?_)
   | (with_reducible refine wpList_load1 (by with_unfolding_all rfl) _ _ rfl B3 _ rfl _ _ hB3 _ c1 Try.isAgg3 ?_)
   | (with_reducible refine wpList_load1 (by with_unfolding_all rfl) _ _ rfl B3 _ rfl _ _ hB3 _ c3 Try.isAgg3 ?_)
   | (with_reducible refine wpList_load1 (by with_unfolding_all rfl) _ _ rfl B3 _ rfl _ _ hB3 _ c4 Try.isAgg4 ?_)
   | (with_reducible refine wpList_load1 (by with_unfolding_all rfl) _ _ rfl B2 _ rfl _ _ hB2 _ g2 Try.isAgg22 ?_)
   | (go_at_call 17; (with_reducible refine (hho _ hk).mono ?_); rintro e w1 ⟨v, rfl, hown, hb1⟩; replace hB2 := hB2.next hb1; replace hB3 := hB3.next hb1; replace hk := hk.trans (hb1.mono hk.size); obtain ⟨al, cl, he, hct⟩ := own_ct hown; rw [hm.out] at he; subst he; clear hct hown)
   | (go_at_call 58; (with_reducible refine (hup _ hk).mono ?_); rintro e w2 ⟨rfl, hb2⟩; replace hk := hk.trans (hb2.mono hk.size))
   | ((with_reducible refine wpList_test (by with_unfolding_all rfl) .eql 3 _ _ _ rfl (.int .i64 (m : Int)) _ rfl rfl (eqg_int _ _ _ _ _ _) ?_ ?_) <;> intro hq1)
   | ((with_reducible refine wpList_test (by with_unfolding_all rfl) .lss 3 _ _ _ rfl (.int .i64 (m : Int)) _ rfl rfl (tlt_int _ _ _ _ _ _) ?_ ?_) <;> intro hq4)
   | ((with_reducible refine wpList_test (by with_unfolding_all rfl) .gtr 3 _ _ _ rfl (.int .i64 (m : Int)) _ rfl rfl (tgt_int _ _ _ _ _ _) ?_ ?_) <;> intro hq5)
   | ((with_reducible refine wpList_test (by with_unfolding_all rfl) .eql 3 _ _ _ rfl (.int .i64 kd) (.int .i64 2) rfl rfl (eqg_int _ _ _ _ _ _) ?_ ?_) <;> intro hq2)
   | ((with_reducible refine wpList_test (by with_unfolding_all rfl) .eql 3 _ _ _ rfl (.int .i64 kd) (.int .i64 4) rfl rfl (eqg_int _ _ _ _ _ _) ?_ ?_) <;> intro hq6)
   | ((with_reducible refine wpList_test (by with_unfolding_all rfl) .neq 3 _ _ _ rfl (.int .i64 kd) (.int .i64 2) rfl rfl (neg_int _ _ _ _ _ _) ?_ ?_) <;> intro hq7)
   | ((with_reducible refine wpList_test (by with_unfolding_all rfl) .leq 3 _ _ _ rfl _ _ rfl rfl (tle_int _ _ _ _ _ _) ?_ ?_) <;> intro hq3))
  all_goals
   go_ret
   refine ⟨congrArg (fun z => Ending.returned (.bool z)) ?_, hk⟩
   clear hho hup hzw
   simp only [Hid] at *
   first
    | (refine Eq.symm ?_; simp only [Bool.and_eq_true, decide_eq_true_eq, decide_eq_false_iff_not, Bool.and_eq_false_iff]; omega)
    | (refine Eq.symm ?_; rw [Bool.eq_false_iff]; simp only [ne_eq, Bool.and_eq_true, Bool.or_eq_true, Bool.not_eq_true', decide_eq_true_eq, decide_eq_false_iff_not, Bool.and_eq_false_iff, Bool.or_eq_false_iff, reduceCtorEq, or_true, true_or, and_true, true_and, or_false, false_or, and_false, false_and, Bool.not_true, Bool.not_false]; omega)
 ·have hib : (i == ro) = false := by simpa using hi
  rw [if_neg hi]
  cases fx <;> cases ub
  all_goals
   go_enter Try.func37, Try.ntmps37
   go_wp2_with (first
    | (with_reducible refine wpList_box rfl 25 _ rfl G rfl ?_; intro B2 W2 hN2 hB2 hk)
    | (with_reducible refine wpList_box rfl 54 _ rfl C rfl ?_; intro B3 W3 hN3 hB3 hk3; replace hB2 := hB2.next hk3; replace hk := hk.trans (hk3.mono hk.size))
    | (with_reducible refine wpList_loadb (by with_unfolding_all rfl) _ _ rfl B2 rfl G hB2 _ Try.underlying25 (by kernel_rfl) hzw ?_)
    | (with_reducible refine wpList_load1 (by with_unfolding_all rfl) _ _ rfl B3 _ rfl _ _ hB3 _ c0 Try.isAgg22 ?_)
    | (with_reducible refine wpList_load1 (by with_unfolding_all rfl) _ _ rfl B3 _ rfl _ _ hB3 _ c1 Try.isAgg3 ?_)
    | (with_reducible refine wpList_load1 (by with_unfolding_all rfl) _ _ rfl B3 _ rfl _ _ hB3 _ c3 Try.isAgg3 ?_)
    | (with_reducible refine wpList_load1 (by with_unfolding_all rfl) _ _ rfl B3 _ rfl _ _ hB3 _ c4 Try.isAgg4 ?_)
    | (with_reducible refine wpList_load1 (by with_unfolding_all rfl) _ _ rfl B2 _ rfl _ _ hB2 _ g2 Try.isAgg22 ?_)
    | (go_at_call 17; (with_reducible refine (hho _ hk).mono ?_); rintro e w1 ⟨v, rfl, hown, hb1⟩; replace hB2 := hB2.next hb1; replace hB3 := hB3.next hb1; replace hk := hk.trans (hb1.mono hk.size); obtain ⟨al, cl, he, hct⟩ := own_ct hown; rw [hm.out] at he; subst he; clear hct hown)
    | (go_at_call 58; (with_reducible refine (hup _ hk).mono ?_); rintro e w2 ⟨rfl, hb2⟩; replace hk := hk.trans (hb2.mono hk.size))
    | ((with_reducible refine wpList_test (by with_unfolding_all rfl) .eql 3 _ _ _ rfl (.int .i64 (m : Int)) _ rfl rfl (eqg_int _ _ _ _ _ _) ?_ ?_) <;> intro hq1)
    | ((with_reducible refine wpList_test (by with_unfolding_all rfl) .lss 3 _ _ _ rfl (.int .i64 (m : Int)) _ rfl rfl (tlt_int _ _ _ _ _ _) ?_ ?_) <;> intro hq4)
    | ((with_reducible refine wpList_test (by with_unfolding_all rfl) .gtr 3 _ _ _ rfl (.int .i64 (m : Int)) _ rfl rfl (tgt_int _ _ _ _ _ _) ?_ ?_) <;> intro hq5)
    | ((with_reducible refine wpList_test (by with_unfolding_all rfl) .eql 3 _ _ _ rfl (.int .i64 kd) (.int .i64 2) rfl rfl (eqg_int _ _ _ _ _ _) ?_ ?_) <;> intro hq2)
    | ((with_reducible refine wpList_test (by with_unfolding_all rfl) .eql 3 _ _ _ rfl (.int .i64 kd) (.int .i64 4) rfl rfl (eqg_int _ _ _ _ _ _) ?_ ?_) <;> intro hq6)
    | ((with_reducible refine wpList_test (by with_unfolding_all rfl) .neq 3 _ _ _ rfl (.int .i64 kd) (.int .i64 2) rfl rfl (neg_int _ _ _ _ _ _) ?_ ?_) <;> intro hq7)
    | ((with_reducible refine wpList_test (by with_unfolding_all rfl) .leq 3 _ _ _ rfl _ _ rfl rfl (tle_int _ _ _ _ _ _) ?_ ?_) <;> intro hq3))
   all_goals
    go_ret
    refine ⟨congrArg (fun z => Ending.returned (.bool z)) ?_, hk⟩
    clear hho hup hzw
    simp only [Hid] at *
    first
     | (refine Eq.symm ?_; simp only [Bool.and_eq_true, Bool.or_eq_true, Bool.not_eq_true', decide_eq_true_eq, decide_eq_false_iff_not, Bool.and_eq_false_iff, Bool.or_eq_false_iff, reduceCtorEq, or_true, and_true, true_and, or_false, and_false, false_and, Bool.not_true, Bool.not_false]; omega)
     | (refine Eq.symm ?_; rw [Bool.eq_false_iff]; simp only [ne_eq, Bool.and_eq_true, Bool.or_eq_true, Bool.not_eq_true', decide_eq_true_eq, decide_eq_false_iff_not, Bool.and_eq_false_iff, Bool.or_eq_false_iff, reduceCtorEq, true_and, or_false, false_and, Bool.not_true, Bool.not_false]; omega)
end Go.Proofs.Ytcmcakandbpjfaa
namespace Go.Proofs.Ytcmcakandbpjfaa
set_option maxRecDepth 100000
set_option maxHeartbeats 8000000
open Go.RowKit Go.Shelf
set_option linter.unusedVariables false
attribute [local go_sem] Oper.semAt_some

theorem sound_lab {x : Ob} (h : soundB x = true) : LbF x.label := by
 have hk := kept_iff.1 (com_iff.1 (sound_iff.1 h).1).2.2.2.1
 exact ⟨fit_iff hk.2.1, by have := hk.1; omega⟩
theorem rfit_v0 {w : World} {t ke ro : Int} {ao : Option Addr} {n cap : Nat} {X : List Ob} (h : Obs w ao n cap X) : Calls Try.prog 35 #[.agg #[.int .i64 t, .int .u64 ke, .int .u64 ro, .slice ao n cap]] w fun e w' => e = .returned (.bool (fitW ⟨t, ke, ro, X⟩)) ∧ Below w.heap.size w w' :=
 (rfit_w (t := t) (ke := ke) (ro := ro) h).on (fun w' hq hb => ⟨by rw [hq.out], hb⟩) (fun w' hq hb => ⟨by rw [Bool.eq_false_iff.2 hq.out], hb⟩)
theorem rtfit_w {w : World} {t ro : Int} {key : Nat} {ao : Option Addr} {n cap : Nat} {X : List Ob} (h : Obs w ao n cap X) (hsm : fitW ⟨t, key, ro, X⟩ = true → Smalls X) (hw : ∀ x ∈ X, WdO x) : Calls Try.prog 15 #[.agg #[.int .i64 t, .int .u64 (key : Int), .int .u64 ro, .slice ao n cap]] w fun e w' => e = .returned (.bool (fitD t key ro X)) ∧ Below w.heap.size w w' := by
 have hmx : Try.prog.follows .mixedOrders = true := by kernel_rfl
 have hn : Hid (X.length = n) := h.1
 have hnc := h.2.1
 have hcm := h.2.2.1.1
 have c2 : (#[.int .i64 t, .int .u64 (key : Int), .int .u64 ro, .slice ao n cap] : Array Value)[2]? = some (.int .u64 ro) := rfl
 have c3 : (#[.int .i64 t, .int .u64 (key : Int), .int .u64 ro, .slice ao n cap] : Array Value)[3]? = some (.slice ao n cap) := rfl
 have hzw : (Try.prog.info? 25).map (·.size) = some (#[.int .i64 t, .int .u64 (key : Int), .int .u64 ro, .slice ao n cap] : Array Value).size := by kernel_rfl
 have hfd := fun {W : World} (hk : Below w.heap.size w W) => rfind_at (t := t) (ke := (key : Int)) (ro := ro) (i := ro) h hk
 have hft := fun (W : World) (hk : Below w.heap.size w W) => rfit_v0 (t := t) (ke := (key : Int)) (ro := ro) (obs_next h hk)
 have hsp := fun (W : World) (hk : Below w.heap.size w W) => rspans_w (t := t) (key := key) (ro := ro) (obs_next h hk) hw
 have hR : Hid (fitD t key ro X = ((fitW ⟨t, key, ro, X⟩ && (fnd X ro).isSome) && (((List.range n).all fun j => lnkB X (oat X j) && plaB X ro (oat X j)) && spaB key X))) := by show fitD t key ro X = _; unfold fitD; rw [hn.out]
 rw [hR.out]
 clear hR
 cases hf : fitW ⟨t, key, ro, X⟩
 rw [hf] at hft
 obtain ⟨G, hG⟩ : ∃ G : Array Value, G = #[.int .i64 t, .int .u64 (key : Int), .int .u64 ro, .slice ao n cap] := ⟨_, rfl⟩
 rw [← hG] at c2 c3 hzw hfd hft hsp
 rw [← hG]
 clear hG
 rw [Bool.false_and, Bool.false_and]
 generalize (fnd X ro).isSome = bf at hfd
 rotate_left
 replace hsm := hsm hf
 obtain ⟨hs, hso, hlen⟩ := fit_mem hf
 have hn16 : n ≤ 4096 := by rw [← hn.out]; omega
 have hq : ∀ x ∈ X, 0 ≤ x.quota ∧ x.quota ≤ 4096 := fun x hx => (sound_q (hso x hx)).1
 have hlb : ∀ x ∈ X, LbF x.label := fun x hx => sound_lab (hso x hx)
 have hli := fun {W : World} {C : Array Value} {j : Nat} (hk : Below w.heap.size w W) (hj : j < n) (hC : ObD (LtN W) W C (oat X j)) => rlinks_w (t := t) (ke := (key : Int)) (ro := ro) (obs_next h hk) hq hlb hC (hsm _ (oat_mem (by rw [hn.out]; exact hj))) (hlb _ (oat_mem (by rw [hn.out]; exact hj)))
 have hpl := fun {W : World} {C : Array Value} {j : Nat} (hk : Below w.heap.size w W) (hC : ObD (LtN W) W C (oat X j)) => rplaced_w (t := t) (ke := (key : Int)) (ro := ro) (obs_next h hk) hn16 hC
 obtain ⟨p, hp⟩ : ∃ p : Nat → Bool, Hid (p = fun j => lnkB X (oat X j) && plaB X ro (oat X j)) := ⟨_, rfl⟩
 rw [hf] at hft
 obtain ⟨G, hG⟩ : ∃ G : Array Value, G = #[.int .i64 t, .int .u64 (key : Int), .int .u64 ro, .slice ao n cap] := ⟨_, rfl⟩
 rw [← hG] at c2 c3 hzw hfd hft hsp hli hpl
 rw [← hG, ← hp.out]
 clear hG hf hs hso hlen hq hlb
 have hal0 : Hid (∀ (k : Nat), k ≤ n → (∀ j, j < k → p j = true) → k = n → (List.range n).all p = true) := by
  refine (?_ : ∀ (k : Nat), k ≤ n → (∀ j, j < k → p j = true) → k = n → (List.range n).all p = true)
  intro k _ hj e
  rw [List.all_eq_true]
  intro j q
  exact hj j (by rw [e]; exact List.mem_range.1 q)
 have hno0 : Hid (∀ (k : Nat), k < n → p k = false → (List.range n).all p = false) := by
  refine (?_ : ∀ (k : Nat), k < n → p k = false → (List.range n).all p = false)
  intro k q e
  rw [List.all_eq_false]
  exact ⟨k, List.mem_range.2 q, by rw [e]; decide⟩
 generalize (List.range n).all p = pa at hal0 hno0 ⊢
 generalize spaB key X = sp at hsp ⊢
 rw [Bool.true_and]
 cases hb : (fnd X ro).isSome
 rw [hb] at hfd
 rw [Bool.false_and]
 rotate_left
 rw [hb] at hfd
 rw [Bool.true_and]
 rotate_left
 all_goals go_enter Try.func15, Try.ntmps15
 all_goals go_wp2_with (first
  | go_skip
  | (with_reducible refine wpList_box rfl 25 _ rfl G rfl ?_; intro B W2 hN2 hB hk)
  | (with_reducible refine wpList_loadb (by first | kernel_rfl | with_unfolding_all rfl) 25 _ rfl B rfl G hB _ Try.underlying25 (by kernel_rfl) hzw ?_)
  | (with_reducible refine wpList_load1 (by first | kernel_rfl | with_unfolding_all rfl) _ _ rfl B _ rfl _ _ hB _ c2 Try.isAgg22 ?_)
  | (go_at_call 16; (with_reducible refine (hfd hk).mono ?_); rintro e w3 ⟨C3, rfl, o3, hb3⟩; replace hB := hB.next hb3; replace hk := hk.trans (hb3.mono hk.size))
  | ((with_reducible refine wpList_alloc rfl _ rfl zC zero40 ?_); intro R W4 hN4 hR4 hk4)
  | ((with_reducible refine wpList_store_blk rfl _ _ _ rfl R rfl C3 rfl zC hR4 (size40C o3.size) (zC_size.trans o3.size.symm) o3.one ?_); intro W5 hR5 o5; have k5 := o5.below w3.heap.size w3 (by have := hN4.out.1; omega) hk4; replace hB := hB.next k5; replace hk := hk.trans (k5.mono hk.size))
  | (go_at_call 35; (with_reducible refine (hft _ hk).mono ?_); rintro e w6 ⟨rfl, hb6⟩; replace hB := hB.next hb6; replace hk := hk.trans (hb6.mono hk.size)))
 ·go_ret
  exact ⟨rfl, hk⟩
 ·go_ret
  exact ⟨rfl, hk⟩
 ·clear hN2 hN4 hR4 hk4 o5 k5 hR5
  go_loopw [5] (fun j wr => ∃ k : Nat, k ≤ n ∧ j = .int .i64 k ∧ Hid (∀ j, j < k → p j = true) ∧ Blk wr B G 25 ∧ Below w.heap.size w wr) (fun j _ => n - (intOf j).toNat)
  case atStart => exact ⟨0, Nat.zero_le _, rfl, fun i hi => absurd hi (by omega), hB, hk⟩
  case round =>
   clear hB hk
   obtain ⟨k, hkn1, rfl, hal, hB, hk⟩ := hrel
   by_cases hkn : k < n
   ·obtain ⟨b, off, C, rfl, hbb, hC, hr⟩ := obs_at h hkn
    have hkn' : (k : Int) < n := by omega
    have hz := hC.size
    have hpk : Hid (p k = (lnkB X (oat X k) && plaB X ro (oat X k))) := by show p k = _; rw [hp.out]
    have hnx : Hid (p k = true → ∀ j, j < k + 1 → p j = true) := by
     refine (?_ : p k = true → ∀ j, j < k + 1 → p j = true)
     intro e j hj
     rcases Nat.lt_or_ge j k with q | q
     ·exact hal.out j q
     ·obtain rfl : j = k := by omega
      exact e
    replace hli := fun {W : World} {C : Array Value} (hk : Below w.heap.size w W) (hC : ObD (LtN W) W C (oat X k)) => hli hk hkn hC
    replace hpl := fun {W : World} {C : Array Value} (hk : Below w.heap.size w W) (hC : ObD (LtN W) W C (oat X k)) => hpl hk hC
    generalize lnkB X (oat X k) = bl at hli hpk
    generalize plaB X ro (oat X k) = bp at hpl hpk
    go_wp2_with (first
     | (with_reducible refine wpList_load1 (by kernel_rfl) _ _ rfl B _ rfl _ _ hB _ c3 Try.isAgg23 ?_))
    refine PgM.region_out (S := fun W => Blk W B G 25 ∧ Below w.heap.size w W) hmx ⟨hB.next (Below.refl _ _).drew, hk.trans ((Below.refl _ _).drew.mono hk.size)⟩ (fun hS => ?_)
    generalize wr.drew = v6 at hS ⊢
    clear hB hk
    refine wpAnyH_sym (by kernel_rfl) (fun _ _ _ _ _ h => h) hS [(0, some (.agg G)), (1, none), (2, some (.slice (some ⟨b, off, none⟩) n cap)), (3, none), (4, some (.pointer (some ⟨b, off + k * 51, none⟩))), (5, some (.agg C))] (l' := #[true, true, true, true, true, true, false, false, false, false, false, false, false, false, false, false, false, false]) (a' := { tmps := #[.agg G, .pointer (some ⟨B, 0, none⟩), u2, .pointer (some ⟨R, 0, none⟩), .bool true, .int .i64 k, .tuple #[.agg C3, .bool true], .agg G, .pointer (some ⟨B, 2, none⟩), .int .u64 ro, .tuple #[.agg C3, .bool true], .agg C3, .bool true, .agg G, .bool true, .bool false, .bool false, .bool true, .bool false, .bool false, .int .i64 k, .pointer (some ⟨B, 3, none⟩), .slice (some ⟨b, off, none⟩) n cap, .int .i64 n, .bool true, u25, u26, .agg G, .pointer (some ⟨B, 3, none⟩), .slice (some ⟨b, off, none⟩) n cap, .int .i64 k, .pointer (some ⟨b, off + k * 51, none⟩), .agg C, u33, u34, u35, u36, u37, u38, u39, u40, u41, u42, u43, u44, undef, undef], defers := [] }) (obs := [.load 25 B 0 (.agg G), .load 23 B 3 (.slice (some ⟨b, off, none⟩) n cap), .ia 23 (.slice (some ⟨b, off, none⟩) n cap) (.int .i64 k) (.pointer (some ⟨b, off + k * 51, none⟩)), .load 54 b (off + k * 51) (.agg C)]) (n := 12) (by kernel_rfl) (by kernel_rfl) ⟨ob_loadb (fun _ h => h.1) Try.underlying25 (by kernel_rfl) hzw, ob_load1 (fun _ h => h.1) c3 Try.isAgg23, ia_at hkn, ob_loadm (fun _ h => range_block hr (h.2.block b hbb)) Try.underlying54 (by kernel_rfl) (size40C hz), trivial⟩ ?_
    cases bl with
    | false =>
     refine wpAnyH_callL (i := 6) (fuel := 11) (f := 36) (vs := [.agg G, .agg C]) (d := some 33) (by kernel_rfl) (by kernel_rfl) (by kernel_rfl) Try.call36 (hli hS.2 (hC.next hS.2)) ?_
     rintro e v7 ⟨rfl, hb7⟩
     have hS7 : Blk v7 B G 25 ∧ Below w.heap.size w v7 := ⟨hS.1.next hb7, hS.2.trans (hb7.mono hS.2.size)⟩
     refine ⟨_, rfl, hS7, ?_⟩
     refine wpAnyH_sym (by kernel_rfl) (fun _ _ _ _ _ h => h) hS7 [(7, none), (8, none), (9, none), (10, none), (11, none), (12, none), (13, none), (14, none), (15, none), (16, none), (17, none)] (l' := #[true, true, true, true, true, true, true, true, true, true, true, true, true, true, true, true, true, true]) (a' := { tmps := #[.agg G, .pointer (some ⟨B, 0, none⟩), u2, .pointer (some ⟨R, 0, none⟩), .bool true, .int .i64 k, .tuple #[.agg C3, .bool true], .agg G, .pointer (some ⟨B, 2, none⟩), .int .u64 ro, .tuple #[.agg C3, .bool true], .agg C3, .bool true, .agg G, .bool true, .bool false, .bool false, .bool true, .bool false, .bool false, .int .i64 k, .pointer (some ⟨B, 3, none⟩), .slice (some ⟨b, off, none⟩) n cap, .int .i64 n, .bool true, u25, u26, .agg G, .pointer (some ⟨B, 3, none⟩), .slice (some ⟨b, off, none⟩) n cap, .int .i64 k, .pointer (some ⟨b, off + k * 51, none⟩), .agg C, .bool false, .bool true, .bool true, undef, undef, undef, undef, undef, undef, undef, undef, .bool true, undef, undef], defers := [] }) (obs := []) (n := 0) (by kernel_rfl) (by kernel_rfl) trivial ?_
     refine wpAnyH_done (by kernel_rfl) ?_ _
     have hz0 := hno0.out k hkn (by rw [hpk.out]; rfl)
     go_wp2
     go_ret
     exact ⟨by rw [hz0]; rfl, hS7.2⟩
    | true =>
     refine wpAnyH_callL (i := 6) (fuel := 11) (f := 36) (vs := [.agg G, .agg C]) (d := some 33) (by kernel_rfl) (by kernel_rfl) (by kernel_rfl) Try.call36 (hli hS.2 (hC.next hS.2)) ?_
     rintro e v7 ⟨rfl, hb7⟩
     have hS7 : Blk v7 B G 25 ∧ Below w.heap.size w v7 := ⟨hS.1.next hb7, hS.2.trans (hb7.mono hS.2.size)⟩
     refine ⟨_, rfl, hS7, ?_⟩
     refine wpAnyH_sym (by kernel_rfl) (fun _ _ _ _ _ h => h) hS7 [(7, none), (8, none), (9, some (.agg G)), (10, none), (11, some (.slice (some ⟨b, off, none⟩) n cap)), (12, none), (13, some (.pointer (some ⟨b, off + k * 51, none⟩))), (14, some (.agg C))] (l' := #[true, true, true, true, true, true, true, true, true, true, true, true, true, true, true, false, false, false]) (a' := { tmps := #[.agg G, .pointer (some ⟨B, 0, none⟩), u2, .pointer (some ⟨R, 0, none⟩), .bool true, .int .i64 k, .tuple #[.agg C3, .bool true], .agg G, .pointer (some ⟨B, 2, none⟩), .int .u64 ro, .tuple #[.agg C3, .bool true], .agg C3, .bool true, .agg G, .bool true, .bool false, .bool false, .bool true, .bool false, .bool false, .int .i64 k, .pointer (some ⟨B, 3, none⟩), .slice (some ⟨b, off, none⟩) n cap, .int .i64 n, .bool true, u25, u26, .agg G, .pointer (some ⟨B, 3, none⟩), .slice (some ⟨b, off, none⟩) n cap, .int .i64 k, .pointer (some ⟨b, off + k * 51, none⟩), .agg C, .bool true, .bool false, .bool false, .agg G, .pointer (some ⟨B, 3, none⟩), .slice (some ⟨b, off, none⟩) n cap, .int .i64 k, .pointer (some ⟨b, off + k * 51, none⟩), .agg C, u42, u43, u44, undef, undef], defers := [] }) (obs := [.load 25 B 0 (.agg G), .load 23 B 3 (.slice (some ⟨b, off, none⟩) n cap), .ia 23 (.slice (some ⟨b, off, none⟩) n cap) (.int .i64 k) (.pointer (some ⟨b, off + k * 51, none⟩)), .load 54 b (off + k * 51) (.agg C)]) (n := 3) (by kernel_rfl) (by kernel_rfl) ⟨ob_loadb (fun _ h => h.1) Try.underlying25 (by kernel_rfl) hzw, ob_load1 (fun _ h => h.1) c3 Try.isAgg23, ia_at hkn, ob_loadm (fun _ h => range_block hr (h.2.block b hbb)) Try.underlying54 (by kernel_rfl) (size40C hz), trivial⟩ ?_
     cases bp with
     | false =>
      refine wpAnyH_callL (i := 15) (fuel := 2) (f := 37) (vs := [.agg G, .agg C]) (d := some 42) (by kernel_rfl) (by kernel_rfl) (by kernel_rfl) Try.call37 (hpl hS7.2 (hC.next hS7.2)) ?_
      rintro e v8 ⟨rfl, hb8⟩
      have hS8 : Blk v8 B G 25 ∧ Below w.heap.size w v8 := ⟨hS7.1.next hb8, hS7.2.trans (hb8.mono hS7.2.size)⟩
      refine ⟨_, rfl, hS8, ?_⟩
      refine wpAnyH_sym (by kernel_rfl) (fun _ _ _ _ _ h => h) hS8 [(16, none), (17, none)] (l' := #[true, true, true, true, true, true, true, true, true, true, true, true, true, true, true, true, true, true]) (a' := { tmps := #[.agg G, .pointer (some ⟨B, 0, none⟩), u2, .pointer (some ⟨R, 0, none⟩), .bool true, .int .i64 k, .tuple #[.agg C3, .bool true], .agg G, .pointer (some ⟨B, 2, none⟩), .int .u64 ro, .tuple #[.agg C3, .bool true], .agg C3, .bool true, .agg G, .bool true, .bool false, .bool false, .bool true, .bool false, .bool false, .int .i64 k, .pointer (some ⟨B, 3, none⟩), .slice (some ⟨b, off, none⟩) n cap, .int .i64 n, .bool true, u25, u26, .agg G, .pointer (some ⟨B, 3, none⟩), .slice (some ⟨b, off, none⟩) n cap, .int .i64 k, .pointer (some ⟨b, off + k * 51, none⟩), .agg C, .bool true, .bool false, .bool false, .agg G, .pointer (some ⟨B, 3, none⟩), .slice (some ⟨b, off, none⟩) n cap, .int .i64 k, .pointer (some ⟨b, off + k * 51, none⟩), .agg C, .bool false, .bool true, .bool true, undef, undef], defers := [] }) (obs := []) (n := 0) (by kernel_rfl) (by kernel_rfl) trivial ?_
      refine wpAnyH_done (by kernel_rfl) ?_ _
      have hz0 := hno0.out k hkn (by rw [hpk.out]; rfl)
      go_wp2
      go_ret
      exact ⟨by rw [hz0]; rfl, hS8.2⟩
     | true =>
      refine wpAnyH_callL (i := 15) (fuel := 2) (f := 37) (vs := [.agg G, .agg C]) (d := some 42) (by kernel_rfl) (by kernel_rfl) (by kernel_rfl) Try.call37 (hpl hS7.2 (hC.next hS7.2)) ?_
      rintro e v8 ⟨rfl, hb8⟩
      have hS8 : Blk v8 B G 25 ∧ Below w.heap.size w v8 := ⟨hS7.1.next hb8, hS7.2.trans (hb8.mono hS7.2.size)⟩
      refine ⟨_, rfl, hS8, ?_⟩
      refine wpAnyH_sym (by kernel_rfl) (fun _ _ _ _ _ h => h) hS8 [(16, none), (17, none)] (l' := #[true, true, true, true, true, true, true, true, true, true, true, true, true, true, true, true, true, true]) (a' := { tmps := #[.agg G, .pointer (some ⟨B, 0, none⟩), u2, .pointer (some ⟨R, 0, none⟩), .bool true, .int .i64 k, .tuple #[.agg C3, .bool true], .agg G, .pointer (some ⟨B, 2, none⟩), .int .u64 ro, .tuple #[.agg C3, .bool true], .agg C3, .bool true, .agg G, .bool true, .bool false, .bool false, .bool true, .bool false, .bool false, .int .i64 k, .pointer (some ⟨B, 3, none⟩), .slice (some ⟨b, off, none⟩) n cap, .int .i64 n, .bool true, u25, u26, .agg G, .pointer (some ⟨B, 3, none⟩), .slice (some ⟨b, off, none⟩) n cap, .int .i64 k, .pointer (some ⟨b, off + k * 51, none⟩), .agg C, .bool true, .bool false, .bool false, .agg G, .pointer (some ⟨B, 3, none⟩), .slice (some ⟨b, off, none⟩) n cap, .int .i64 k, .pointer (some ⟨b, off + k * 51, none⟩), .agg C, .bool true, .bool false, .bool false, undef, undef], defers := [] }) (obs := []) (n := 0) (by kernel_rfl) (by kernel_rfl) trivial ?_
      refine wpAnyH_done (by kernel_rfl) ?_ _
      have hy := hnx.out (by rw [hpk.out]; rfl)
      go_wp2
      go_roundw
      case rel => exact ⟨k + 1, by omega, by go_num, hy, hS8.1, hS8.2⟩
      case measure => simp [intOf]; omega
   ·obtain rfl : k = n := by omega
    have hpa := hal0.out k (Nat.le_refl _) hal.out rfl
    go_wp2_with (first
     | (with_reducible refine wpList_load1 (by kernel_rfl) _ _ rfl B _ rfl _ _ hB _ c3 Try.isAgg23 ?_)
     | (with_reducible refine wpList_loadb (by kernel_rfl) 25 _ rfl B rfl G hB _ Try.underlying25 (by kernel_rfl) hzw ?_)
     | (go_at_call 38; (with_reducible refine (hsp _ hk).mono ?_); rintro e w8 ⟨rfl, hb8⟩; replace hk := hk.trans (hb8.mono hk.size)))
    go_ret
    exact ⟨by rw [hpa]; rfl, hk⟩
end Go.Proofs.Ytcmcakandbpjfaa
namespace Go.Proofs.Ytcmcakandbpjfaa
set_option maxRecDepth 100000
set_option maxHeartbeats 8000000
open Go.RowKit Go.Shelf
set_option linter.unusedVariables false
attribute [local go_sem] Oper.semAt_some

def few15P (t : Int) (key : Nat) (ro : Int) (l : List Ob) : Prop := (l.length ≤ 20 ∧ ∀ i, i < l.length → fewO (oat l i)) ∧ fitD t key ro l = true
theorem few15_any {w : World} {t ro : Int} {key : Nat} {ao : Option Addr} {n cap : Nat} {X : List Ob} (h : Obs w ao n cap X) (hw : ∀ x ∈ X, WdO x) : Asks 7 #[.agg #[.int .i64 t, .int .u64 (key : Int), .int .u64 ro, .slice ao n cap]] (few15P t key ro X) w := by
  have hn : Hid (X.length = n) := h.1
  have hnc := h.2.1
  have hcm := h.2.2.1.1
  have hft := fun (W : World) (hk : Below w.heap.size w W) => rtfit_w (t := t) (ro := ro) (key := key) (obs_next h hk) (fun hf x hx => sound_small0 ((fit_mem hf).2.1 x hx)) hw
  have hzg : (Try.prog.info? 25).map (·.size) = some (#[.int .i64 t, .int .u64 (key : Int), .int .u64 ro, .slice ao n cap] : Array Value).size := by kernel_rfl
  have c3 : (#[.int .i64 t, .int .u64 (key : Int), .int .u64 ro, .slice ao n cap] : Array Value)[3]? = some (.slice ao n cap) := rfl
  obtain ⟨D, hD⟩ : ∃ D : Array Value, D = #[.int .i64 t, .int .u64 (key : Int), .int .u64 ro, .slice ao n cap] := ⟨_, rfl⟩
  rw [← hD] at hft hzg c3
  rw [← hD]
  clear hD
  obtain ⟨fb, hfb⟩ : ∃ fb, Hid (fitD t key ro X = fb) := ⟨_, rfl⟩
  rw [hfb.out] at hft
  have ga3 := Try.isAgg23
  unfold Asks
  by_cases h20 : n ≤ 20
  · have h20' : ¬ (20 : Int) < n := by omega
    go_enter Try.func7, Try.ntmps7
    go_wp2_with (first
      | (with_reducible refine wpList_box rfl 25 _ rfl D rfl ?_; intro B W0 hN0 hB kw)
      | (with_reducible refine wpList_load1 (by kernel_rfl) _ _ rfl B _ rfl _ _ hB _ c3 ga3 ?_))
    go_loopw [12] (fun i wr => ∃ k : Nat, k ≤ n ∧ i = .int .i64 k ∧ Hid (∀ j, j < k → fewO (oat X j)) ∧ Blk wr B D 25 ∧ Below w.heap.size w wr) (fun i _ => n - (intOf i).toNat)
    case atStart => exact ⟨0, Nat.zero_le _, rfl, fun j hj => absurd hj (by omega), hB, kw⟩
    case round =>
      clear hB kw
      obtain ⟨k, hk, rfl, hal, hB, hb⟩ := hrel
      have hbs := hb.size
      by_cases hkn : k < n
      · obtain ⟨b, off, C, rfl, hbb, hC, hr⟩ := obs_at (obs_next h hb) hkn
        have hkn' : (k : Int) < n := by omega
        have hz := hC.size
        obtain ⟨a2, n2, q2, c2, l2⟩ := hC.label
        obtain ⟨a5, n5, q5, c5, l5⟩ := hC.links
        obtain ⟨a6, n6, q6, c6, l6⟩ := hC.data
        obtain ⟨a7, n7, q7, c7, l7⟩ := hC.maps
        have m2 : Hid ((oat X k).label.length = n2) := l2.1
        have m5 : Hid ((oat X k).links.length = n5) := l5.1
        have m6 : Hid ((oat X k).data.length = n6) := l6.1
        have m7 : Hid ((oat X k).maps.length = n7) := l7.1
        have hone := hC.one
        clear l2 l5 l6 l7 hC hft
        go_wp2_with (first
          | (with_reducible refine wpList_loadm (by kernel_rfl) 54 _ rfl b _ rfl C hr _ Try.underlying54 (by kernel_rfl) (size40C hz) ?_)
          | ((with_reducible refine wpList_alloc rfl _ rfl zC zero40 ?_); intro R W1 hB1 hR1 hk1)
          | ((with_reducible refine wpList_store_blk rfl _ _ _ rfl R rfl C rfl zC hR1 (size40C hz) (zC_size.trans hz.symm) hone ?_); intro W2 hR2 o2; have k2 := o2.below wr.heap.size wr (by have := hB1.out.1; omega) hk1; have k3 := hb.trans (k2.mono hbs); have hB2 := hB.next k2)
          | (with_reducible refine wpList_load1 (by first | kernel_rfl | with_unfolding_all rfl) _ _ rfl R _ rfl _ _ hR2 _ c2 Try.isAgg39 ?_)
          | (with_reducible refine wpList_load1 (by first | kernel_rfl | with_unfolding_all rfl) _ _ rfl R _ rfl _ _ hR2 _ c5 Try.isAgg28 ?_)
          | (with_reducible refine wpList_load1 (by first | kernel_rfl | with_unfolding_all rfl) _ _ rfl R _ rfl _ _ hR2 _ c6 Try.isAgg28 ?_)
          | (with_reducible refine wpList_load1 (by first | kernel_rfl | with_unfolding_all rfl) _ _ rfl R _ rfl _ _ hR2 _ c7 Try.isAgg40 ?_)
          | ((with_reducible refine wpList_test (by first | kernel_rfl | with_unfolding_all rfl) .gtr 3 _ _ _ rfl (.int .i64 (n2 : Int)) _ rfl rfl (tgt_int _ _ _ _ _ _) ?_ ?_) <;> intro e2)
          | ((with_reducible refine wpList_test (by first | kernel_rfl | with_unfolding_all rfl) .gtr 3 _ _ _ rfl (.int .i64 (n5 : Int)) _ rfl rfl (tgt_int _ _ _ _ _ _) ?_ ?_) <;> intro e5)
          | ((with_reducible refine wpList_test (by first | kernel_rfl | with_unfolding_all rfl) .gtr 3 _ _ _ rfl (.int .i64 (n6 : Int)) _ rfl rfl (tgt_int _ _ _ _ _ _) ?_ ?_) <;> intro e6)
          | ((with_reducible refine wpList_test (by first | kernel_rfl | with_unfolding_all rfl) .gtr 3 _ _ _ rfl (.int .i64 (n7 : Int)) _ rfl rfl (tgt_int _ _ _ _ _ _) ?_ ?_) <;> intro e7))
        all_goals first
          | (go_ret
             refine askP_no (Y := fewO (oat X k)) ?_ k3 (fun e => e.1.2 k (by rw [hn.out]; exact hkn))
             refine (?_ : ¬ fewO (oat X k))
             rintro ⟨f2, f5, f6, f7⟩
             rw [m2.out] at f2
             rw [m5.out] at f5
             rw [m6.out] at f6
             rw [m7.out] at f7
             simp only [Hid] at *
             omega)
          | (go_roundw
             case rel => exact ⟨k + 1, by omega, by go_num, fn_succ hal.out (by refine ⟨?_, ?_, ?_, ?_⟩ <;> first | (rw [m2.out]; have := e2.out; omega) | (rw [m5.out]; have := e5.out; omega) | (rw [m6.out]; have := e6.out; omega) | (rw [m7.out]; have := e7.out; omega)), hB2, k3⟩
             case measure => simp [intOf]; omega)
      · obtain rfl : k = n := by omega
        go_wp2_with (first
          | (with_reducible refine wpList_loadb (by kernel_rfl) 25 _ rfl B rfl D hB _ Try.underlying25 (by kernel_rfl) hzg ?_)
          | (go_at_call 15; (with_reducible refine (hft _ hb).mono ?_); rintro e w2 ⟨rfl, hb2⟩))
        go_ret
        refine ⟨fb, rfl, ⟨fun e => ⟨⟨by rw [hn.out]; exact h20, fun i hi => hal.out i (by rw [hn.out] at hi; exact hi)⟩, by rw [hfb.out]; exact e⟩, fun e => hfb.out.symm.trans e.2⟩, hb.trans (hb2.mono hb.size)⟩
  · have h20' : (20 : Int) < n := by omega
    have hq : Hid (¬ n ≤ 20) := h20
    go_enter Try.func7, Try.ntmps7
    go_wp2_with (first
      | (with_reducible refine wpList_box rfl 25 _ rfl D rfl ?_; intro B W0 hN0 hB kw)
      | (with_reducible refine wpList_load1 (by kernel_rfl) _ _ rfl B _ rfl _ _ hB _ c3 ga3 ?_))
    go_ret
    exact askP_no hq kw (fun e => by have := e.1.1; rw [hn.out] at this; exact this)
end Go.Proofs.Ytcmcakandbpjfaa
