/-
 PROVED HERE: what the document's Has and Apart of chapter 7 return when they are called (contracts over this translation); . What is asked stands at each.
-/
import Derived.Test.YtcmcakandbpjfaaY15
import Derived.Test.YtcmcakandbpjfaaY16
namespace Go.Proofs.Ytcmcakandbpjfaa
set_option maxRecDepth 100000
set_option maxHeartbeats 8000000
open Go.RowKit Go.Shelf
set_option linter.unusedVariables false
attribute [local go_sem] Oper.semAt_some

theorem rHas_any {k a b m : Nat} (hm : m < 18446744073709551616) (w : World) :
  Calls Try.prog 59 #[.int .u64 (k : Int), .agg #[.int .u64 (a : Int), .int .u64 (b : Int)], .int .u64 (m : Int)] w fun e w' => e = .returned (.bool (SrM.hasK k a b m)) ∧ Below w.heap.size w w' := by
 have hn := fun w => SrM.rnum_any (key := k) hm w
 have hr : Hid (SrM.hasK k a b m = ((decide (1 ≤ m) && decide (m ≤ 2305843009213693952)) && (decide (a ≤ Pm.numN k m) && decide (Pm.numN k m < b)))) := rfl
 rw [hr.out]
 generalize Pm.numN k m = y at hn ⊢
 have d0 : (#[.int .u64 (a : Int), .int .u64 (b : Int)] : Array Value)[0]? = some (.int .u64 (a : Int)) := rfl
 have d1 : (#[.int .u64 (a : Int), .int .u64 (b : Int)] : Array Value)[1]? = some (.int .u64 (b : Int)) := rfl
 generalize (#[.int .u64 (a : Int), .int .u64 (b : Int)] : Array Value) = G at d0 d1 ⊢
 go_enter Try.func59, Try.ntmps59
 go_wp2_with (first
  | (with_reducible refine wpList_box rfl 47 _ rfl G rfl ?_; intro B2 W2 hN2 hB2 hk; replace d0 := (hB2.cell 0).trans d0; replace d1 := (hB2.cell 1).trans d1)
  | (go_at_call 78; (with_reducible refine (hn _).mono ?_); rintro e w1 ⟨rfl, rfl⟩)
  | ((with_reducible refine wpList_test (by with_unfolding_all rfl) .geq _ _ _ _ rfl (.int .u64 (m : Int)) _ rfl rfl (tge_int _ _ _ _ _ _) ?_ ?_) <;> intro hq1)
  | ((with_reducible refine wpList_test (by with_unfolding_all rfl) .leq _ _ _ _ rfl (.int .u64 (m : Int)) _ rfl rfl (tle_int _ _ _ _ _ _) ?_ ?_) <;> intro hq2)
  | ((with_reducible refine wpList_test (by with_unfolding_all rfl) .geq _ _ _ _ rfl (.int .u64 (y : Int)) _ rfl rfl (tge_int _ _ _ _ _ _) ?_ ?_) <;> intro hq3)
  | ((with_reducible refine wpList_test (by with_unfolding_all rfl) .lss _ _ _ _ rfl (.int .u64 (y : Int)) _ rfl rfl (tlt_int _ _ _ _ _ _) ?_ ?_) <;> intro hq4))
 all_goals
  go_ret
  refine ⟨congrArg (fun z => Ending.returned (.bool z)) ?_, hk⟩
  clear hr
  simp only [Hid] at *
  first
   | (refine Eq.symm ?_; simp only [Bool.and_eq_true, decide_eq_true_eq]; omega)
   | (refine Eq.symm ?_; rw [Bool.eq_false_iff]; simp only [ne_eq, Bool.and_eq_true, decide_eq_true_eq]; omega)
theorem rapart_any (a b c d : Nat) (w : World) :
  Calls Try.prog 60 #[.agg #[.int .u64 (a : Int), .int .u64 (b : Int)], .agg #[.int .u64 (c : Int), .int .u64 (d : Int)]] w fun e w' => e = .returned (.bool (rapB a b c d)) ∧ Below w.heap.size w w' := by
 have hr : Hid (rapB a b c d = (decide (a = b) || (decide (c = d) || (decide (b ≤ c) || decide (d ≤ a))))) := rfl
 rw [hr.out]
 have d0 : (#[.int .u64 (a : Int), .int .u64 (b : Int)] : Array Value)[0]? = some (.int .u64 (a : Int)) := rfl
 have d1 : (#[.int .u64 (a : Int), .int .u64 (b : Int)] : Array Value)[1]? = some (.int .u64 (b : Int)) := rfl
 have e0 : (#[.int .u64 (c : Int), .int .u64 (d : Int)] : Array Value)[0]? = some (.int .u64 (c : Int)) := rfl
 have e1 : (#[.int .u64 (c : Int), .int .u64 (d : Int)] : Array Value)[1]? = some (.int .u64 (d : Int)) := rfl
 generalize (#[.int .u64 (a : Int), .int .u64 (b : Int)] : Array Value) = G at d0 d1 ⊢
 generalize (#[.int .u64 (c : Int), .int .u64 (d : Int)] : Array Value) = H at e0 e1 ⊢
 go_enter Try.func60, Try.ntmps60
 go_wp2_with (first
  | (with_reducible refine wpList_box rfl 47 _ rfl G rfl ?_; intro B2 W2 hN2 hB2 hk)
  | (with_reducible refine wpList_box rfl 47 _ rfl H rfl ?_; intro B3 W3 hN3 hB3 hk3; replace hB2 := hB2.next hk3; replace hk := hk.trans (hk3.mono hk.size); replace d0 := (hB2.cell 0).trans d0; replace d1 := (hB2.cell 1).trans d1; replace e0 := (hB3.cell 0).trans e0; replace e1 := (hB3.cell 1).trans e1)
  | ((with_reducible refine wpList_test (by with_unfolding_all rfl) .eql _ _ _ _ rfl (.int .u64 (a : Int)) _ rfl rfl (eqg_int _ _ _ _ _ _) ?_ ?_) <;> intro hq1)
  | ((with_reducible refine wpList_test (by with_unfolding_all rfl) .eql _ _ _ _ rfl (.int .u64 (c : Int)) _ rfl rfl (eqg_int _ _ _ _ _ _) ?_ ?_) <;> intro hq2)
  | ((with_reducible refine wpList_test (by with_unfolding_all rfl) .leq _ _ _ _ rfl (.int .u64 (b : Int)) _ rfl rfl (tle_int _ _ _ _ _ _) ?_ ?_) <;> intro hq3)
  | ((with_reducible refine wpList_test (by with_unfolding_all rfl) .leq _ _ _ _ rfl (.int .u64 (d : Int)) _ rfl rfl (tle_int _ _ _ _ _ _) ?_ ?_) <;> intro hq4))
 all_goals
  go_ret
  refine ⟨congrArg (fun z => Ending.returned (.bool z)) ?_, hk⟩
  clear hr
  simp only [Hid] at *
  first
   | (refine Eq.symm ?_; simp only [Bool.or_eq_true, decide_eq_true_eq]; omega)
   | (refine Eq.symm ?_; rw [Bool.eq_false_iff]; simp only [ne_eq, Bool.or_eq_true, decide_eq_true_eq]; omega)
end Go.Proofs.Ytcmcakandbpjfaa
namespace Go.Proofs.Ytcmcakandbpjfaa
set_option maxRecDepth 100000
set_option maxHeartbeats 8000000
open Go.RowKit Go.Shelf
set_option linter.unusedVariables false
attribute [local go_sem] Oper.semAt_some

theorem spa_iff {key : Nat} {X : List Ob} : spaB key X = true ↔ ∀ i, i < X.length → (oat X i).kind = 4 → ∀ k, k < X.length → rowB key X i k = true := by
 unfold spaB
 rw [List.all_eq_true]
 refine forall_congr' fun i => ?_
 rw [List.mem_range]
 refine imp_congr_right fun _ => ?_
 by_cases h : (oat X i).kind = 4
 ·rw [decide_eq_true h, Bool.not_true, Bool.false_or, List.all_eq_true]
  simp only [List.mem_range]
  exact ⟨fun q _ => q, fun q => q h⟩
 ·rw [decide_eq_false h]
  exact ⟨fun _ q => absurd q h, fun _ => rfl⟩
theorem sp_next {key n i : Nat} {X : List Ob} (h : ∀ j, j < i → (oat X j).kind = 4 → ∀ m, m < n → rowB key X j m = true) (h1 : (oat X i).kind = 4 → ∀ m, m < n → rowB key X i m = true) : ∀ j, j < i + 1 → (oat X j).kind = 4 → ∀ m, m < n → rowB key X j m = true := by
 intro j hj
 rcases Nat.lt_or_ge j i with c | c
 ·exact h j c
 ·obtain rfl : j = i := by omega
  exact h1
theorem rspans_w {w : World} {t ro : Int} {key : Nat} {ao : Option Addr} {n cap : Nat} {X : List Ob} (h : Obs w ao n cap X) (hw : ∀ x ∈ X, WdO x) : Calls Try.prog 38 #[.agg #[.int .i64 t, .int .u64 (key : Int), .int .u64 ro, .slice ao n cap]] w fun e w' => e = .returned (.bool (spaB key X)) ∧ Below w.heap.size w w' := by
 have hn : Hid (X.length = n) := h.1
 have hnc := h.2.1
 have hcm := h.2.2.1.1
 have ga1 := Try.isAgg22
 have ga3 := Try.isAgg23
 have gai := Try.isAgg3
 have c1 : (#[.int .i64 t, .int .u64 (key : Int), .int .u64 ro, .slice ao n cap] : Array Value)[1]? = some (.int .u64 (key : Int)) := rfl
 have c3 : (#[.int .i64 t, .int .u64 (key : Int), .int .u64 ro, .slice ao n cap] : Array Value)[3]? = some (.slice ao n cap) := rfl
 have hyes : Hid ((∀ i, i < n → (oat X i).kind = 4 → ∀ k, k < n → rowB key X i k = true) → spaB key X = true) := by
  refine (?_ : (∀ i, i < n → (oat X i).kind = 4 → ∀ k, k < n → rowB key X i k = true) → spaB key X = true)
  intro q
  rw [spa_iff, hn.out]
  exact q
 have hno : Hid (∀ i k, i < n → k < n → (oat X i).kind = 4 → rowB key X i k = false → spaB key X = false) := by
  refine (?_ : ∀ i k, i < n → k < n → (oat X i).kind = 4 → rowB key X i k = false → spaB key X = false)
  intro i k hi hk h4 q
  rw [Bool.eq_false_iff]
  intro e
  rw [spa_iff, hn.out] at e
  have := e i hi h4 k hk
  rw [q] at this
  cases this
 have hwd : Hid (∀ i, i < n → WdO (oat X i)) := fun i hi => hw _ (oat_mem (by rw [hn.out]; exact hi))
 generalize spaB key X = res at hyes hno ⊢
 obtain ⟨G, hG⟩ : ∃ G : Array Value, G = #[.int .i64 t, .int .u64 (key : Int), .int .u64 ro, .slice ao n cap] := ⟨_, rfl⟩
 rw [← hG] at c1 c3
 rw [← hG]
 clear hG
 go_enter Try.func38, Try.ntmps38
 go_wp2_with (first
  | (with_reducible refine wpList_box rfl 25 _ rfl G rfl ?_; intro B W2 hN2 hB hk))
 clear hN2
 go_loopw [3] (fun j wr => ∃ k : Nat, k ≤ n ∧ j = .int .i64 k ∧ Hid (∀ i, i < k → (oat X i).kind = 4 → ∀ m, m < n → rowB key X i m = true) ∧ Blk wr B G 25 ∧ Below w.heap.size w wr) (fun j _ => n - (intOf j).toNat)
 case atStart => exact ⟨0, Nat.zero_le _, rfl, fun i hi => absurd hi (by omega), hB, hk⟩
 case round =>
  clear hB hk
  obtain ⟨i, hin, rfl, hal, hB, hk⟩ := hrel
  by_cases hkn : i < n
  ·obtain ⟨b, off, C, rfl, hbb, hC, hr⟩ := obs_at (obs_next h hk) hkn
   have hkn' : (i : Int) < n := by omega
   have hz := hC.size
   have h1c := hC.one
   have k1 := hC.kind
   have hwi := hwd.out i hkn
   have el : ((oat X i).th.lo.toNat : Int) = (oat X i).th.lo := Int.toNat_of_nonneg hwi.2.1.1
   have eh : ((oat X i).th.hi.toNat : Int) = (oat X i).th.hi := Int.toNat_of_nonneg hwi.2.2.1
   have hV : C.extract 37 (37 + 2) = #[.int .u64 ((oat X i).th.lo.toNat : Int), .int .u64 ((oat X i).th.hi.toNat : Int)] := by rw [el, eh]; exact ext2 hC.th.lo hC.th.hi
   go_wp2_with (first
    | (with_reducible refine wpList_load1 (by kernel_rfl) _ _ rfl B _ rfl _ _ hB _ c3 ga3 ?_)
    | (with_reducible refine wpList_loadm (by kernel_rfl) 54 _ rfl b _ rfl C hr _ Try.underlying54 (by kernel_rfl) (size40C hz) ?_)
    | ((with_reducible refine wpList_alloc rfl _ rfl zC zero40 ?_); intro R W3 hB3 hR3 hk3)
    | ((with_reducible refine wpList_store_blk rfl _ _ _ rfl R rfl C rfl zC hR3 (size40C hz) (zC_size.trans hz.symm) h1c ?_); intro W4 hR4 o4; have k4 := o4.below wr.heap.size wr (by have := hB3.out.1; omega) hk3; replace hB := hB.next k4; replace hk := hk.trans (k4.mono hk.size)))
   have hal2 : Hid ((oat X i).kind = 4 → ∀ q, q < 0 → rowB key X i q = true) := fun _ q hq => absurd hq (by omega)
   go_loopw [5] (fun j wr => ∃ k : Nat, k ≤ n ∧ j = .int .i64 k ∧ Hid ((oat X i).kind = 4 → ∀ q, q < k → rowB key X i q = true) ∧ Blk wr B G 25 ∧ Blk wr R C 54 ∧ Below w.heap.size w wr) (fun j _ => n - (intOf j).toNat)
   case atStart => exact ⟨0, Nat.zero_le _, rfl, hal2, hB, hR4, hk⟩
   case round =>
    rename_i wq _
    clear hB hk hR4 k4 hal2
    obtain ⟨m, hmn1, rfl, hrw, hB, hR4, hk⟩ := hrel
    by_cases h4 : (oat X i).kind = 4
    ·have h4b : ((oat X i).kind == 4) = true := by simpa using h4
     by_cases hmn : m < n
     ·obtain ⟨b2, off2, C2, e2, hbb2, hC2, hr2⟩ := obs_at (obs_next h hk) hmn
      cases e2
      have hmn' : (m : Int) < n := by omega
      have hz2 := hC2.size
      have h1c2 := hC2.one
      have k2 := hC2.kind
      have i2 := hC2.id
      have hwm := hwd.out m hmn
      have el2 : ((oat X m).th.lo.toNat : Int) = (oat X m).th.lo := Int.toNat_of_nonneg hwm.2.1.1
      have eh2 : ((oat X m).th.hi.toNat : Int) = (oat X m).th.hi := Int.toNat_of_nonneg hwm.2.2.1
      have ei2 : ((oat X m).id.toNat : Int) = (oat X m).id := Int.toNat_of_nonneg hwm.1.1
      have hV2 : C2.extract 37 (37 + 2) = #[.int .u64 ((oat X m).th.lo.toNat : Int), .int .u64 ((oat X m).th.hi.toNat : Int)] := by rw [el2, eh2]; exact ext2 hC2.th.lo hC2.th.hi
      rw [← ei2] at i2
      have hid64 : (oat X m).id.toNat < 18446744073709551616 := by have := hwm.1.2; omega
      have hrow : Hid (rowB key X i m = !(SrM.hasK key (oat X i).th.lo.toNat (oat X i).th.hi.toNat (oat X m).id.toNat || (decide ((oat X m).kind = 4) && (decide (m ≠ i) && !rapB (oat X i).th.lo.toNat (oat X i).th.hi.toNat (oat X m).th.lo.toNat (oat X m).th.hi.toNat)))) := rfl
      have hhas := fun W => rHas_any (k := key) (a := (oat X i).th.lo.toNat) (b := (oat X i).th.hi.toNat) hid64 W
      have hap := fun W => rapart_any (oat X i).th.lo.toNat (oat X i).th.hi.toNat (oat X m).th.lo.toNat (oat X m).th.hi.toNat W
      clear hwm el2 eh2 ei2 hid64 hwi el eh hC hC2 hr hbb2
      generalize SrM.hasK key (oat X i).th.lo.toNat (oat X i).th.hi.toNat (oat X m).id.toNat = hb0 at hhas hrow
      generalize rapB (oat X i).th.lo.toNat (oat X i).th.hi.toNat (oat X m).th.lo.toNat (oat X m).th.hi.toNat = ap0 at hap hrow
      generalize (oat X i).th.lo.toNat = lo at hV hhas hap
      generalize (oat X i).th.hi.toNat = hi at hV hhas hap
      generalize (oat X m).th.lo.toNat = lo2 at hV2 hap
      generalize (oat X m).th.hi.toNat = hi2 at hV2 hap
      generalize (oat X m).id.toNat = id2 at i2 hhas
      generalize (oat X m).kind = kd2 at k2 hrow
      have hnx : Hid (rowB key X i m = true → (oat X i).kind = 4 → ∀ q, q < m + 1 → rowB key X i q = true) := by
       refine (?_ : rowB key X i m = true → (oat X i).kind = 4 → ∀ q, q < m + 1 → rowB key X i q = true)
       intro e q4 q hq
       rcases Nat.lt_or_ge q m with c | c
       ·exact hrw.out q4 q c
       ·obtain rfl : q = m := by omega
        exact e
      cases hb0 with
      | true =>
       go_wp2_with (first
        | (with_reducible refine wpList_load1 (by first | kernel_rfl | with_unfolding_all rfl) _ _ rfl B _ rfl _ _ hB _ c3 ga3 ?_)
        | (with_reducible refine wpList_load1 (by first | kernel_rfl | with_unfolding_all rfl) _ _ rfl R _ rfl _ _ hR4 _ k1 gai ?_)
        | (with_reducible refine wpList_loadm (by first | kernel_rfl | with_unfolding_all rfl) 54 _ rfl b _ rfl C2 hr2 _ Try.underlying54 (by kernel_rfl) (size40C hz2) ?_)
        | ((with_reducible refine wpList_alloc rfl _ rfl zC zero40 ?_); intro R2 W5 hN5 hR5 hk5)
        | ((with_reducible refine wpList_store_blk rfl _ _ _ rfl R2 rfl C2 rfl zC hR5 (size40C hz2) (zC_size.trans hz2.symm) h1c2 ?_); intro W6 hR6 o6; have k6 := o6.below wr.heap.size wr (by have := hN5.out.1; omega) hk5; replace hB := hB.next k6; replace hR4 := hR4.next k6; replace hk := hk.trans (k6.mono hk.size); clear hN5 hR5 hk5 o6 k6)
        | (with_reducible refine wpList_load1 (by first | kernel_rfl | with_unfolding_all rfl) _ _ rfl B _ rfl _ _ hB _ c1 ga1 ?_)
        | (with_reducible refine wpList_load1 (by first | kernel_rfl | with_unfolding_all rfl) _ _ rfl R2 _ rfl _ _ hR6 _ i2 ga1 ?_)
        | (with_reducible refine wpList_load1 (by first | kernel_rfl | with_unfolding_all rfl) _ _ rfl R2 _ rfl _ _ hR6 _ k2 gai ?_)
        | (with_reducible refine wpList_loadp (by first | kernel_rfl | with_unfolding_all rfl) _ _ rfl R 37 rfl 2 C _ hR4 #[.int .u64 (lo : Int), .int .u64 (hi : Int)] hV (by omega) _ Try.underlying47 (by kernel_rfl) (by kernel_rfl) ?_)
        | (with_reducible refine wpList_loadp (by first | kernel_rfl | with_unfolding_all rfl) _ _ rfl R2 37 rfl 2 C2 _ hR6 #[.int .u64 (lo2 : Int), .int .u64 (hi2 : Int)] hV2 (by omega) _ Try.underlying47 (by kernel_rfl) (by kernel_rfl) ?_)
        | (go_at_call 59; (with_reducible refine (hhas _).mono ?_); rintro e w7 ⟨rfl, hb7⟩; replace hB := hB.next hb7; replace hR4 := hR4.next hb7; replace hR6 := hR6.next hb7; replace hk := hk.trans (hb7.mono hk.size); clear hb7)
        | (go_at_call 60; (with_reducible refine (hap _).mono ?_); rintro e w8 ⟨rfl, hb8⟩; replace hB := hB.next hb8; replace hR4 := hR4.next hb8; replace hR6 := hR6.next hb8; replace hk := hk.trans (hb8.mono hk.size); clear hb8)
        | ((with_reducible refine wpList_test (by first | kernel_rfl | with_unfolding_all rfl) .eql 3 _ _ _ rfl (.int .i64 kd2) (.int .i64 4) rfl rfl (eqg_int _ _ _ _ _ _) ?_ ?_) <;> intro hq2)
        | ((with_reducible refine wpList_test (by first | kernel_rfl | with_unfolding_all rfl) .neq 3 _ _ _ rfl (.int .i64 (m : Int)) (.int .i64 (i : Int)) rfl rfl (neg_int _ _ _ _ _ _) ?_ ?_) <;> intro hq3))
       go_ret
       exact ⟨by rw [hno.out i m hkn hmn h4 (by rw [hrow.out]; rfl)]; rfl, hk⟩
      | false =>
       cases ap0 with
       | true =>
        go_wp2_with (first
         | (with_reducible refine wpList_load1 (by first | kernel_rfl | with_unfolding_all rfl) _ _ rfl B _ rfl _ _ hB _ c3 ga3 ?_)
         | (with_reducible refine wpList_load1 (by first | kernel_rfl | with_unfolding_all rfl) _ _ rfl R _ rfl _ _ hR4 _ k1 gai ?_)
         | (with_reducible refine wpList_loadm (by first | kernel_rfl | with_unfolding_all rfl) 54 _ rfl b _ rfl C2 hr2 _ Try.underlying54 (by kernel_rfl) (size40C hz2) ?_)
         | ((with_reducible refine wpList_alloc rfl _ rfl zC zero40 ?_); intro R2 W5 hN5 hR5 hk5)
         | ((with_reducible refine wpList_store_blk rfl _ _ _ rfl R2 rfl C2 rfl zC hR5 (size40C hz2) (zC_size.trans hz2.symm) h1c2 ?_); intro W6 hR6 o6; have k6 := o6.below wr.heap.size wr (by have := hN5.out.1; omega) hk5; replace hB := hB.next k6; replace hR4 := hR4.next k6; replace hk := hk.trans (k6.mono hk.size); clear hN5 hR5 hk5 o6 k6)
         | (with_reducible refine wpList_load1 (by first | kernel_rfl | with_unfolding_all rfl) _ _ rfl B _ rfl _ _ hB _ c1 ga1 ?_)
         | (with_reducible refine wpList_load1 (by first | kernel_rfl | with_unfolding_all rfl) _ _ rfl R2 _ rfl _ _ hR6 _ i2 ga1 ?_)
         | (with_reducible refine wpList_load1 (by first | kernel_rfl | with_unfolding_all rfl) _ _ rfl R2 _ rfl _ _ hR6 _ k2 gai ?_)
         | (with_reducible refine wpList_loadp (by first | kernel_rfl | with_unfolding_all rfl) _ _ rfl R 37 rfl 2 C _ hR4 #[.int .u64 (lo : Int), .int .u64 (hi : Int)] hV (by omega) _ Try.underlying47 (by kernel_rfl) (by kernel_rfl) ?_)
         | (with_reducible refine wpList_loadp (by first | kernel_rfl | with_unfolding_all rfl) _ _ rfl R2 37 rfl 2 C2 _ hR6 #[.int .u64 (lo2 : Int), .int .u64 (hi2 : Int)] hV2 (by omega) _ Try.underlying47 (by kernel_rfl) (by kernel_rfl) ?_)
         | (go_at_call 59; (with_reducible refine (hhas _).mono ?_); rintro e w7 ⟨rfl, hb7⟩; replace hB := hB.next hb7; replace hR4 := hR4.next hb7; replace hR6 := hR6.next hb7; replace hk := hk.trans (hb7.mono hk.size); clear hb7)
         | (go_at_call 60; (with_reducible refine (hap _).mono ?_); rintro e w8 ⟨rfl, hb8⟩; replace hB := hB.next hb8; replace hR4 := hR4.next hb8; replace hR6 := hR6.next hb8; replace hk := hk.trans (hb8.mono hk.size); clear hb8)
         | ((with_reducible refine wpList_test (by first | kernel_rfl | with_unfolding_all rfl) .eql 3 _ _ _ rfl (.int .i64 kd2) (.int .i64 4) rfl rfl (eqg_int _ _ _ _ _ _) ?_ ?_) <;> intro hq2)
         | ((with_reducible refine wpList_test (by first | kernel_rfl | with_unfolding_all rfl) .neq 3 _ _ _ rfl (.int .i64 (m : Int)) (.int .i64 (i : Int)) rfl rfl (neg_int _ _ _ _ _ _) ?_ ?_) <;> intro hq3))
        all_goals
         go_roundw
         case rel => exact ⟨m + 1, by omega, by go_num, hnx.out (by rw [hrow.out]; simp), hB, hR4, hk⟩
         case measure => simp [intOf]; omega
       | false =>
        go_wp2_with (first
         | (with_reducible refine wpList_load1 (by first | kernel_rfl | with_unfolding_all rfl) _ _ rfl B _ rfl _ _ hB _ c3 ga3 ?_)
         | (with_reducible refine wpList_load1 (by first | kernel_rfl | with_unfolding_all rfl) _ _ rfl R _ rfl _ _ hR4 _ k1 gai ?_)
         | (with_reducible refine wpList_loadm (by first | kernel_rfl | with_unfolding_all rfl) 54 _ rfl b _ rfl C2 hr2 _ Try.underlying54 (by kernel_rfl) (size40C hz2) ?_)
         | ((with_reducible refine wpList_alloc rfl _ rfl zC zero40 ?_); intro R2 W5 hN5 hR5 hk5)
         | ((with_reducible refine wpList_store_blk rfl _ _ _ rfl R2 rfl C2 rfl zC hR5 (size40C hz2) (zC_size.trans hz2.symm) h1c2 ?_); intro W6 hR6 o6; have k6 := o6.below wr.heap.size wr (by have := hN5.out.1; omega) hk5; replace hB := hB.next k6; replace hR4 := hR4.next k6; replace hk := hk.trans (k6.mono hk.size); clear hN5 hR5 hk5 o6 k6)
         | (with_reducible refine wpList_load1 (by first | kernel_rfl | with_unfolding_all rfl) _ _ rfl B _ rfl _ _ hB _ c1 ga1 ?_)
         | (with_reducible refine wpList_load1 (by first | kernel_rfl | with_unfolding_all rfl) _ _ rfl R2 _ rfl _ _ hR6 _ i2 ga1 ?_)
         | (with_reducible refine wpList_load1 (by first | kernel_rfl | with_unfolding_all rfl) _ _ rfl R2 _ rfl _ _ hR6 _ k2 gai ?_)
         | (with_reducible refine wpList_loadp (by first | kernel_rfl | with_unfolding_all rfl) _ _ rfl R 37 rfl 2 C _ hR4 #[.int .u64 (lo : Int), .int .u64 (hi : Int)] hV (by omega) _ Try.underlying47 (by kernel_rfl) (by kernel_rfl) ?_)
         | (with_reducible refine wpList_loadp (by first | kernel_rfl | with_unfolding_all rfl) _ _ rfl R2 37 rfl 2 C2 _ hR6 #[.int .u64 (lo2 : Int), .int .u64 (hi2 : Int)] hV2 (by omega) _ Try.underlying47 (by kernel_rfl) (by kernel_rfl) ?_)
         | (go_at_call 59; (with_reducible refine (hhas _).mono ?_); rintro e w7 ⟨rfl, hb7⟩; replace hB := hB.next hb7; replace hR4 := hR4.next hb7; replace hR6 := hR6.next hb7; replace hk := hk.trans (hb7.mono hk.size); clear hb7)
         | (go_at_call 60; (with_reducible refine (hap _).mono ?_); rintro e w8 ⟨rfl, hb8⟩; replace hB := hB.next hb8; replace hR4 := hR4.next hb8; replace hR6 := hR6.next hb8; replace hk := hk.trans (hb8.mono hk.size); clear hb8)
         | ((with_reducible refine wpList_test (by first | kernel_rfl | with_unfolding_all rfl) .eql 3 _ _ _ rfl (.int .i64 kd2) (.int .i64 4) rfl rfl (eqg_int _ _ _ _ _ _) ?_ ?_) <;> intro hq2)
         | ((with_reducible refine wpList_test (by first | kernel_rfl | with_unfolding_all rfl) .neq 3 _ _ _ rfl (.int .i64 (m : Int)) (.int .i64 (i : Int)) rfl rfl (neg_int _ _ _ _ _ _) ?_ ?_) <;> intro hq3))
        ·go_ret
         exact ⟨by rw [hno.out i m hkn hmn h4 (by rw [hrow.out, decide_eq_true hq2.out, decide_eq_true (show m ≠ i by have := hq3.out; omega)]; rfl)]; rfl, hk⟩
        ·go_roundw
         case rel => exact ⟨m + 1, by omega, by go_num, hnx.out (by rw [hrow.out, decide_eq_false (show ¬ m ≠ i by have := hq3.out; omega)]; simp), hB, hR4, hk⟩
         case measure => simp [intOf]; omega
        ·go_roundw
         case rel => exact ⟨m + 1, by omega, by go_num, hnx.out (by rw [hrow.out, decide_eq_false hq2.out]; simp), hB, hR4, hk⟩
         case measure => simp [intOf]; omega
     ·obtain rfl : m = n := by omega
      go_wp2_with (first
       | (with_reducible refine wpList_load1 (by first | kernel_rfl | with_unfolding_all rfl) _ _ rfl B _ rfl _ _ hB _ c3 ga3 ?_)
       | (with_reducible refine wpList_load1 (by first | kernel_rfl | with_unfolding_all rfl) _ _ rfl R _ rfl _ _ hR4 _ k1 gai ?_))
      go_roundw
      case rel => exact ⟨i + 1, by omega, by go_num, sp_next hal.out hrw.out, hB, hk⟩
      case measure => simp [intOf]; omega
    ·have h4b : ((oat X i).kind == 4) = false := by simpa using h4
     by_cases hmn : m < n
     ·have hmn' : (m : Int) < n := by omega
      go_wp2_with (first
       | (with_reducible refine wpList_load1 (by first | kernel_rfl | with_unfolding_all rfl) _ _ rfl B _ rfl _ _ hB _ c3 ga3 ?_)
       | (with_reducible refine wpList_load1 (by first | kernel_rfl | with_unfolding_all rfl) _ _ rfl R _ rfl _ _ hR4 _ k1 gai ?_))
      go_roundw
      case rel => exact ⟨i + 1, by omega, by go_num, sp_next hal.out (fun q => absurd q h4), hB, hk⟩
      case measure => simp [intOf]; omega
     ·obtain rfl : m = n := by omega
      go_wp2_with (first
       | (with_reducible refine wpList_load1 (by first | kernel_rfl | with_unfolding_all rfl) _ _ rfl B _ rfl _ _ hB _ c3 ga3 ?_)
       | (with_reducible refine wpList_load1 (by first | kernel_rfl | with_unfolding_all rfl) _ _ rfl R _ rfl _ _ hR4 _ k1 gai ?_))
      go_roundw
      case rel => exact ⟨i + 1, by omega, by go_num, sp_next hal.out (fun q => absurd q h4), hB, hk⟩
      case measure => simp [intOf]; omega
  ·obtain rfl : i = n := by omega
   go_wp2_with (first
    | (with_reducible refine wpList_load1 (by kernel_rfl) _ _ rfl B _ rfl _ _ hB _ c3 ga3 ?_))
   go_ret
   exact ⟨by rw [hyes.out hal.out]; rfl, hk⟩
end Go.Proofs.Ytcmcakandbpjfaa
namespace Go.Proofs.Ytcmcakandbpjfaa
set_option maxRecDepth 100000
set_option maxHeartbeats 8000000
open Go.RowKit Go.Shelf
set_option linter.unusedVariables false
attribute [local go_sem] Oper.semAt_some

theorem rplaced_w {w : World} {t ke ro : Int} {ao : Option Addr} {n cap : Nat} {X : List Ob} {C : Array Value} {o : Ob} (h : Obs w ao n cap X) (hn16 : n ≤ 4096) (ho : ObD (LtN w) w C o) : Calls Try.prog 37 #[.agg #[.int .i64 t, .int .u64 ke, .int .u64 ro, .slice ao n cap], .agg C] w fun e w' => e = .returned (.bool (plaB X ro o)) ∧ Below w.heap.size w w' := by
 have g2 : (#[.int .i64 t, .int .u64 ke, .int .u64 ro, .slice ao n cap] : Array Value)[2]? = some (.int .u64 ro) := rfl
 have hzw : (Try.prog.info? 25).map (·.size) = some (#[.int .i64 t, .int .u64 ke, .int .u64 ro, .slice ao n cap] : Array Value).size := by kernel_rfl
 have hho := fun (W : World) (hk : Below w.heap.size w W) => rholders_any (t := t) (ke := ke) (ro := ro) (i := o.id) (obs_next h hk) hn16
 have hup := fun (W : World) (hk : Below w.heap.size w W) => rup_w (t := t) (ke := ke) (ro := ro) (i := o.id) (obs_next h hk) hn16
 have c0 := ho.id
 have c1 := ho.kind
 have c3 := ho.quota
 have c4 := ho.fixed
 have hP : Hid (plaB X ro o = if o.id = ro then decide ((holL X o.id).length = 0) && (decide (o.kind = 2) && decide (o.quota ≤ 1024)) else (decide (1 ≤ (holL X o.id).length) && !(decide (1 < (holL X o.id).length) && (!o.fixed || (decide (o.kind = 2) || decide (o.kind = 4))))) && (!decide (o.kind = 2) || upB X ro o.id)) := rfl
 rw [hP.out]
 clear hP
 obtain ⟨G, hG⟩ : ∃ G : Array Value, G = #[.int .i64 t, .int .u64 ke, .int .u64 ro, .slice ao n cap] := ⟨_, rfl⟩
 rw [← hG] at g2 hzw hho hup
 rw [← hG]
 clear hG ho
 obtain ⟨m, hm⟩ : ∃ m, Hid ((holL X o.id).length = m) := ⟨_, rfl⟩
 rw [hm.out]
 generalize holL X o.id = L at hho hm
 generalize upB X ro o.id = ub at hup ⊢
 generalize o.id = i at c0 hho hup ⊢
 generalize o.kind = kd at c1 ⊢
 generalize o.quota = qt at c3 ⊢
 generalize o.fixed = fx at c4 ⊢
 by_cases hi : i = ro
 ·subst hi
  rw [if_pos rfl]
  go_enter Try.func37, Try.ntmps37
  go_wp2_with (first
   | (with_reducible refine wpList_box rfl 25 _ rfl G rfl ?_; intro B2 W2 hN2 hB2 hk)
   | (with_reducible refine wpList_box rfl 54 _ rfl C rfl ?_; intro B3 W3 hN3 hB3 hk3; replace hB2 := hB2.next hk3; replace hk := hk.trans (hk3.mono hk.size))
   | (with_reducible refine wpList_loadb (by with_unfolding_all rfl) _ _ rfl B2 rfl G hB2 _ Try.underlying25 (by kernel_rfl) hzw ?_)
   | (with_reducible refine wpList_load1 (by with_unfolding_all rfl) _ _ rfl B3 _ rfl _ _ hB3 _ c0 Try.isAgg22 ?_)
   | (with_reducible refine wpList_load1 (by with_unfolding_all rfl) _ _ rfl B3 _ rfl _ _ hB3 _ c1 Try.isAgg3 ?_)
   | (with_reducible refine wpList_load1 (by with_unfolding_all rfl) _ _ rfl B3 _ rfl _ _ hB3 _ c3 Try.isAgg3 ?_)
   | (with_reducible refine wpList_load1 (by with_unfolding_all rfl) _ _ rfl B3 _ rfl _ _ hB3 _ c4 Try.isAgg4 ?_)
   | (with_reducible refine wpList_load1 (by with_unfolding_all rfl) _ _ rfl B2 _ rfl _ _ hB2 _ g2 Try.isAgg22 ?_)
   | (go_at_call 17; (with_reducible refine (hho _ hk).mono ?_); rintro e w1 ⟨v, rfl, hown, hb1⟩; replace hB2 := hB2.next hb1; replace hB3 := hB3.next hb1; replace hk := hk.trans (hb1.mono hk.size); obtain ⟨al, cl, he, hct⟩ := own_ct hown; rw [hm.out] at he; subst he; clear hct hown)
   | (go_at_call 58; (with_reducible refine (hup _ hk).mono ?_); rintro e w2 ⟨rfl, hb2⟩; replace hk := hk.trans (hb2.mono hk.size))
   | ((with_reducible refine wpList_test (by with_unfolding_all rfl) .eql 3 _ _ _ rfl (.int .i64 (m : Int)) _ rfl rfl (eqg_int _ _ _ _ _ _) ?_ ?_) <;> intro hq1)
   | ((with_reducible refine wpList_test (by with_unfolding_all rfl) .lss 3 _ _ _ rfl (.int .i64 (m : Int)) _ rfl rfl (tlt_int _ _ _ _ _ _) ?_ ?_) <;> intro hq4)
   | ((with_reducible refine wpList_test (by with_unfolding_all rfl) .gtr 3 _ _ _ rfl (.int .i64 (m : Int)) _ rfl rfl (tgt_int _ _ _ _ _ _) ?_ ?_) <;> intro hq5)
   | ((with_reducible refine wpList_test (by with_unfolding_all rfl) .eql 3 _ _ _ rfl (.int .i64 kd) (.int .i64 2) rfl rfl (eqg_int _ _ _ _ _ _) ?_ ?_) <;> intro hq2)
   | ((with_reducible refine wpList_test (by with_unfolding_all rfl) .eql 3 _ _ _ rfl (.int .i64 kd) (.int .i64 4) rfl rfl (eqg_int _ _ _ _ _ _) ?_ ?_) <;> intro hq6)
   | ((with_reducible refine wpList_test (by with_unfolding_all rfl) .neq 3 _ _ _ rfl (.int .i64 kd) (.int .i64 2) rfl rfl (neg_int _ _ _ _ _ _) ?_ ?_) <;> intro hq7)
   | ((with_reducible refine wpList_test (by with_unfolding_all rfl) .leq 3 _ _ _ rfl _ _ rfl rfl (tle_int _ _ _ _ _ _) ?_ ?_) <;> intro hq3))
  all_goals
   go_ret
   refine ⟨congrArg (fun z => Ending.returned (.bool z)) ?_, hk⟩
   clear hho hup hzw
   simp only [Hid] at *
   first
    | (refine Eq.symm ?_; simp only [Bool.and_eq_true, decide_eq_true_eq, decide_eq_false_iff_not, Bool.and_eq_false_iff]; omega)
    | (refine Eq.symm ?_; rw [Bool.eq_false_iff]; simp only [ne_eq, Bool.and_eq_true, Bool.or_eq_true, Bool.not_eq_true', decide_eq_true_eq, decide_eq_false_iff_not, Bool.and_eq_false_iff, Bool.or_eq_false_iff, reduceCtorEq, or_true, true_or, and_true, true_and, or_false, false_or, and_false, false_and, Bool.not_true, Bool.not_false]; omega)
 ·have hib : (i == ro) = false := by simpa using hi
  rw [if_neg hi]
  cases fx <;> cases ub
  all_goals
   go_enter Try.func37, Try.ntmps37
   go_wp2_with (first
    | (with_reducible refine wpList_box rfl 25 _ rfl G rfl ?_; intro B2 W2 hN2 hB2 hk)
    | (with_reducible refine wpList_box rfl 54 _ rfl C rfl ?_; intro B3 W3 hN3 hB3 hk3; replace hB2 := hB2.next hk3; replace hk := hk.trans (hk3.mono hk.size))
    | (with_reducible refine wpList_loadb (by with_unfolding_all rfl) _ _ rfl B2 rfl G hB2 _ Try.underlying25 (by kernel_rfl) hzw ?_)
    | (with_reducible refine wpList_load1 (by with_unfolding_all rfl) _ _ rfl B3 _ rfl _ _ hB3 _ c0 Try.isAgg22 ?_)
    | (with_reducible refine wpList_load1 (by with_unfolding_all rfl) _ _ rfl B3 _ rfl _ _ hB3 _ c1 Try.isAgg3 ?_)
    | (with_reducible refine wpList_load1 (by with_unfolding_all rfl) _ _ rfl B3 _ rfl _ _ hB3 _ c3 Try.isAgg3 ?_)
    | (with_reducible refine wpList_load1 (by with_unfolding_all rfl) _ _ rfl B3 _ rfl _ _ hB3 _ c4 Try.isAgg4 ?_)
    | (with_reducible refine wpList_load1 (by with_unfolding_all rfl) _ _ rfl B2 _ rfl _ _ hB2 _ g2 Try.isAgg22 ?_)
    | (go_at_call 17; (with_reducible refine (hho _ hk).mono ?_); rintro e w1 ⟨v, rfl, hown, hb1⟩; replace hB2 := hB2.next hb1; replace hB3 := hB3.next hb1; replace hk := hk.trans (hb1.mono hk.size); obtain ⟨al, cl, he, hct⟩ := own_ct hown; rw [hm.out] at he; subst he; clear hct hown)
    | (go_at_call 58; (with_reducible refine (hup _ hk).mono ?_); rintro e w2 ⟨rfl, hb2⟩; replace hk := hk.trans (hb2.mono hk.size))
    | ((with_reducible refine wpList_test (by with_unfolding_all rfl) .eql 3 _ _ _ rfl (.int .i64 (m : Int)) _ rfl rfl (eqg_int _ _ _ _ _ _) ?_ ?_) <;> intro hq1)
    | ((with_reducible refine wpList_test (by with_unfolding_all rfl) .lss 3 _ _ _ rfl (.int .i64 (m : Int)) _ rfl rfl (tlt_int _ _ _ _ _ _) ?_ ?_) <;> intro hq4)
    | ((with_reducible refine wpList_test (by with_unfolding_all rfl) .gtr 3 _ _ _ rfl (.int .i64 (m : Int)) _ rfl rfl (tgt_int _ _ _ _ _ _) ?_ ?_) <;> intro hq5)
    | ((with_reducible refine wpList_test (by with_unfolding_all rfl) .eql 3 _ _ _ rfl (.int .i64 kd) (.int .i64 2) rfl rfl (eqg_int _ _ _ _ _ _) ?_ ?_) <;> intro hq2)
    | ((with_reducible refine wpList_test (by with_unfolding_all rfl) .eql 3 _ _ _ rfl (.int .i64 kd) (.int .i64 4) rfl rfl (eqg_int _ _ _ _ _ _) ?_ ?_) <;> intro hq6)
    | ((with_reducible refine wpList_test (by with_unfolding_all rfl) .neq 3 _ _ _ rfl (.int .i64 kd) (.int .i64 2) rfl rfl (neg_int _ _ _ _ _ _) ?_ ?_) <;> intro hq7)
    | ((with_reducible refine wpList_test (by with_unfolding_all rfl) .leq 3 _ _ _ rfl _ _ rfl rfl (tle_int _ _ _ _ _ _) ?_ ?_) <;> intro hq3))
   all_goals
    go_ret
    refine ⟨congrArg (fun z => Ending.returned (.bool z)) ?_, hk⟩
    clear hho hup hzw
    simp only [Hid] at *
    first
     | (refine Eq.symm ?_; simp only [Bool.and_eq_true, Bool.or_eq_true, Bool.not_eq_true', decide_eq_true_eq, decide_eq_false_iff_not, Bool.and_eq_false_iff, Bool.or_eq_false_iff, reduceCtorEq, or_true, and_true, true_and, or_false, and_false, false_and, Bool.not_true, Bool.not_false]; omega)
     | (refine Eq.symm ?_; rw [Bool.eq_false_iff]; simp only [ne_eq, Bool.and_eq_true, Bool.or_eq_true, Bool.not_eq_true', decide_eq_true_eq, decide_eq_false_iff_not, Bool.and_eq_false_iff, Bool.or_eq_false_iff, reduceCtorEq, true_and, or_false, false_and, Bool.not_true, Bool.not_false]; omega)
end Go.Proofs.Ytcmcakandbpjfaa
namespace Go.Proofs.Ytcmcakandbpjfaa
set_option maxRecDepth 100000
set_option maxHeartbeats 8000000
open Go.RowKit Go.Shelf
set_option linter.unusedVariables false
attribute [local go_sem] Oper.semAt_some

theorem sound_lab {x : Ob} (h : soundB x = true) : LbF x.label := by
 have hk := kept_iff.1 (com_iff.1 (sound_iff.1 h).1).2.2.2.1
 exact ⟨fit_iff hk.2.1, by have := hk.1; omega⟩
theorem rfit_v0 {w : World} {t ke ro : Int} {ao : Option Addr} {n cap : Nat} {X : List Ob} (h : Obs w ao n cap X) : Calls Try.prog 35 #[.agg #[.int .i64 t, .int .u64 ke, .int .u64 ro, .slice ao n cap]] w fun e w' => e = .returned (.bool (fitW ⟨t, ke, ro, X⟩)) ∧ Below w.heap.size w w' :=
 (rfit_w (t := t) (ke := ke) (ro := ro) h).on (fun w' hq hb => ⟨by rw [hq.out], hb⟩) (fun w' hq hb => ⟨by rw [Bool.eq_false_iff.2 hq.out], hb⟩)
theorem rtfit_w {w : World} {t ro : Int} {key : Nat} {ao : Option Addr} {n cap : Nat} {X : List Ob} (h : Obs w ao n cap X) (hsm : fitW ⟨t, key, ro, X⟩ = true → Smalls X) (hw : ∀ x ∈ X, WdO x) : Calls Try.prog 15 #[.agg #[.int .i64 t, .int .u64 (key : Int), .int .u64 ro, .slice ao n cap]] w fun e w' => e = .returned (.bool (fitD t key ro X)) ∧ Below w.heap.size w w' := by
 have hmx : Try.prog.follows .mixedOrders = true := by kernel_rfl
 have hn : Hid (X.length = n) := h.1
 have hnc := h.2.1
 have hcm := h.2.2.1.1
 have c2 : (#[.int .i64 t, .int .u64 (key : Int), .int .u64 ro, .slice ao n cap] : Array Value)[2]? = some (.int .u64 ro) := rfl
 have c3 : (#[.int .i64 t, .int .u64 (key : Int), .int .u64 ro, .slice ao n cap] : Array Value)[3]? = some (.slice ao n cap) := rfl
 have hzw : (Try.prog.info? 25).map (·.size) = some (#[.int .i64 t, .int .u64 (key : Int), .int .u64 ro, .slice ao n cap] : Array Value).size := by kernel_rfl
 have hfd := fun {W : World} (hk : Below w.heap.size w W) => rfind_at (t := t) (ke := (key : Int)) (ro := ro) (i := ro) h hk
 have hft := fun (W : World) (hk : Below w.heap.size w W) => rfit_v0 (t := t) (ke := (key : Int)) (ro := ro) (obs_next h hk)
 have hsp := fun (W : World) (hk : Below w.heap.size w W) => rspans_w (t := t) (key := key) (ro := ro) (obs_next h hk) hw
 have hR : Hid (fitD t key ro X = ((fitW ⟨t, key, ro, X⟩ && (fnd X ro).isSome) && (((List.range n).all fun j => lnkB X (oat X j) && plaB X ro (oat X j)) && spaB key X))) := by show fitD t key ro X = _; unfold fitD; rw [hn.out]
 rw [hR.out]
 clear hR
 cases hf : fitW ⟨t, key, ro, X⟩
 rw [hf] at hft
 obtain ⟨G, hG⟩ : ∃ G : Array Value, G = #[.int .i64 t, .int .u64 (key : Int), .int .u64 ro, .slice ao n cap] := ⟨_, rfl⟩
 rw [← hG] at c2 c3 hzw hfd hft hsp
 rw [← hG]
 clear hG
 rw [Bool.false_and, Bool.false_and]
 generalize (fnd X ro).isSome = bf at hfd
 rotate_left
 replace hsm := hsm hf
 obtain ⟨hs, hso, hlen⟩ := fit_mem hf
 have hn16 : n ≤ 4096 := by rw [← hn.out]; omega
 have hq : ∀ x ∈ X, 0 ≤ x.quota ∧ x.quota ≤ 4096 := fun x hx => (sound_q (hso x hx)).1
 have hlb : ∀ x ∈ X, LbF x.label := fun x hx => sound_lab (hso x hx)
 have hli := fun {W : World} {C : Array Value} {j : Nat} (hk : Below w.heap.size w W) (hj : j < n) (hC : ObD (LtN W) W C (oat X j)) => rlinks_w (t := t) (ke := (key : Int)) (ro := ro) (obs_next h hk) hq hlb hC (hsm _ (oat_mem (by rw [hn.out]; exact hj))) (hlb _ (oat_mem (by rw [hn.out]; exact hj)))
 have hpl := fun {W : World} {C : Array Value} {j : Nat} (hk : Below w.heap.size w W) (hC : ObD (LtN W) W C (oat X j)) => rplaced_w (t := t) (ke := (key : Int)) (ro := ro) (obs_next h hk) hn16 hC
 obtain ⟨p, hp⟩ : ∃ p : Nat → Bool, Hid (p = fun j => lnkB X (oat X j) && plaB X ro (oat X j)) := ⟨_, rfl⟩
 rw [hf] at hft
 obtain ⟨G, hG⟩ : ∃ G : Array Value, G = #[.int .i64 t, .int .u64 (key : Int), .int .u64 ro, .slice ao n cap] := ⟨_, rfl⟩
 rw [← hG] at c2 c3 hzw hfd hft hsp hli hpl
 rw [← hG, ← hp.out]
 clear hG hf hs hso hlen hq hlb
 have hal0 : Hid (∀ (k : Nat), k ≤ n → (∀ j, j < k → p j = true) → k = n → (List.range n).all p = true) := by
  refine (?_ : ∀ (k : Nat), k ≤ n → (∀ j, j < k → p j = true) → k = n → (List.range n).all p = true)
  intro k _ hj e
  rw [List.all_eq_true]
  intro j q
  exact hj j (by rw [e]; exact List.mem_range.1 q)
 have hno0 : Hid (∀ (k : Nat), k < n → p k = false → (List.range n).all p = false) := by
  refine (?_ : ∀ (k : Nat), k < n → p k = false → (List.range n).all p = false)
  intro k q e
  rw [List.all_eq_false]
  exact ⟨k, List.mem_range.2 q, by rw [e]; decide⟩
 generalize (List.range n).all p = pa at hal0 hno0 ⊢
 generalize spaB key X = sp at hsp ⊢
 rw [Bool.true_and]
 cases hb : (fnd X ro).isSome
 rw [hb] at hfd
 rw [Bool.false_and]
 rotate_left
 rw [hb] at hfd
 rw [Bool.true_and]
 rotate_left
 all_goals go_enter Try.func15, Try.ntmps15
 all_goals go_wp2_with (first
  | go_skip
  | (with_reducible refine wpList_box rfl 25 _ rfl G rfl ?_; intro B W2 hN2 hB hk)
  | (with_reducible refine wpList_loadb (by first | kernel_rfl | with_unfolding_all rfl) 25 _ rfl B rfl G hB _ Try.underlying25 (by kernel_rfl) hzw ?_)
  | (with_reducible refine wpList_load1 (by first | kernel_rfl | with_unfolding_all rfl) _ _ rfl B _ rfl _ _ hB _ c2 Try.isAgg22 ?_)
  | (go_at_call 16; (with_reducible refine (hfd hk).mono ?_); rintro e w3 ⟨C3, rfl, o3, hb3⟩; replace hB := hB.next hb3; replace hk := hk.trans (hb3.mono hk.size))
  | ((with_reducible refine wpList_alloc rfl _ rfl zC zero40 ?_); intro R W4 hN4 hR4 hk4)
  | ((with_reducible refine wpList_store_blk rfl _ _ _ rfl R rfl C3 rfl zC hR4 (size40C o3.size) (zC_size.trans o3.size.symm) o3.one ?_); intro W5 hR5 o5; have k5 := o5.below w3.heap.size w3 (by have := hN4.out.1; omega) hk4; replace hB := hB.next k5; replace hk := hk.trans (k5.mono hk.size))
  | (go_at_call 35; (with_reducible refine (hft _ hk).mono ?_); rintro e w6 ⟨rfl, hb6⟩; replace hB := hB.next hb6; replace hk := hk.trans (hb6.mono hk.size)))
 ·go_ret
  exact ⟨rfl, hk⟩
 ·go_ret
  exact ⟨rfl, hk⟩
 ·clear hN2 hN4 hR4 hk4 o5 k5 hR5
  go_loopw [5] (fun j wr => ∃ k : Nat, k ≤ n ∧ j = .int .i64 k ∧ Hid (∀ j, j < k → p j = true) ∧ Blk wr B G 25 ∧ Below w.heap.size w wr) (fun j _ => n - (intOf j).toNat)
  case atStart => exact ⟨0, Nat.zero_le _, rfl, fun i hi => absurd hi (by omega), hB, hk⟩
  case round =>
   clear hB hk
   obtain ⟨k, hkn1, rfl, hal, hB, hk⟩ := hrel
   by_cases hkn : k < n
   ·obtain ⟨b, off, C, rfl, hbb, hC, hr⟩ := obs_at h hkn
    have hkn' : (k : Int) < n := by omega
    have hz := hC.size
    have hpk : Hid (p k = (lnkB X (oat X k) && plaB X ro (oat X k))) := by show p k = _; rw [hp.out]
    have hnx : Hid (p k = true → ∀ j, j < k + 1 → p j = true) := by
     refine (?_ : p k = true → ∀ j, j < k + 1 → p j = true)
     intro e j hj
     rcases Nat.lt_or_ge j k with q | q
     ·exact hal.out j q
     ·obtain rfl : j = k := by omega
      exact e
    replace hli := fun {W : World} {C : Array Value} (hk : Below w.heap.size w W) (hC : ObD (LtN W) W C (oat X k)) => hli hk hkn hC
    replace hpl := fun {W : World} {C : Array Value} (hk : Below w.heap.size w W) (hC : ObD (LtN W) W C (oat X k)) => hpl hk hC
    generalize lnkB X (oat X k) = bl at hli hpk
    generalize plaB X ro (oat X k) = bp at hpl hpk
    go_wp2_with (first
     | (with_reducible refine wpList_load1 (by kernel_rfl) _ _ rfl B _ rfl _ _ hB _ c3 Try.isAgg23 ?_))
    refine PgM.region_out (S := fun W => Blk W B G 25 ∧ Below w.heap.size w W) hmx ⟨hB.next (Below.refl _ _).drew, hk.trans ((Below.refl _ _).drew.mono hk.size)⟩ (fun hS => ?_)
    generalize wr.drew = v6 at hS ⊢
    clear hB hk
    refine wpAnyH_sym (by kernel_rfl) (fun _ _ _ _ _ h => h) hS [(0, some (.agg G)), (1, none), (2, some (.slice (some ⟨b, off, none⟩) n cap)), (3, none), (4, some (.pointer (some ⟨b, off + k * 51, none⟩))), (5, some (.agg C))] (l' := #[true, true, true, true, true, true, false, false, false, false, false, false, false, false, false, false, false, false]) (a' := { tmps := #[.agg G, .pointer (some ⟨B, 0, none⟩), u2, .pointer (some ⟨R, 0, none⟩), .bool true, .int .i64 k, .tuple #[.agg C3, .bool true], .agg G, .pointer (some ⟨B, 2, none⟩), .int .u64 ro, .tuple #[.agg C3, .bool true], .agg C3, .bool true, .agg G, .bool true, .bool false, .bool false, .bool true, .bool false, .bool false, .int .i64 k, .pointer (some ⟨B, 3, none⟩), .slice (some ⟨b, off, none⟩) n cap, .int .i64 n, .bool true, u25, u26, .agg G, .pointer (some ⟨B, 3, none⟩), .slice (some ⟨b, off, none⟩) n cap, .int .i64 k, .pointer (some ⟨b, off + k * 51, none⟩), .agg C, u33, u34, u35, u36, u37, u38, u39, u40, u41, u42, u43, u44, undef, undef], defers := [] }) (obs := [.load 25 B 0 (.agg G), .load 23 B 3 (.slice (some ⟨b, off, none⟩) n cap), .ia 23 (.slice (some ⟨b, off, none⟩) n cap) (.int .i64 k) (.pointer (some ⟨b, off + k * 51, none⟩)), .load 54 b (off + k * 51) (.agg C)]) (n := 12) (by kernel_rfl) (by kernel_rfl) ⟨ob_loadb (fun _ h => h.1) Try.underlying25 (by kernel_rfl) hzw, ob_load1 (fun _ h => h.1) c3 Try.isAgg23, ia_at hkn, ob_loadm (fun _ h => range_block hr (h.2.block b hbb)) Try.underlying54 (by kernel_rfl) (size40C hz), trivial⟩ ?_
    cases bl with
    | false =>
     refine wpAnyH_callL (i := 6) (fuel := 11) (f := 36) (vs := [.agg G, .agg C]) (d := some 33) (by kernel_rfl) (by kernel_rfl) (by kernel_rfl) Try.call36 (hli hS.2 (hC.next hS.2)) ?_
     rintro e v7 ⟨rfl, hb7⟩
     have hS7 : Blk v7 B G 25 ∧ Below w.heap.size w v7 := ⟨hS.1.next hb7, hS.2.trans (hb7.mono hS.2.size)⟩
     refine ⟨_, rfl, hS7, ?_⟩
     refine wpAnyH_sym (by kernel_rfl) (fun _ _ _ _ _ h => h) hS7 [(7, none), (8, none), (9, none), (10, none), (11, none), (12, none), (13, none), (14, none), (15, none), (16, none), (17, none)] (l' := #[true, true, true, true, true, true, true, true, true, true, true, true, true, true, true, true, true, true]) (a' := { tmps := #[.agg G, .pointer (some ⟨B, 0, none⟩), u2, .pointer (some ⟨R, 0, none⟩), .bool true, .int .i64 k, .tuple #[.agg C3, .bool true], .agg G, .pointer (some ⟨B, 2, none⟩), .int .u64 ro, .tuple #[.agg C3, .bool true], .agg C3, .bool true, .agg G, .bool true, .bool false, .bool false, .bool true, .bool false, .bool false, .int .i64 k, .pointer (some ⟨B, 3, none⟩), .slice (some ⟨b, off, none⟩) n cap, .int .i64 n, .bool true, u25, u26, .agg G, .pointer (some ⟨B, 3, none⟩), .slice (some ⟨b, off, none⟩) n cap, .int .i64 k, .pointer (some ⟨b, off + k * 51, none⟩), .agg C, .bool false, .bool true, .bool true, undef, undef, undef, undef, undef, undef, undef, undef, .bool true, undef, undef], defers := [] }) (obs := []) (n := 0) (by kernel_rfl) (by kernel_rfl) trivial ?_
     refine wpAnyH_done (by kernel_rfl) ?_ _
     have hz0 := hno0.out k hkn (by rw [hpk.out]; rfl)
     go_wp2
     go_ret
     exact ⟨by rw [hz0]; rfl, hS7.2⟩
    | true =>
     refine wpAnyH_callL (i := 6) (fuel := 11) (f := 36) (vs := [.agg G, .agg C]) (d := some 33) (by kernel_rfl) (by kernel_rfl) (by kernel_rfl) Try.call36 (hli hS.2 (hC.next hS.2)) ?_
     rintro e v7 ⟨rfl, hb7⟩
     have hS7 : Blk v7 B G 25 ∧ Below w.heap.size w v7 := ⟨hS.1.next hb7, hS.2.trans (hb7.mono hS.2.size)⟩
     refine ⟨_, rfl, hS7, ?_⟩
     refine wpAnyH_sym (by kernel_rfl) (fun _ _ _ _ _ h => h) hS7 [(7, none), (8, none), (9, some (.agg G)), (10, none), (11, some (.slice (some ⟨b, off, none⟩) n cap)), (12, none), (13, some (.pointer (some ⟨b, off + k * 51, none⟩))), (14, some (.agg C))] (l' := #[true, true, true, true, true, true, true, true, true, true, true, true, true, true, true, false, false, false]) (a' := { tmps := #[.agg G, .pointer (some ⟨B, 0, none⟩), u2, .pointer (some ⟨R, 0, none⟩), .bool true, .int .i64 k, .tuple #[.agg C3, .bool true], .agg G, .pointer (some ⟨B, 2, none⟩), .int .u64 ro, .tuple #[.agg C3, .bool true], .agg C3, .bool true, .agg G, .bool true, .bool false, .bool false, .bool true, .bool false, .bool false, .int .i64 k, .pointer (some ⟨B, 3, none⟩), .slice (some ⟨b, off, none⟩) n cap, .int .i64 n, .bool true, u25, u26, .agg G, .pointer (some ⟨B, 3, none⟩), .slice (some ⟨b, off, none⟩) n cap, .int .i64 k, .pointer (some ⟨b, off + k * 51, none⟩), .agg C, .bool true, .bool false, .bool false, .agg G, .pointer (some ⟨B, 3, none⟩), .slice (some ⟨b, off, none⟩) n cap, .int .i64 k, .pointer (some ⟨b, off + k * 51, none⟩), .agg C, u42, u43, u44, undef, undef], defers := [] }) (obs := [.load 25 B 0 (.agg G), .load 23 B 3 (.slice (some ⟨b, off, none⟩) n cap), .ia 23 (.slice (some ⟨b, off, none⟩) n cap) (.int .i64 k) (.pointer (some ⟨b, off + k * 51, none⟩)), .load 54 b (off + k * 51) (.agg C)]) (n := 3) (by kernel_rfl) (by kernel_rfl) ⟨ob_loadb (fun _ h => h.1) Try.underlying25 (by kernel_rfl) hzw, ob_load1 (fun _ h => h.1) c3 Try.isAgg23, ia_at hkn, ob_loadm (fun _ h => range_block hr (h.2.block b hbb)) Try.underlying54 (by kernel_rfl) (size40C hz), trivial⟩ ?_
     cases bp with
     | false =>
      refine wpAnyH_callL (i := 15) (fuel := 2) (f := 37) (vs := [.agg G, .agg C]) (d := some 42) (by kernel_rfl) (by kernel_rfl) (by kernel_rfl) Try.call37 (hpl hS7.2 (hC.next hS7.2)) ?_
      rintro e v8 ⟨rfl, hb8⟩
      have hS8 : Blk v8 B G 25 ∧ Below w.heap.size w v8 := ⟨hS7.1.next hb8, hS7.2.trans (hb8.mono hS7.2.size)⟩
      refine ⟨_, rfl, hS8, ?_⟩
      refine wpAnyH_sym (by kernel_rfl) (fun _ _ _ _ _ h => h) hS8 [(16, none), (17, none)] (l' := #[true, true, true, true, true, true, true, true, true, true, true, true, true, true, true, true, true, true]) (a' := { tmps := #[.agg G, .pointer (some ⟨B, 0, none⟩), u2, .pointer (some ⟨R, 0, none⟩), .bool true, .int .i64 k, .tuple #[.agg C3, .bool true], .agg G, .pointer (some ⟨B, 2, none⟩), .int .u64 ro, .tuple #[.agg C3, .bool true], .agg C3, .bool true, .agg G, .bool true, .bool false, .bool false, .bool true, .bool false, .bool false, .int .i64 k, .pointer (some ⟨B, 3, none⟩), .slice (some ⟨b, off, none⟩) n cap, .int .i64 n, .bool true, u25, u26, .agg G, .pointer (some ⟨B, 3, none⟩), .slice (some ⟨b, off, none⟩) n cap, .int .i64 k, .pointer (some ⟨b, off + k * 51, none⟩), .agg C, .bool true, .bool false, .bool false, .agg G, .pointer (some ⟨B, 3, none⟩), .slice (some ⟨b, off, none⟩) n cap, .int .i64 k, .pointer (some ⟨b, off + k * 51, none⟩), .agg C, .bool false, .bool true, .bool true, undef, undef], defers := [] }) (obs := []) (n := 0) (by kernel_rfl) (by kernel_rfl) trivial ?_
      refine wpAnyH_done (by kernel_rfl) ?_ _
      have hz0 := hno0.out k hkn (by rw [hpk.out]; rfl)
      go_wp2
      go_ret
      exact ⟨by rw [hz0]; rfl, hS8.2⟩
     | true =>
      refine wpAnyH_callL (i := 15) (fuel := 2) (f := 37) (vs := [.agg G, .agg C]) (d := some 42) (by kernel_rfl) (by kernel_rfl) (by kernel_rfl) Try.call37 (hpl hS7.2 (hC.next hS7.2)) ?_
      rintro e v8 ⟨rfl, hb8⟩
      have hS8 : Blk v8 B G 25 ∧ Below w.heap.size w v8 := ⟨hS7.1.next hb8, hS7.2.trans (hb8.mono hS7.2.size)⟩
      refine ⟨_, rfl, hS8, ?_⟩
      refine wpAnyH_sym (by kernel_rfl) (fun _ _ _ _ _ h => h) hS8 [(16, none), (17, none)] (l' := #[true, true, true, true, true, true, true, true, true, true, true, true, true, true, true, true, true, true]) (a' := { tmps := #[.agg G, .pointer (some ⟨B, 0, none⟩), u2, .pointer (some ⟨R, 0, none⟩), .bool true, .int .i64 k, .tuple #[.agg C3, .bool true], .agg G, .pointer (some ⟨B, 2, none⟩), .int .u64 ro, .tuple #[.agg C3, .bool true], .agg C3, .bool true, .agg G, .bool true, .bool false, .bool false, .bool true, .bool false, .bool false, .int .i64 k, .pointer (some ⟨B, 3, none⟩), .slice (some ⟨b, off, none⟩) n cap, .int .i64 n, .bool true, u25, u26, .agg G, .pointer (some ⟨B, 3, none⟩), .slice (some ⟨b, off, none⟩) n cap, .int .i64 k, .pointer (some ⟨b, off + k * 51, none⟩), .agg C, .bool true, .bool false, .bool false, .agg G, .pointer (some ⟨B, 3, none⟩), .slice (some ⟨b, off, none⟩) n cap, .int .i64 k, .pointer (some ⟨b, off + k * 51, none⟩), .agg C, .bool true, .bool false, .bool false, undef, undef], defers := [] }) (obs := []) (n := 0) (by kernel_rfl) (by kernel_rfl) trivial ?_
      refine wpAnyH_done (by kernel_rfl) ?_ _
      have hy := hnx.out (by rw [hpk.out]; rfl)
      go_wp2
      go_roundw
      case rel => exact ⟨k + 1, by omega, by go_num, hy, hS8.1, hS8.2⟩
      case measure => simp [intOf]; omega
   ·obtain rfl : k = n := by omega
    have hpa := hal0.out k (Nat.le_refl _) hal.out rfl
    go_wp2_with (first
     | (with_reducible refine wpList_load1 (by kernel_rfl) _ _ rfl B _ rfl _ _ hB _ c3 Try.isAgg23 ?_)
     | (with_reducible refine wpList_loadb (by kernel_rfl) 25 _ rfl B rfl G hB _ Try.underlying25 (by kernel_rfl) hzw ?_)
     | (go_at_call 38; (with_reducible refine (hsp _ hk).mono ?_); rintro e w8 ⟨rfl, hb8⟩; replace hk := hk.trans (hb8.mono hk.size)))
    go_ret
    exact ⟨by rw [hpa]; rfl, hk⟩
end Go.Proofs.Ytcmcakandbpjfaa
