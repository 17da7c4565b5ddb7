/-
 PROVED HERE: what the document's Has and Apart of chapter 7 return when they are called (contracts over this translation); . What is asked stands at each.
-/
import Derived.Test.YthnpckhmdnjikaaGreatZ16
import Derived.Test.YthnpckhmdnjikaaGreatZ17
import Derived.Test.YthnpckhmdnjikaaGreatZ18
namespace Go.Proofs.YthnpckhmdnjikaaGreat
set_option maxRecDepth 100000
set_option maxHeartbeats 8000000
set_option linter.unusedVariables false
open Go.Proofs.Tryz
section
open Go.RowKit Go.Shelf
attribute [local go_sem] Oper.semAt_some
theorem xoz {k a b m : Nat} (hm : m < 18446744073709551616) (w : World) :
  Calls prog 33 #[.int .u64 (k : Int), .agg #[.int .u64 (a : Int), .int .u64 (b : Int)], .int .u64 (m : Int)] w fun e w' => e = .returned (.bool (SrM.hasK k a b m)) ∧ Below w.heap.size w w' := by
 have hn := fun w => SrM.rnum_any (key := k) hm w
 have hr : Hid (SrM.hasK k a b m = ((decide (1 ≤ m) && decide (m ≤ 2305843009213693952)) && (decide (a ≤ Pm.numN k m) && decide (Pm.numN k m < b)))) := rfl
 rw [hr.out]
 generalize Pm.numN k m = y at hn ⊢
 have d0 : (#[.int .u64 (a : Int), .int .u64 (b : Int)] : Array Value)[0]? = some (.int .u64 (a : Int)) := rfl
 have d1 : (#[.int .u64 (a : Int), .int .u64 (b : Int)] : Array Value)[1]? = some (.int .u64 (b : Int)) := rfl
 generalize (#[.int .u64 (a : Int), .int .u64 (b : Int)] : Array Value) = G at d0 d1 ⊢
 go_enter func33, ntmps33
 go_wp2_with (first
  | (with_reducible refine qcz rfl 36 _ rfl G rfl ?_; intro B2 W2 hN2 hB2 hk; replace d0 := (hB2.cell 0).trans d0; replace d1 := (hB2.cell 1).trans d1)
  | (go_at_call 61; (with_reducible refine (hn _).mono ?_); rintro e w1 ⟨rfl, rfl⟩)
  | ((with_reducible refine qez (by with_unfolding_all rfl) .geq _ _ _ _ rfl (.int .u64 (m : Int)) _ rfl rfl (wGz _ _ _ _ _ _) ?_ ?_) <;> intro hq1)
  | ((with_reducible refine qez (by with_unfolding_all rfl) .leq _ _ _ _ rfl (.int .u64 (m : Int)) _ rfl rfl (q9z _ _ _ _ _ _) ?_ ?_) <;> intro hq2)
  | ((with_reducible refine qez (by with_unfolding_all rfl) .geq _ _ _ _ rfl (.int .u64 (y : Int)) _ rfl rfl (wGz _ _ _ _ _ _) ?_ ?_) <;> intro hq3)
  | ((with_reducible refine qez (by with_unfolding_all rfl) .lss _ _ _ _ rfl (.int .u64 (y : Int)) _ rfl rfl (q8z _ _ _ _ _ _) ?_ ?_) <;> intro hq4))
 all_goals
  go_ret
  refine ⟨congrArg (fun z => Ending.returned (.bool z)) ?_, hk⟩
  clear hr
  simp only [Hid] at *
  first
   | (refine Eq.symm ?_; simp only [Bool.and_eq_true, decide_eq_true_eq]; omega)
   | (refine Eq.symm ?_; rw [Bool.eq_false_iff]; simp only [ne_eq, Bool.and_eq_true, decide_eq_true_eq]; omega)
theorem xRz (a b c d : Nat) (w : World) :
  Calls prog 34 #[.agg #[.int .u64 (a : Int), .int .u64 (b : Int)], .agg #[.int .u64 (c : Int), .int .u64 (d : Int)]] w fun e w' => e = .returned (.bool (rapB a b c d)) ∧ Below w.heap.size w w' := by
 have hr : Hid (rapB a b c d = (decide (a = b) || (decide (c = d) || (decide (b ≤ c) || decide (d ≤ a))))) := rfl
 rw [hr.out]
 have d0 : (#[.int .u64 (a : Int), .int .u64 (b : Int)] : Array Value)[0]? = some (.int .u64 (a : Int)) := rfl
 have d1 : (#[.int .u64 (a : Int), .int .u64 (b : Int)] : Array Value)[1]? = some (.int .u64 (b : Int)) := rfl
 have e0 : (#[.int .u64 (c : Int), .int .u64 (d : Int)] : Array Value)[0]? = some (.int .u64 (c : Int)) := rfl
 have e1 : (#[.int .u64 (c : Int), .int .u64 (d : Int)] : Array Value)[1]? = some (.int .u64 (d : Int)) := rfl
 generalize (#[.int .u64 (a : Int), .int .u64 (b : Int)] : Array Value) = G at d0 d1 ⊢
 generalize (#[.int .u64 (c : Int), .int .u64 (d : Int)] : Array Value) = H at e0 e1 ⊢
 go_enter func34, ntmps34
 go_wp2_with (first
  | (with_reducible refine qcz rfl 36 _ rfl G rfl ?_; intro B2 W2 hN2 hB2 hk)
  | (with_reducible refine qcz rfl 36 _ rfl H rfl ?_; intro B3 W3 hN3 hB3 hk3; replace hB2 := hB2.next hk3; replace hk := btz hk hk3; replace d0 := (hB2.cell 0).trans d0; replace d1 := (hB2.cell 1).trans d1; replace e0 := (hB3.cell 0).trans e0; replace e1 := (hB3.cell 1).trans e1)
  | ((with_reducible refine qez (by with_unfolding_all rfl) .eql _ _ _ _ rfl (.int .u64 (a : Int)) _ rfl rfl (qsz _ _ _ _ _ _) ?_ ?_) <;> intro hq1)
  | ((with_reducible refine qez (by with_unfolding_all rfl) .eql _ _ _ _ rfl (.int .u64 (c : Int)) _ rfl rfl (qsz _ _ _ _ _ _) ?_ ?_) <;> intro hq2)
  | ((with_reducible refine qez (by with_unfolding_all rfl) .leq _ _ _ _ rfl (.int .u64 (b : Int)) _ rfl rfl (q9z _ _ _ _ _ _) ?_ ?_) <;> intro hq3)
  | ((with_reducible refine qez (by with_unfolding_all rfl) .leq _ _ _ _ rfl (.int .u64 (d : Int)) _ rfl rfl (q9z _ _ _ _ _ _) ?_ ?_) <;> intro hq4))
 all_goals
  go_ret
  refine ⟨congrArg (fun z => Ending.returned (.bool z)) ?_, hk⟩
  clear hr
  simp only [Hid] at *
  first
   | (refine Eq.symm ?_; simp only [Bool.or_eq_true, decide_eq_true_eq]; omega)
   | (refine Eq.symm ?_; rw [Bool.eq_false_iff]; simp only [ne_eq, Bool.or_eq_true, decide_eq_true_eq]; omega)
variable {X : List Ob} {key : Nat}
theorem u7z : spaB key X = true ↔ ∀ i, i < X.length → (oat X i).kind = 4 → ∀ k, k < X.length → rowB key X i k = true := by
 unfold spaB
 rw [List.all_eq_true]
 refine forall_congr' fun i => ?_
 rw [List.mem_range]
 refine imp_congr_right fun _ => ?_
 by_cases h : (oat X i).kind = 4
 ·rw [decide_eq_true h, Bool.not_true, Bool.false_or, List.all_eq_true]
  simp only [List.mem_range]
  exact ⟨fun q _ => q, fun q => q h⟩
 ·rw [decide_eq_false h]
  exact ⟨fun _ q => absurd q h, fun _ => rfl⟩
theorem vVz {key n i : Nat} (h : ∀ j, j < i → (oat X j).kind = 4 → ∀ m, m < n → rowB key X j m = true) (h1 : (oat X i).kind = 4 → ∀ m, m < n → rowB key X i m = true) : ∀ j, j < i + 1 → (oat X j).kind = 4 → ∀ m, m < n → rowB key X j m = true := by
 intro j hj
 rcases Nat.lt_or_ge j i with c | c
 ·exact h j c
 ·obtain rfl : j = i := by omega
  exact h1
variable {ao : Option Addr} {n cap : Nat} {w : World}
theorem rspans_w {t ro : Int} (h : Obs w ao n cap X) (hw : ∀ x ∈ X, WdO x) : Calls prog 19 #[.agg #[.int .i64 t, .int .u64 (key : Int), .int .u64 ro, .slice ao n cap]] w fun e w' => e = .returned (.bool (spaB key X)) ∧ Below w.heap.size w w' := by
 have hn : Hid (X.length = n) := h.1
 have hnc := h.2.1
 have hcm := h.2.2.1.1
 have ga1 := isAgg22
 have ga3 := isAgg23
 have gai := isAgg3
 have c1 : (#[.int .i64 t, .int .u64 (key : Int), .int .u64 ro, .slice ao n cap] : Array Value)[1]? = some (.int .u64 (key : Int)) := rfl
 have c3 : (#[.int .i64 t, .int .u64 (key : Int), .int .u64 ro, .slice ao n cap] : Array Value)[3]? = some (.slice ao n cap) := rfl
 have hyes : Hid ((∀ i, i < n → (oat X i).kind = 4 → ∀ k, k < n → rowB key X i k = true) → spaB key X = true) := by
  refine (?_ : (∀ i, i < n → (oat X i).kind = 4 → ∀ k, k < n → rowB key X i k = true) → spaB key X = true)
  intro q
  rw [u7z, hn.out]
  exact q
 have hno : Hid (∀ i k, i < n → k < n → (oat X i).kind = 4 → rowB key X i k = false → spaB key X = false) := by
  refine (?_ : ∀ i k, i < n → k < n → (oat X i).kind = 4 → rowB key X i k = false → spaB key X = false)
  intro i k hi hk h4 q
  rw [Bool.eq_false_iff]
  intro e
  rw [u7z, hn.out] at e
  have := e i hi h4 k hk
  rw [q] at this
  cases this
 have hwd : Hid (∀ i, i < n → WdO (oat X i)) := fun i hi => hw _ (qQz (by rw [hn.out]; exact hi))
 generalize spaB key X = res at hyes hno ⊢
 obtain ⟨G, hG⟩ : ∃ G : Array Value, G = #[.int .i64 t, .int .u64 (key : Int), .int .u64 ro, .slice ao n cap] := ⟨_, rfl⟩
 rw [← hG] at c1 c3
 rw [← hG]
 clear hG
 go_enter func19, ntmps19
 go_wp2_with (first
  | (with_reducible refine qcz rfl 25 _ rfl G rfl ?_; intro B W2 hN2 hB hk))
 clear hN2
 go_loopw [3] (fun j wr => ∃ k : Nat, k ≤ n ∧ j = .int .i64 k ∧ Hid (∀ i, i < k → (oat X i).kind = 4 → ∀ m, m < n → rowB key X i m = true) ∧ Blk wr B G 25 ∧ Below w.heap.size w wr) (fun j _ => n - (intOf j).toNat)
 case atStart => exact ⟨0, Nat.zero_le _, rfl, fun i hi => absurd hi (by omega), hB, hk⟩
 case round =>
  clear hB hk
  obtain ⟨i, hin, rfl, hal, hB, hk⟩ := hrel
  by_cases hkn : i < n
  ·obtain ⟨b, off, C, rfl, hbb, hC, hr⟩ := wqz (qvz h hk) hkn
   have hkn' : (i : Int) < n := by omega
   have hz := hC.size
   have h1c := hC.one
   have k1 := hC.kind
   have hwi := hwd.out i hkn
   have el : ((oat X i).th.lo.toNat : Int) = (oat X i).th.lo := Int.toNat_of_nonneg hwi.2.1.1
   have eh : ((oat X i).th.hi.toNat : Int) = (oat X i).th.hi := Int.toNat_of_nonneg hwi.2.2.1
   have hV : C.extract 37 (37 + 2) = #[.int .u64 ((oat X i).th.lo.toNat : Int), .int .u64 ((oat X i).th.hi.toNat : Int)] := by rw [el, eh]; exact ext2 hC.th.lo hC.th.hi
   go_wp2_with (first
    | (with_reducible refine qaz (by kernel_rfl) _ _ rfl B _ rfl _ _ hB _ c3 ga3 ?_)
    | (with_reducible refine qtz (by kernel_rfl) 43 _ rfl b _ rfl C hr _ underlying43 (by kernel_rfl) (qfz hz) ?_)
    | ((with_reducible refine qgz rfl _ rfl zC qwz ?_); intro R W3 hB3 hR3 hk3)
    | ((with_reducible refine qbz rfl _ _ _ rfl R rfl C rfl zC hR3 (qfz hz) (qrz.trans hz.symm) h1c ?_); intro W4 hR4 o4; have k4 := o4.below wr.heap.size wr (by have := hB3.out.1; omega) hk3; replace hB := hB.next k4; replace hk := btz hk k4))
   have hal2 : Hid ((oat X i).kind = 4 → ∀ q, q < 0 → rowB key X i q = true) := fun _ q hq => absurd hq (by omega)
   go_loopw [5] (fun j wr => ∃ k : Nat, k ≤ n ∧ j = .int .i64 k ∧ Hid ((oat X i).kind = 4 → ∀ q, q < k → rowB key X i q = true) ∧ Blk wr B G 25 ∧ Blk wr R C 43 ∧ Below w.heap.size w wr) (fun j _ => n - (intOf j).toNat)
   case atStart => exact ⟨0, Nat.zero_le _, rfl, hal2, hB, hR4, hk⟩
   case round =>
    rename_i wq _
    clear hB hk hR4 k4 hal2
    obtain ⟨m, hmn1, rfl, hrw, hB, hR4, hk⟩ := hrel
    by_cases h4 : (oat X i).kind = 4
    ·have h4b : ((oat X i).kind == 4) = true := by simpa using h4
     by_cases hmn : m < n
     ·obtain ⟨b2, off2, C2, e2, hbb2, hC2, hr2⟩ := wqz (qvz h hk) hmn
      cases e2
      have hmn' : (m : Int) < n := by omega
      have hz2 := hC2.size
      have h1c2 := hC2.one
      have k2 := hC2.kind
      have i2 := hC2.id
      have hwm := hwd.out m hmn
      have el2 : ((oat X m).th.lo.toNat : Int) = (oat X m).th.lo := Int.toNat_of_nonneg hwm.2.1.1
      have eh2 : ((oat X m).th.hi.toNat : Int) = (oat X m).th.hi := Int.toNat_of_nonneg hwm.2.2.1
      have ei2 : ((oat X m).id.toNat : Int) = (oat X m).id := Int.toNat_of_nonneg hwm.1.1
      have hV2 : C2.extract 37 (37 + 2) = #[.int .u64 ((oat X m).th.lo.toNat : Int), .int .u64 ((oat X m).th.hi.toNat : Int)] := by rw [el2, eh2]; exact ext2 hC2.th.lo hC2.th.hi
      rw [← ei2] at i2
      have hid64 : (oat X m).id.toNat < 18446744073709551616 := by have := hwm.1.2; omega
      have hrow : Hid (rowB key X i m = !(SrM.hasK key (oat X i).th.lo.toNat (oat X i).th.hi.toNat (oat X m).id.toNat || (decide ((oat X m).kind = 4) && (decide (m ≠ i) && !rapB (oat X i).th.lo.toNat (oat X i).th.hi.toNat (oat X m).th.lo.toNat (oat X m).th.hi.toNat)))) := rfl
      have hhas := fun W => xoz (k := key) (a := (oat X i).th.lo.toNat) (b := (oat X i).th.hi.toNat) hid64 W
      have hap := fun W => xRz (oat X i).th.lo.toNat (oat X i).th.hi.toNat (oat X m).th.lo.toNat (oat X m).th.hi.toNat W
      clear hwm el2 eh2 ei2 hid64 hwi el eh hC hC2 hr hbb2
      generalize SrM.hasK key (oat X i).th.lo.toNat (oat X i).th.hi.toNat (oat X m).id.toNat = hb0 at hhas hrow
      generalize rapB (oat X i).th.lo.toNat (oat X i).th.hi.toNat (oat X m).th.lo.toNat (oat X m).th.hi.toNat = ap0 at hap hrow
      generalize (oat X i).th.lo.toNat = lo at hV hhas hap
      generalize (oat X i).th.hi.toNat = hi at hV hhas hap
      generalize (oat X m).th.lo.toNat = lo2 at hV2 hap
      generalize (oat X m).th.hi.toNat = hi2 at hV2 hap
      generalize (oat X m).id.toNat = id2 at i2 hhas
      generalize (oat X m).kind = kd2 at k2 hrow
      have hnx : Hid (rowB key X i m = true → (oat X i).kind = 4 → ∀ q, q < m + 1 → rowB key X i q = true) := by
       refine (?_ : rowB key X i m = true → (oat X i).kind = 4 → ∀ q, q < m + 1 → rowB key X i q = true)
       intro e q4 q hq
       rcases Nat.lt_or_ge q m with c | c
       ·exact hrw.out q4 q c
       ·obtain rfl : q = m := by omega
        exact e
      cases hb0 with
      | true =>
       go_wp2_with (first
        | (with_reducible refine qaz (by kernel_rfl) _ _ rfl B _ rfl _ _ hB _ c3 ga3 ?_)
        | (with_reducible refine qaz (by kernel_rfl) _ _ rfl R _ rfl _ _ hR4 _ k1 gai ?_)
        | (with_reducible refine qtz (by kernel_rfl) 43 _ rfl b _ rfl C2 hr2 _ underlying43 (by kernel_rfl) (qfz hz2) ?_)
        | ((with_reducible refine qgz rfl _ rfl zC qwz ?_); intro R2 W5 hN5 hR5 hk5)
        | ((with_reducible refine qbz rfl _ _ _ rfl R2 rfl C2 rfl zC hR5 (qfz hz2) (qrz.trans hz2.symm) h1c2 ?_); intro W6 hR6 o6; have k6 := o6.below wr.heap.size wr (by have := hN5.out.1; omega) hk5; replace hB := hB.next k6; replace hR4 := hR4.next k6; replace hk := btz hk k6; clear hN5 hR5 hk5 o6 k6)
        | (with_reducible refine qaz (by kernel_rfl) _ _ rfl B _ rfl _ _ hB _ c1 ga1 ?_)
        | (with_reducible refine qaz (by kernel_rfl) _ _ rfl R2 _ rfl _ _ hR6 _ i2 ga1 ?_)
        | (with_reducible refine qaz (by kernel_rfl) _ _ rfl R2 _ rfl _ _ hR6 _ k2 gai ?_)
        | (with_reducible refine qiz (by kernel_rfl) _ _ rfl R 37 rfl 2 C _ hR4 #[.int .u64 (lo : Int), .int .u64 (hi : Int)] hV (by omega) _ underlying36 (by kernel_rfl) (by kernel_rfl) ?_)
        | (with_reducible refine qiz (by kernel_rfl) _ _ rfl R2 37 rfl 2 C2 _ hR6 #[.int .u64 (lo2 : Int), .int .u64 (hi2 : Int)] hV2 (by omega) _ underlying36 (by kernel_rfl) (by kernel_rfl) ?_)
        | (go_at_call 33; (with_reducible refine (hhas _).mono ?_); rintro e w7 ⟨rfl, hb7⟩; replace hB := hB.next hb7; replace hR4 := hR4.next hb7; replace hR6 := hR6.next hb7; replace hk := btz hk hb7; clear hb7)
        | (go_at_call 34; (with_reducible refine (hap _).mono ?_); rintro e w8 ⟨rfl, hb8⟩; replace hB := hB.next hb8; replace hR4 := hR4.next hb8; replace hR6 := hR6.next hb8; replace hk := btz hk hb8; clear hb8)
        | ((with_reducible refine qez (by kernel_rfl) .eql 3 _ _ _ rfl (.int .i64 kd2) (.int .i64 4) rfl rfl (qsz _ _ _ _ _ _) ?_ ?_) <;> intro hq2)
        | ((with_reducible refine qez (by kernel_rfl) .neq 3 _ _ _ rfl (.int .i64 (m : Int)) (.int .i64 (i : Int)) rfl rfl (wjz _ _ _ _ _ _) ?_ ?_) <;> intro hq3))
       go_ret
       exact ⟨by rw [hno.out i m hkn hmn h4 (by rw [hrow.out]; rfl)]; rfl, hk⟩
      | false =>
       cases ap0 with
       | true =>
        go_wp2_with (first
         | (with_reducible refine qaz (by kernel_rfl) _ _ rfl B _ rfl _ _ hB _ c3 ga3 ?_)
         | (with_reducible refine qaz (by kernel_rfl) _ _ rfl R _ rfl _ _ hR4 _ k1 gai ?_)
         | (with_reducible refine qtz (by kernel_rfl) 43 _ rfl b _ rfl C2 hr2 _ underlying43 (by kernel_rfl) (qfz hz2) ?_)
         | ((with_reducible refine qgz rfl _ rfl zC qwz ?_); intro R2 W5 hN5 hR5 hk5)
         | ((with_reducible refine qbz rfl _ _ _ rfl R2 rfl C2 rfl zC hR5 (qfz hz2) (qrz.trans hz2.symm) h1c2 ?_); intro W6 hR6 o6; have k6 := o6.below wr.heap.size wr (by have := hN5.out.1; omega) hk5; replace hB := hB.next k6; replace hR4 := hR4.next k6; replace hk := btz hk k6; clear hN5 hR5 hk5 o6 k6)
         | (with_reducible refine qaz (by kernel_rfl) _ _ rfl B _ rfl _ _ hB _ c1 ga1 ?_)
         | (with_reducible refine qaz (by kernel_rfl) _ _ rfl R2 _ rfl _ _ hR6 _ i2 ga1 ?_)
         | (with_reducible refine qaz (by kernel_rfl) _ _ rfl R2 _ rfl _ _ hR6 _ k2 gai ?_)
         | (with_reducible refine qiz (by kernel_rfl) _ _ rfl R 37 rfl 2 C _ hR4 #[.int .u64 (lo : Int), .int .u64 (hi : Int)] hV (by omega) _ underlying36 (by kernel_rfl) (by kernel_rfl) ?_)
         | (with_reducible refine qiz (by kernel_rfl) _ _ rfl R2 37 rfl 2 C2 _ hR6 #[.int .u64 (lo2 : Int), .int .u64 (hi2 : Int)] hV2 (by omega) _ underlying36 (by kernel_rfl) (by kernel_rfl) ?_)
         | (go_at_call 33; (with_reducible refine (hhas _).mono ?_); rintro e w7 ⟨rfl, hb7⟩; replace hB := hB.next hb7; replace hR4 := hR4.next hb7; replace hR6 := hR6.next hb7; replace hk := btz hk hb7; clear hb7)
         | (go_at_call 34; (with_reducible refine (hap _).mono ?_); rintro e w8 ⟨rfl, hb8⟩; replace hB := hB.next hb8; replace hR4 := hR4.next hb8; replace hR6 := hR6.next hb8; replace hk := btz hk hb8; clear hb8)
         | ((with_reducible refine qez (by kernel_rfl) .eql 3 _ _ _ rfl (.int .i64 kd2) (.int .i64 4) rfl rfl (qsz _ _ _ _ _ _) ?_ ?_) <;> intro hq2)
         | ((with_reducible refine qez (by kernel_rfl) .neq 3 _ _ _ rfl (.int .i64 (m : Int)) (.int .i64 (i : Int)) rfl rfl (wjz _ _ _ _ _ _) ?_ ?_) <;> intro hq3))
        all_goals
         go_roundw
         case rel => exact ⟨m + 1, by omega, by go_num, hnx.out (by rw [hrow.out]; simp), hB, hR4, hk⟩
         case measure => simp [intOf]; omega
       | false =>
        go_wp2_with (first
         | (with_reducible refine qaz (by kernel_rfl) _ _ rfl B _ rfl _ _ hB _ c3 ga3 ?_)
         | (with_reducible refine qaz (by kernel_rfl) _ _ rfl R _ rfl _ _ hR4 _ k1 gai ?_)
         | (with_reducible refine qtz (by kernel_rfl) 43 _ rfl b _ rfl C2 hr2 _ underlying43 (by kernel_rfl) (qfz hz2) ?_)
         | ((with_reducible refine qgz rfl _ rfl zC qwz ?_); intro R2 W5 hN5 hR5 hk5)
         | ((with_reducible refine qbz rfl _ _ _ rfl R2 rfl C2 rfl zC hR5 (qfz hz2) (qrz.trans hz2.symm) h1c2 ?_); intro W6 hR6 o6; have k6 := o6.below wr.heap.size wr (by have := hN5.out.1; omega) hk5; replace hB := hB.next k6; replace hR4 := hR4.next k6; replace hk := btz hk k6; clear hN5 hR5 hk5 o6 k6)
         | (with_reducible refine qaz (by kernel_rfl) _ _ rfl B _ rfl _ _ hB _ c1 ga1 ?_)
         | (with_reducible refine qaz (by kernel_rfl) _ _ rfl R2 _ rfl _ _ hR6 _ i2 ga1 ?_)
         | (with_reducible refine qaz (by kernel_rfl) _ _ rfl R2 _ rfl _ _ hR6 _ k2 gai ?_)
         | (with_reducible refine qiz (by kernel_rfl) _ _ rfl R 37 rfl 2 C _ hR4 #[.int .u64 (lo : Int), .int .u64 (hi : Int)] hV (by omega) _ underlying36 (by kernel_rfl) (by kernel_rfl) ?_)
         | (with_reducible refine qiz (by kernel_rfl) _ _ rfl R2 37 rfl 2 C2 _ hR6 #[.int .u64 (lo2 : Int), .int .u64 (hi2 : Int)] hV2 (by omega) _ underlying36 (by kernel_rfl) (by kernel_rfl) ?_)
         | (go_at_call 33; (with_reducible refine (hhas _).mono ?_); rintro e w7 ⟨rfl, hb7⟩; replace hB := hB.next hb7; replace hR4 := hR4.next hb7; replace hR6 := hR6.next hb7; replace hk := btz hk hb7; clear hb7)
         | (go_at_call 34; (with_reducible refine (hap _).mono ?_); rintro e w8 ⟨rfl, hb8⟩; replace hB := hB.next hb8; replace hR4 := hR4.next hb8; replace hR6 := hR6.next hb8; replace hk := btz hk hb8; clear hb8)
         | ((with_reducible refine qez (by kernel_rfl) .eql 3 _ _ _ rfl (.int .i64 kd2) (.int .i64 4) rfl rfl (qsz _ _ _ _ _ _) ?_ ?_) <;> intro hq2)
         | ((with_reducible refine qez (by kernel_rfl) .neq 3 _ _ _ rfl (.int .i64 (m : Int)) (.int .i64 (i : Int)) rfl rfl (wjz _ _ _ _ _ _) ?_ ?_) <;> intro hq3))
        ·go_ret
         exact ⟨by rw [hno.out i m hkn hmn h4 (by rw [hrow.out, decide_eq_true hq2.out, decide_eq_true (show m ≠ i by have := hq3.out; omega)]; rfl)]; rfl, hk⟩
        ·go_roundw
         case rel => exact ⟨m + 1, by omega, by go_num, hnx.out (by rw [hrow.out, decide_eq_false (show ¬ m ≠ i by have := hq3.out; omega)]; simp), hB, hR4, hk⟩
         case measure => simp [intOf]; omega
        ·go_roundw
         case rel => exact ⟨m + 1, by omega, by go_num, hnx.out (by rw [hrow.out, decide_eq_false hq2.out]; simp), hB, hR4, hk⟩
         case measure => simp [intOf]; omega
     ·obtain rfl : m = n := by omega
      go_wp2_with (first
       | (with_reducible refine qaz (by kernel_rfl) _ _ rfl B _ rfl _ _ hB _ c3 ga3 ?_)
       | (with_reducible refine qaz (by kernel_rfl) _ _ rfl R _ rfl _ _ hR4 _ k1 gai ?_))
      go_roundw
      case rel => exact ⟨i + 1, by omega, by go_num, vVz hal.out hrw.out, hB, hk⟩
      case measure => simp [intOf]; omega
    ·have h4b : ((oat X i).kind == 4) = false := by simpa using h4
     by_cases hmn : m < n
     ·have hmn' : (m : Int) < n := by omega
      go_wp2_with (first
       | (with_reducible refine qaz (by kernel_rfl) _ _ rfl B _ rfl _ _ hB _ c3 ga3 ?_)
       | (with_reducible refine qaz (by kernel_rfl) _ _ rfl R _ rfl _ _ hR4 _ k1 gai ?_))
      go_roundw
      case rel => exact ⟨i + 1, by omega, by go_num, vVz hal.out (fun q => absurd q h4), hB, hk⟩
      case measure => simp [intOf]; omega
     ·obtain rfl : m = n := by omega
      go_wp2_with (first
       | (with_reducible refine qaz (by kernel_rfl) _ _ rfl B _ rfl _ _ hB _ c3 ga3 ?_)
       | (with_reducible refine qaz (by kernel_rfl) _ _ rfl R _ rfl _ _ hR4 _ k1 gai ?_))
      go_roundw
      case rel => exact ⟨i + 1, by omega, by go_num, vVz hal.out (fun q => absurd q h4), hB, hk⟩
      case measure => simp [intOf]; omega
  ·obtain rfl : i = n := by omega
   go_wp2_with (first
    | (with_reducible refine qaz (by kernel_rfl) _ _ rfl B _ rfl _ _ hB _ c3 ga3 ?_))
   go_ret
   exact ⟨by rw [hyes.out hal.out]; rfl, hk⟩
theorem gqz {t ke ro : Int} {C : Array Value} {o : Ob} (h : Obs w ao n cap X) (hn16 : n ≤ 4096) (ho : ObD (LtN w) w C o) : Calls prog 18 #[.agg #[.int .i64 t, .int .u64 ke, .int .u64 ro, .slice ao n cap], .agg C] w fun e w' => e = .returned (.bool (plaB X ro o)) ∧ Below w.heap.size w w' := by
 have g2 : (#[.int .i64 t, .int .u64 ke, .int .u64 ro, .slice ao n cap] : Array Value)[2]? = some (.int .u64 ro) := rfl
 have hzw : (prog.info? 25).map (·.size) = some (#[.int .i64 t, .int .u64 ke, .int .u64 ro, .slice ao n cap] : Array Value).size := by kernel_rfl
 have hho := fun (W : World) (hk : Below w.heap.size w W) => kaz (t := t) (ke := ke) (ro := ro) (i := o.id) (qvz h hk) hn16
 have hup := fun (W : World) (hk : Below w.heap.size w W) => rup_w (t := t) (ke := ke) (ro := ro) (i := o.id) (qvz h hk) hn16
 have c0 := ho.id
 have c1 := ho.kind
 have c3 := ho.quota
 have c4 := ho.fixed
 have hP : Hid (plaB X ro o = if o.id = ro then decide ((holL X o.id).length = 0) && (decide (o.kind = 2) && decide (o.quota ≤ 1024)) else (decide (1 ≤ (holL X o.id).length) && !(decide (1 < (holL X o.id).length) && (!o.fixed || (decide (o.kind = 2) || decide (o.kind = 4))))) && (!decide (o.kind = 2) || upB X ro o.id)) := rfl
 rw [hP.out]
 clear hP
 obtain ⟨G, hG⟩ : ∃ G : Array Value, G = #[.int .i64 t, .int .u64 ke, .int .u64 ro, .slice ao n cap] := ⟨_, rfl⟩
 rw [← hG] at g2 hzw hho hup
 rw [← hG]
 clear hG ho
 obtain ⟨m, hm⟩ : ∃ m, Hid ((holL X o.id).length = m) := ⟨_, rfl⟩
 rw [hm.out]
 generalize holL X o.id = L at hho hm
 generalize upB X ro o.id = ub at hup ⊢
 generalize o.id = i at c0 hho hup ⊢
 generalize o.kind = kd at c1 ⊢
 generalize o.quota = qt at c3 ⊢
 generalize o.fixed = fx at c4 ⊢
 by_cases hi : i = ro
 ·subst hi
  rw [if_pos rfl]
  go_enter func18, ntmps18
  go_wp2_with (first
   | (with_reducible refine qcz rfl 25 _ rfl G rfl ?_; intro B2 W2 hN2 hB2 hk)
   | (with_reducible refine qcz rfl 43 _ rfl C rfl ?_; intro B3 W3 hN3 hB3 hk3; replace hB2 := hB2.next hk3; replace hk := btz hk hk3)
   | (with_reducible refine qdz (by with_unfolding_all rfl) _ _ rfl B2 rfl G hB2 _ underlying25 (by kernel_rfl) hzw ?_)
   | (with_reducible refine qaz (by with_unfolding_all rfl) _ _ rfl B3 _ rfl _ _ hB3 _ c0 isAgg22 ?_)
   | (with_reducible refine qaz (by with_unfolding_all rfl) _ _ rfl B3 _ rfl _ _ hB3 _ c1 isAgg3 ?_)
   | (with_reducible refine qaz (by with_unfolding_all rfl) _ _ rfl B3 _ rfl _ _ hB3 _ c3 isAgg3 ?_)
   | (with_reducible refine qaz (by with_unfolding_all rfl) _ _ rfl B3 _ rfl _ _ hB3 _ c4 isAgg4 ?_)
   | (with_reducible refine qaz (by with_unfolding_all rfl) _ _ rfl B2 _ rfl _ _ hB2 _ g2 isAgg22 ?_)
   | (go_at_call 43; (with_reducible refine (hho _ hk).mono ?_); rintro e w1 ⟨v, rfl, hown, hb1⟩; replace hB2 := hB2.next hb1; replace hB3 := hB3.next hb1; replace hk := btz hk hb1; obtain ⟨al, cl, he, hct⟩ := kbz hown; rw [hm.out] at he; subst he; clear hct hown)
   | (go_at_call 44; (with_reducible refine (hup _ hk).mono ?_); rintro e w2 ⟨rfl, hb2⟩; replace hk := btz hk hb2)
   | ((with_reducible refine qez (by with_unfolding_all rfl) .eql 3 _ _ _ rfl (.int .i64 (m : Int)) _ rfl rfl (qsz _ _ _ _ _ _) ?_ ?_) <;> intro hq1)
   | ((with_reducible refine qez (by with_unfolding_all rfl) .lss 3 _ _ _ rfl (.int .i64 (m : Int)) _ rfl rfl (q8z _ _ _ _ _ _) ?_ ?_) <;> intro hq4)
   | ((with_reducible refine qez (by with_unfolding_all rfl) .gtr 3 _ _ _ rfl (.int .i64 (m : Int)) _ rfl rfl (qCz _ _ _ _ _ _) ?_ ?_) <;> intro hq5)
   | ((with_reducible refine qez (by with_unfolding_all rfl) .eql 3 _ _ _ rfl (.int .i64 kd) (.int .i64 2) rfl rfl (qsz _ _ _ _ _ _) ?_ ?_) <;> intro hq2)
   | ((with_reducible refine qez (by with_unfolding_all rfl) .eql 3 _ _ _ rfl (.int .i64 kd) (.int .i64 4) rfl rfl (qsz _ _ _ _ _ _) ?_ ?_) <;> intro hq6)
   | ((with_reducible refine qez (by with_unfolding_all rfl) .neq 3 _ _ _ rfl (.int .i64 kd) (.int .i64 2) rfl rfl (wjz _ _ _ _ _ _) ?_ ?_) <;> intro hq7)
   | ((with_reducible refine qez (by with_unfolding_all rfl) .leq 3 _ _ _ rfl _ _ rfl rfl (q9z _ _ _ _ _ _) ?_ ?_) <;> intro hq3))
  all_goals
   go_ret
   refine ⟨congrArg (fun z => Ending.returned (.bool z)) ?_, hk⟩
   clear hho hup hzw
   simp only [Hid] at *
   first
    | (refine Eq.symm ?_; simp only [Bool.and_eq_true, decide_eq_true_eq, decide_eq_false_iff_not, Bool.and_eq_false_iff]; omega)
    | (refine Eq.symm ?_; rw [Bool.eq_false_iff]; simp only [ne_eq, Bool.and_eq_true, Bool.or_eq_true, Bool.not_eq_true', decide_eq_true_eq, decide_eq_false_iff_not, Bool.and_eq_false_iff, Bool.or_eq_false_iff, reduceCtorEq, or_true, true_or, and_true, true_and, or_false, false_or, and_false, false_and, Bool.not_true, Bool.not_false]; omega)
 ·have hib : (i == ro) = false := by simpa using hi
  rw [if_neg hi]
  cases fx <;> cases ub
  all_goals
   go_enter func18, ntmps18
   go_wp2_with (first
    | (with_reducible refine qcz rfl 25 _ rfl G rfl ?_; intro B2 W2 hN2 hB2 hk)
    | (with_reducible refine qcz rfl 43 _ rfl C rfl ?_; intro B3 W3 hN3 hB3 hk3; replace hB2 := hB2.next hk3; replace hk := btz hk hk3)
    | (with_reducible refine qdz (by with_unfolding_all rfl) _ _ rfl B2 rfl G hB2 _ underlying25 (by kernel_rfl) hzw ?_)
    | (with_reducible refine qaz (by with_unfolding_all rfl) _ _ rfl B3 _ rfl _ _ hB3 _ c0 isAgg22 ?_)
    | (with_reducible refine qaz (by with_unfolding_all rfl) _ _ rfl B3 _ rfl _ _ hB3 _ c1 isAgg3 ?_)
    | (with_reducible refine qaz (by with_unfolding_all rfl) _ _ rfl B3 _ rfl _ _ hB3 _ c3 isAgg3 ?_)
    | (with_reducible refine qaz (by with_unfolding_all rfl) _ _ rfl B3 _ rfl _ _ hB3 _ c4 isAgg4 ?_)
    | (with_reducible refine qaz (by with_unfolding_all rfl) _ _ rfl B2 _ rfl _ _ hB2 _ g2 isAgg22 ?_)
    | (go_at_call 43; (with_reducible refine (hho _ hk).mono ?_); rintro e w1 ⟨v, rfl, hown, hb1⟩; replace hB2 := hB2.next hb1; replace hB3 := hB3.next hb1; replace hk := btz hk hb1; obtain ⟨al, cl, he, hct⟩ := kbz hown; rw [hm.out] at he; subst he; clear hct hown)
    | (go_at_call 44; (with_reducible refine (hup _ hk).mono ?_); rintro e w2 ⟨rfl, hb2⟩; replace hk := btz hk hb2)
    | ((with_reducible refine qez (by with_unfolding_all rfl) .eql 3 _ _ _ rfl (.int .i64 (m : Int)) _ rfl rfl (qsz _ _ _ _ _ _) ?_ ?_) <;> intro hq1)
    | ((with_reducible refine qez (by with_unfolding_all rfl) .lss 3 _ _ _ rfl (.int .i64 (m : Int)) _ rfl rfl (q8z _ _ _ _ _ _) ?_ ?_) <;> intro hq4)
    | ((with_reducible refine qez (by with_unfolding_all rfl) .gtr 3 _ _ _ rfl (.int .i64 (m : Int)) _ rfl rfl (qCz _ _ _ _ _ _) ?_ ?_) <;> intro hq5)
    | ((with_reducible refine qez (by with_unfolding_all rfl) .eql 3 _ _ _ rfl (.int .i64 kd) (.int .i64 2) rfl rfl (qsz _ _ _ _ _ _) ?_ ?_) <;> intro hq2)
    | ((with_reducible refine qez (by with_unfolding_all rfl) .eql 3 _ _ _ rfl (.int .i64 kd) (.int .i64 4) rfl rfl (qsz _ _ _ _ _ _) ?_ ?_) <;> intro hq6)
    | ((with_reducible refine qez (by with_unfolding_all rfl) .neq 3 _ _ _ rfl (.int .i64 kd) (.int .i64 2) rfl rfl (wjz _ _ _ _ _ _) ?_ ?_) <;> intro hq7)
    | ((with_reducible refine qez (by with_unfolding_all rfl) .leq 3 _ _ _ rfl _ _ rfl rfl (q9z _ _ _ _ _ _) ?_ ?_) <;> intro hq3))
   all_goals
    go_ret
    refine ⟨congrArg (fun z => Ending.returned (.bool z)) ?_, hk⟩
    clear hho hup hzw
    simp only [Hid] at *
    first
     | (refine Eq.symm ?_; simp only [Bool.and_eq_true, Bool.or_eq_true, Bool.not_eq_true', decide_eq_true_eq, decide_eq_false_iff_not, Bool.and_eq_false_iff, Bool.or_eq_false_iff, reduceCtorEq, or_true, and_true, true_and, or_false, and_false, false_and, Bool.not_true, Bool.not_false]; omega)
     | (refine Eq.symm ?_; rw [Bool.eq_false_iff]; simp only [ne_eq, Bool.and_eq_true, Bool.or_eq_true, Bool.not_eq_true', decide_eq_true_eq, decide_eq_false_iff_not, Bool.and_eq_false_iff, Bool.or_eq_false_iff, reduceCtorEq, true_and, or_false, false_and, Bool.not_true, Bool.not_false]; omega)
theorem vbz {x : Ob} (h : qKz x = true) : LbF x.label := by
 have hk := qzz.1 (qJz.1 (qnz.1 h).1).2.2.2.1
 exact ⟨wwz hk.2.1, by have := hk.1; omega⟩
theorem rfit_v0 {t ke ro : Int} (h : Obs w ao n cap X) : Calls prog 16 #[.agg #[.int .i64 t, .int .u64 ke, .int .u64 ro, .slice ao n cap]] w fun e w' => e = .returned (.bool (fitW ⟨t, ke, ro, X⟩)) ∧ Below w.heap.size w w' :=
 (rfit_w (t := t) (ke := ke) (ro := ro) h).on (fun w' hq hb => ⟨by rw [hq.out], hb⟩) (fun w' hq hb => ⟨by rw [Bool.eq_false_iff.2 hq.out], hb⟩)
theorem gkz {t ro : Int} (h : Obs w ao n cap X) (hsm : fitW ⟨t, key, ro, X⟩ = true → wez X) (hw : ∀ x ∈ X, WdO x) : Calls prog 5 #[.agg #[.int .i64 t, .int .u64 (key : Int), .int .u64 ro, .slice ao n cap]] w fun e w' => e = .returned (.bool (fitD t key ro X)) ∧ Below w.heap.size w w' := by
 have hmx : prog.follows .mixedOrders = true := by kernel_rfl
 have hn : Hid (X.length = n) := h.1
 have hnc := h.2.1
 have hcm := h.2.2.1.1
 have c2 : (#[.int .i64 t, .int .u64 (key : Int), .int .u64 ro, .slice ao n cap] : Array Value)[2]? = some (.int .u64 ro) := rfl
 have c3 : (#[.int .i64 t, .int .u64 (key : Int), .int .u64 ro, .slice ao n cap] : Array Value)[3]? = some (.slice ao n cap) := rfl
 have hzw : (prog.info? 25).map (·.size) = some (#[.int .i64 t, .int .u64 (key : Int), .int .u64 ro, .slice ao n cap] : Array Value).size := by kernel_rfl
 have hfd := fun {W : World} (hk : Below w.heap.size w W) => jtz (t := t) (ke := (key : Int)) (ro := ro) (i := ro) h hk
 have hft := fun (W : World) (hk : Below w.heap.size w W) => rfit_v0 (t := t) (ke := (key : Int)) (ro := ro) (qvz h hk)
 have hsp := fun (W : World) (hk : Below w.heap.size w W) => rspans_w (t := t) (key := key) (ro := ro) (qvz h hk) hw
 have hR : Hid (fitD t key ro X = ((fitW ⟨t, key, ro, X⟩ && (fnd X ro).isSome) && (((List.range n).all fun j => lnkB X (oat X j) && plaB X ro (oat X j)) && spaB key X))) := by show fitD t key ro X = _; unfold fitD; rw [hn.out]
 rw [hR.out]
 clear hR
 cases hf : fitW ⟨t, key, ro, X⟩
 rw [hf] at hft
 obtain ⟨G, hG⟩ : ∃ G : Array Value, G = #[.int .i64 t, .int .u64 (key : Int), .int .u64 ro, .slice ao n cap] := ⟨_, rfl⟩
 rw [← hG] at c2 c3 hzw hfd hft hsp
 rw [← hG]
 clear hG
 rw [Bool.false_and, Bool.false_and]
 generalize (fnd X ro).isSome = bf at hfd
 rotate_left
 replace hsm := hsm hf
 obtain ⟨hs, hso, hlen⟩ := yfz hf
 have hn16 : n ≤ 4096 := by rw [← hn.out]; omega
 have hq : ∀ x ∈ X, 0 ≤ x.quota ∧ x.quota ≤ 4096 := fun x hx => (vWz (hso x hx)).1
 have hlb : ∀ x ∈ X, LbF x.label := fun x hx => vbz (hso x hx)
 have hli := fun {W : World} {C : Array Value} {j : Nat} (hk : Below w.heap.size w W) (hj : j < n) (hC : ObD (LtN W) W C (oat X j)) => rlinks_w (t := t) (ke := (key : Int)) (ro := ro) (qvz h hk) hq hlb hC (hsm _ (qQz (by rw [hn.out]; exact hj))) (hlb _ (qQz (by rw [hn.out]; exact hj)))
 have hpl := fun {W : World} {C : Array Value} {j : Nat} (hk : Below w.heap.size w W) (hC : ObD (LtN W) W C (oat X j)) => gqz (t := t) (ke := (key : Int)) (ro := ro) (qvz h hk) hn16 hC
 obtain ⟨p, hp⟩ : ∃ p : Nat → Bool, Hid (p = fun j => lnkB X (oat X j) && plaB X ro (oat X j)) := ⟨_, rfl⟩
 rw [hf] at hft
 obtain ⟨G, hG⟩ : ∃ G : Array Value, G = #[.int .i64 t, .int .u64 (key : Int), .int .u64 ro, .slice ao n cap] := ⟨_, rfl⟩
 rw [← hG] at c2 c3 hzw hfd hft hsp hli hpl
 rw [← hG, ← hp.out]
 clear hG hf hs hso hlen hq hlb
 have hal0 : Hid (∀ (k : Nat), k ≤ n → (∀ j, j < k → p j = true) → k = n → (List.range n).all p = true) := by
  refine (?_ : ∀ (k : Nat), k ≤ n → (∀ j, j < k → p j = true) → k = n → (List.range n).all p = true)
  intro k _ hj e
  rw [List.all_eq_true]
  intro j q
  exact hj j (by rw [e]; exact List.mem_range.1 q)
 have hno0 : Hid (∀ (k : Nat), k < n → p k = false → (List.range n).all p = false) := by
  refine (?_ : ∀ (k : Nat), k < n → p k = false → (List.range n).all p = false)
  intro k q e
  rw [List.all_eq_false]
  exact ⟨k, List.mem_range.2 q, by rw [e]; decide⟩
 generalize (List.range n).all p = pa at hal0 hno0 ⊢
 generalize spaB key X = sp at hsp ⊢
 rw [Bool.true_and]
 cases hb : (fnd X ro).isSome
 rw [hb] at hfd
 rw [Bool.false_and]
 rotate_left
 rw [hb] at hfd
 rw [Bool.true_and]
 rotate_left
 all_goals go_enter func5, ntmps5
 all_goals go_wp2_with (first
  | go_skip
  | (with_reducible refine qcz rfl 25 _ rfl G rfl ?_; intro B W2 hN2 hB hk)
  | (with_reducible refine qdz (by kernel_rfl) 25 _ rfl B rfl G hB _ underlying25 (by kernel_rfl) hzw ?_)
  | (with_reducible refine qaz (by kernel_rfl) _ _ rfl B _ rfl _ _ hB _ c2 isAgg22 ?_)
  | (go_at_call 9; (with_reducible refine (hfd hk).mono ?_); rintro e w3 ⟨C3, rfl, o3, hb3⟩; replace hB := hB.next hb3; replace hk := btz hk hb3)
  | ((with_reducible refine qgz rfl _ rfl zC qwz ?_); intro R W4 hN4 hR4 hk4)
  | ((with_reducible refine qbz rfl _ _ _ rfl R rfl C3 rfl zC hR4 (qfz o3.size) (qrz.trans o3.size.symm) o3.one ?_); intro W5 hR5 o5; have k5 := o5.below w3.heap.size w3 (by have := hN4.out.1; omega) hk4; replace hB := hB.next k5; replace hk := btz hk k5)
  | (go_at_call 16; (with_reducible refine (hft _ hk).mono ?_); rintro e w6 ⟨rfl, hb6⟩; replace hB := hB.next hb6; replace hk := btz hk hb6))
 ·go_ret
  exact ⟨rfl, hk⟩
 ·go_ret
  exact ⟨rfl, hk⟩
 ·clear hN2 hN4 hR4 hk4 o5 k5 hR5
  go_loopw [5] (fun j wr => ∃ k : Nat, k ≤ n ∧ j = .int .i64 k ∧ Hid (∀ j, j < k → p j = true) ∧ Blk wr B G 25 ∧ Below w.heap.size w wr) (fun j _ => n - (intOf j).toNat)
  case atStart => exact ⟨0, Nat.zero_le _, rfl, fun i hi => absurd hi (by omega), hB, hk⟩
  case round =>
   clear hB hk
   obtain ⟨k, hkn1, rfl, hal, hB, hk⟩ := hrel
   by_cases hkn : k < n
   ·obtain ⟨b, off, C, rfl, hbb, hC, hr⟩ := wqz h hkn
    have hkn' : (k : Int) < n := by omega
    have hz := hC.size
    have hpk : Hid (p k = (lnkB X (oat X k) && plaB X ro (oat X k))) := by show p k = _; rw [hp.out]
    have hnx : Hid (p k = true → ∀ j, j < k + 1 → p j = true) := by
     refine (?_ : p k = true → ∀ j, j < k + 1 → p j = true)
     intro e j hj
     rcases Nat.lt_or_ge j k with q | q
     ·exact hal.out j q
     ·obtain rfl : j = k := by omega
      exact e
    replace hli := fun {W : World} {C : Array Value} (hk : Below w.heap.size w W) (hC : ObD (LtN W) W C (oat X k)) => hli hk hkn hC
    replace hpl := fun {W : World} {C : Array Value} (hk : Below w.heap.size w W) (hC : ObD (LtN W) W C (oat X k)) => hpl hk hC
    generalize lnkB X (oat X k) = bl at hli hpk
    generalize plaB X ro (oat X k) = bp at hpl hpk
    go_wp2_with (first
     | (with_reducible refine qaz (by kernel_rfl) _ _ rfl B _ rfl _ _ hB _ c3 isAgg23 ?_))
    refine PgM.region_out (S := fun W => Blk W B G 25 ∧ Below w.heap.size w W) hmx ⟨hB.next (brz _ _).drew, hk.trans ((brz _ _).drew.mono hk.size)⟩ (fun hS => ?_)
    generalize wr.drew = v6 at hS ⊢
    clear hB hk
    refine quz (by kernel_rfl) (fun _ _ _ _ _ h => h) hS [(0, some (.agg G)), (1, none), (2, some (.slice (some ⟨b, off, none⟩) n cap)), (3, none), (4, some (.pointer (some ⟨b, off + k * 51, none⟩))), (5, some (.agg C))] (obs := [.load 25 B 0 (.agg G), .load 23 B 3 (.slice (some ⟨b, off, none⟩) n cap), .ia 23 (.slice (some ⟨b, off, none⟩) n cap) (.int .i64 k) (.pointer (some ⟨b, off + k * 51, none⟩)), .load 43 b (off + k * 51) (.agg C)]) (n := 12) (by kernel_rfl) (by kernel_rfl) ⟨qHz (fun _ h => h.1) underlying25 (by kernel_rfl) hzw, qhz (fun _ h => h.1) c3 isAgg23, w1z hkn, wgz (fun _ h => qpz hr (h.2.block b hbb)) underlying43 (by kernel_rfl) (qfz hz), trivial⟩ ?_
    cases bl with
    | false =>
     refine qoz (i := 6) (fuel := 11) (f := 17) (vs := [.agg G, .agg C]) (d := some 33) (by kernel_rfl) (by kernel_rfl) (by kernel_rfl) call17 (hli hS.2 (hC.next hS.2)) ?_
     rintro e v7 ⟨rfl, hb7⟩
     have hS7 : Blk v7 B G 25 ∧ Below w.heap.size w v7 := ⟨hS.1.next hb7, hS.2.trans (hb7.mono hS.2.size)⟩
     refine ⟨_, rfl, hS7, ?_⟩
     refine qlz (by kernel_rfl) (fun _ _ _ _ _ h => h) hS7 [(7, none), (8, none), (9, none), (10, none), (11, none), (12, none), (13, none), (14, none), (15, none), (16, none), (17, none)] (l' := #[tt, tt, tt, tt, tt, tt, tt, tt, tt, tt, tt, tt, tt, tt, tt, tt, tt, tt]) (a' := { tmps := #[.agg G, .pointer (some ⟨B, 0, none⟩), u2, .pointer (some ⟨R, 0, none⟩), .bool true, .int .i64 k, .tuple #[.agg C3, .bool true], .agg G, .pointer (some ⟨B, 2, none⟩), .int .u64 ro, .tuple #[.agg C3, .bool true], .agg C3, .bool true, .agg G, .bool true, .bool false, .bool false, .bool true, .bool false, .bool false, .int .i64 k, .pointer (some ⟨B, 3, none⟩), .slice (some ⟨b, off, none⟩) n cap, .int .i64 n, .bool true, u25, u26, .agg G, .pointer (some ⟨B, 3, none⟩), .slice (some ⟨b, off, none⟩) n cap, .int .i64 k, .pointer (some ⟨b, off + k * 51, none⟩), .agg C, .bool false, .bool true, .bool true, undef, undef, undef, undef, undef, undef, undef, undef, .bool true, undef, undef], defers := [] }) (obs := []) (n := 0) (by kernel_rfl) (by kernel_rfl) trivial ?_
     refine wpAnyH_done (by kernel_rfl) ?_ _
     have hz0 := hno0.out k hkn (by rw [hpk.out]; rfl)
     go_wp2
     go_ret
     exact ⟨by rw [hz0]; rfl, hS7.2⟩
    | true =>
     refine qoz (i := 6) (fuel := 11) (f := 17) (vs := [.agg G, .agg C]) (d := some 33) (by kernel_rfl) (by kernel_rfl) (by kernel_rfl) call17 (hli hS.2 (hC.next hS.2)) ?_
     rintro e v7 ⟨rfl, hb7⟩
     have hS7 : Blk v7 B G 25 ∧ Below w.heap.size w v7 := ⟨hS.1.next hb7, hS.2.trans (hb7.mono hS.2.size)⟩
     refine ⟨_, rfl, hS7, ?_⟩
     refine quz (by kernel_rfl) (fun _ _ _ _ _ h => h) hS7 [(7, none), (8, none), (9, some (.agg G)), (10, none), (11, some (.slice (some ⟨b, off, none⟩) n cap)), (12, none), (13, some (.pointer (some ⟨b, off + k * 51, none⟩))), (14, some (.agg C))] (obs := [.load 25 B 0 (.agg G), .load 23 B 3 (.slice (some ⟨b, off, none⟩) n cap), .ia 23 (.slice (some ⟨b, off, none⟩) n cap) (.int .i64 k) (.pointer (some ⟨b, off + k * 51, none⟩)), .load 43 b (off + k * 51) (.agg C)]) (n := 3) (by kernel_rfl) (by kernel_rfl) ⟨qHz (fun _ h => h.1) underlying25 (by kernel_rfl) hzw, qhz (fun _ h => h.1) c3 isAgg23, w1z hkn, wgz (fun _ h => qpz hr (h.2.block b hbb)) underlying43 (by kernel_rfl) (qfz hz), trivial⟩ ?_
     cases bp with
     | false =>
      refine qoz (i := 15) (fuel := 2) (f := 18) (vs := [.agg G, .agg C]) (d := some 42) (by kernel_rfl) (by kernel_rfl) (by kernel_rfl) call18 (hpl hS7.2 (hC.next hS7.2)) ?_
      rintro e v8 ⟨rfl, hb8⟩
      have hS8 : Blk v8 B G 25 ∧ Below w.heap.size w v8 := ⟨hS7.1.next hb8, hS7.2.trans (hb8.mono hS7.2.size)⟩
      refine ⟨_, rfl, hS8, ?_⟩
      refine qlz (by kernel_rfl) (fun _ _ _ _ _ h => h) hS8 [(16, none), (17, none)] (l' := #[tt, tt, tt, tt, tt, tt, tt, tt, tt, tt, tt, tt, tt, tt, tt, tt, tt, tt]) (a' := { tmps := #[.agg G, .pointer (some ⟨B, 0, none⟩), u2, .pointer (some ⟨R, 0, none⟩), .bool true, .int .i64 k, .tuple #[.agg C3, .bool true], .agg G, .pointer (some ⟨B, 2, none⟩), .int .u64 ro, .tuple #[.agg C3, .bool true], .agg C3, .bool true, .agg G, .bool true, .bool false, .bool false, .bool true, .bool false, .bool false, .int .i64 k, .pointer (some ⟨B, 3, none⟩), .slice (some ⟨b, off, none⟩) n cap, .int .i64 n, .bool true, u25, u26, .agg G, .pointer (some ⟨B, 3, none⟩), .slice (some ⟨b, off, none⟩) n cap, .int .i64 k, .pointer (some ⟨b, off + k * 51, none⟩), .agg C, .bool true, .bool false, .bool false, .agg G, .pointer (some ⟨B, 3, none⟩), .slice (some ⟨b, off, none⟩) n cap, .int .i64 k, .pointer (some ⟨b, off + k * 51, none⟩), .agg C, .bool false, .bool true, .bool true, undef, undef], defers := [] }) (obs := []) (n := 0) (by kernel_rfl) (by kernel_rfl) trivial ?_
      refine wpAnyH_done (by kernel_rfl) ?_ _
      have hz0 := hno0.out k hkn (by rw [hpk.out]; rfl)
      go_wp2
      go_ret
      exact ⟨by rw [hz0]; rfl, hS8.2⟩
     | true =>
      refine qoz (i := 15) (fuel := 2) (f := 18) (vs := [.agg G, .agg C]) (d := some 42) (by kernel_rfl) (by kernel_rfl) (by kernel_rfl) call18 (hpl hS7.2 (hC.next hS7.2)) ?_
      rintro e v8 ⟨rfl, hb8⟩
      have hS8 : Blk v8 B G 25 ∧ Below w.heap.size w v8 := ⟨hS7.1.next hb8, hS7.2.trans (hb8.mono hS7.2.size)⟩
      refine ⟨_, rfl, hS8, ?_⟩
      refine qlz (by kernel_rfl) (fun _ _ _ _ _ h => h) hS8 [(16, none), (17, none)] (l' := #[tt, tt, tt, tt, tt, tt, tt, tt, tt, tt, tt, tt, tt, tt, tt, tt, tt, tt]) (a' := { tmps := #[.agg G, .pointer (some ⟨B, 0, none⟩), u2, .pointer (some ⟨R, 0, none⟩), .bool true, .int .i64 k, .tuple #[.agg C3, .bool true], .agg G, .pointer (some ⟨B, 2, none⟩), .int .u64 ro, .tuple #[.agg C3, .bool true], .agg C3, .bool true, .agg G, .bool true, .bool false, .bool false, .bool true, .bool false, .bool false, .int .i64 k, .pointer (some ⟨B, 3, none⟩), .slice (some ⟨b, off, none⟩) n cap, .int .i64 n, .bool true, u25, u26, .agg G, .pointer (some ⟨B, 3, none⟩), .slice (some ⟨b, off, none⟩) n cap, .int .i64 k, .pointer (some ⟨b, off + k * 51, none⟩), .agg C, .bool true, .bool false, .bool false, .agg G, .pointer (some ⟨B, 3, none⟩), .slice (some ⟨b, off, none⟩) n cap, .int .i64 k, .pointer (some ⟨b, off + k * 51, none⟩), .agg C, .bool true, .bool false, .bool false, undef, undef], defers := [] }) (obs := []) (n := 0) (by kernel_rfl) (by kernel_rfl) trivial ?_
      refine wpAnyH_done (by kernel_rfl) ?_ _
      have hy := hnx.out (by rw [hpk.out]; rfl)
      go_wp2
      go_roundw
      case rel => exact ⟨k + 1, by omega, by go_num, hy, hS8.1, hS8.2⟩
      case measure => simp [intOf]; omega
   ·obtain rfl : k = n := by omega
    have hpa := hal0.out k (lrz _) hal.out rfl
    go_wp2_with (first
     | (with_reducible refine qaz (by kernel_rfl) _ _ rfl B _ rfl _ _ hB _ c3 isAgg23 ?_)
     | (with_reducible refine qdz (by kernel_rfl) 25 _ rfl B rfl G hB _ underlying25 (by kernel_rfl) hzw ?_)
     | (go_at_call 19; (with_reducible refine (hsp _ hk).mono ?_); rintro e w8 ⟨rfl, hb8⟩; replace hk := btz hk hb8))
    go_ret
    exact ⟨by rw [hpa]; rfl, hk⟩
end
section
open Go.RowKit Go.Shelf
theorem alo_maps {x : Ob} (h : aloO x = x) (hk : ¬ x.kind = 3) : x.maps = [] := by
 have e : (aloO x).maps = [] := by
  unfold aloO
  by_cases h1 : x.kind = 1
  ·rw [if_pos h1]
  rw [if_neg h1]
  by_cases h2 : x.kind = 2
  ·rw [if_pos h2]
  rw [if_neg h2, if_neg hk]
  by_cases h4 : x.kind = 4
  ·rw [if_pos h4]
  rw [if_neg h4]
  by_cases h5 : x.kind = 5
  ·rw [if_pos h5]
  rw [if_neg h5]
  by_cases h6 : x.kind = 6
  ·rw [if_pos h6]
  rw [if_neg h6]; rfl
 rw [h] at e; exact e
theorem wJz {x : Ob} (hs : qKz x = true) : Small x := by
 obtain ⟨hc, ho, hw⟩ := qnz.1 hs
 have ha := (qUz x).1 hw
 have hq := (qJz.1 hc).2.2.1
 refine kuz hs ⟨?_, ?_, ?_⟩
 ·by_cases k2 : x.kind = 2
  ·unfold ownB at ho
   rw [if_neg (by rw [k2]; decide), if_pos k2] at ho
   simp only [Bool.and_eq_true, decide_eq_true_eq] at ho
   omega
  ·rw [wRz hs k2]; decide
 ·by_cases k1 : x.kind = 1
  ·unfold ownB at ho
   rw [if_pos k1] at ho
   simp only [decide_eq_true_eq] at ho
   omega
  ·rw [ubz ha k1]; decide
 ·by_cases k3 : x.kind = 3
  ·unfold ownB at ho
   rw [if_neg (by rw [k3]; decide), if_neg (by rw [k3]; decide), if_pos k3] at ho
   unfold PgM.Pg.fitB at ho
   simp only [Bool.and_eq_true, decide_eq_true_eq] at ho
   omega
  ·rw [alo_maps ha k3]; decide
end
section
open Go.RowKit Go.Shelf
attribute [local go_sem] Oper.semAt_some
variable {w : World} {x : Ob}
theorem ob_set4 {D : Nat → Prop} {C : Array Value} (h : ObD D w C x) (v : Bool) : ObD D w (C.setIfInBounds 4 (.bool v)) { x with fixed := v } := by
 have e : ∀ i, (C.setIfInBounds 4 (.bool v))[i]? = if 4 = i then some (.bool v) else C[i]? := fun i => qDz (by rw [h.size]; omega)
 exact ⟨by simp [h.size], wiz h.one rfl, by rw [e, if_neg (by omega)]; exact h.id, by rw [e, if_neg (by omega)]; exact h.kind, by rw [e, if_neg (by omega)]; exact h.label, by rw [e, if_neg (by omega)]; exact h.quota, by rw [e, if_pos rfl], by rw [e, if_neg (by omega)]; exact h.links, by rw [e, if_neg (by omega)]; exact h.data, by rw [e, if_neg (by omega)]; exact h.maps, h.th.congr fun i hi => by rw [e, if_neg (by omega)], h.gt.congr fun i hi => by rw [e, if_neg (by omega)], by rw [e, if_neg (by omega)]; exact h.inn, by rw [e, if_neg (by omega)]; exact h.out⟩
theorem ob_set3 {D : Nat → Prop} {C : Array Value} (h : ObD D w C x) (v : Int) : ObD D w (C.setIfInBounds 3 (.int .i64 v)) { x with quota := v } := by
 have e : ∀ i, (C.setIfInBounds 3 (.int .i64 v))[i]? = if 3 = i then some (.int .i64 v) else C[i]? := fun i => qDz (by rw [h.size]; omega)
 exact ⟨by simp [h.size], wiz h.one rfl, by rw [e, if_neg (by omega)]; exact h.id, by rw [e, if_neg (by omega)]; exact h.kind, by rw [e, if_neg (by omega)]; exact h.label, by rw [e, if_pos rfl], by rw [e, if_neg (by omega)]; exact h.fixed, by rw [e, if_neg (by omega)]; exact h.links, by rw [e, if_neg (by omega)]; exact h.data, by rw [e, if_neg (by omega)]; exact h.maps, h.th.congr fun i hi => by rw [e, if_neg (by omega)], h.gt.congr fun i hi => by rw [e, if_neg (by omega)], by rw [e, if_neg (by omega)]; exact h.inn, by rw [e, if_neg (by omega)]; exact h.out⟩
theorem gdz (h : Small x) (b : Bool) : Small { x with fixed := b } := ⟨h.c2, h.c5, h.c6, h.c7, h.c25, h.c36, h.c39, h.c40, h.c41, h.c42, h.c43, h.c44, h.c49, h.c50⟩
theorem gcz (h : Small x) (q : Int) : Small { x with quota := q } := ⟨h.c2, h.c5, h.c6, h.c7, h.c25, h.c36, h.c39, h.c40, h.c41, h.c42, h.c43, h.c44, h.c49, h.c50⟩
theorem sizeB : (prog.info? 4).map (·.size) = some 1 := by kernel_rfl
def fixE (X : List Ob) (i : Int) : Int := if (fnd X i).isSome = false then 1 else if sngO (fO X i) = true then 3 else 0
def fixX (X : List Ob) (i : Int) : List Ob := if (fnd X i).isSome = false then X else if sngO (fO X i) = true then X else puR X { fO X i with fixed := true }
variable {Cf : Nat → Array Value} {D0 : Nat → Prop} {ao : Option Addr} {n cap : Nat} {X : List Ob}
theorem fix_v {t ke ro i : Int} (hD : ∀ b, D0 b → b < w.heap.size) (h : ObsF (LtN w) D0 w ao n cap X Cf) (hL : Lays X) (hn16 : n < 1022) :
  Calls prog 13 #[.agg #[.int .i64 t, .int .u64 ke, .int .u64 ro, .slice ao n cap], .int .u64 i] w fun e w' => ∃ ao2 n2 cap2, e = .returned (.tuple #[.agg #[.int .i64 t, .int .u64 ke, .int .u64 ro, .slice ao2 n2 cap2], .int .i64 (fixE X i)]) ∧ ObsN w D0 w' ao2 n2 cap2 (fixX X i) ∧ Below w.heap.size w w' := by
 have hO : ObsD (LtN w) D0 w ao n cap X := h.obs
 have hF : ObsF (LtN w) (LtN w) w ao n cap X Cf := h.wide hD (fun _ hb => hb)
 have hzw : (prog.info? 25).map (·.size) = some (#[.int .i64 t, .int .u64 ke, .int .u64 ro, .slice ao n cap] : Array Value).size := by kernel_rfl
 have hzv : (prog.info? 68).map (·.size) = some (#[.int .i64 t, .int .u64 ke, .int .u64 ro, .slice ao n cap] : Array Value).size := by kernel_rfl
 have hbt : prog.built 68 [(0, .agg #[.int .i64 t, .int .u64 ke, .int .u64 ro, .slice ao n cap])] = some #[.int .i64 t, .int .u64 ke, .int .u64 ro, .slice ao n cap] := by kernel_rfl
 have hz4 : (#[.int .i64 0, .int .u64 0, .int .u64 0, .slice none 0 0] : Array Value).size = (#[.int .i64 t, .int .u64 ke, .int .u64 ro, .slice ao n cap] : Array Value).size := rfl
 have h14 : (#[.int .i64 t, .int .u64 ke, .int .u64 ro, .slice ao n cap] : Array Value).all (·.oneCell') = true := by simp [Value.oneCell']
 have hz2 : ∀ v, (prog.info? 25).map (·.size) = some (#[.int .i64 t, .int .u64 ke, .int .u64 ro, v] : Array Value).size := fun _ => wnz
 have hs2 : ∀ v, zW.size = (#[.int .i64 t, .int .u64 ke, .int .u64 ro, v] : Array Value).size := fun _ => rfl
 have h12 : ∀ ao n cap, (#[.int .i64 t, .int .u64 ke, .int .u64 ro, .slice ao n cap] : Array Value).all (·.oneCell') = true := fun _ _ _ => by kernel_rfl
 have hrf := fun {er : Int} (W : World) (hk : Below w.heap.size w W) => w7z (t := t) (ke := ke) (ro := ro) (er := er) (D0 := D0) (fun b hb => ltz (hD b hb) hk.size) (qZz hO hD hk) hL.srt (by omega) hL.sms hL.nul
 have hf1 := fun (W : World) (hk : Below w.heap.size w W) => xLz (t := t) (ke := ke) (ro := ro) (i := i) (hF.next hk) hL.srt (by omega)
 have hdo := vHz h hL.srt i
 have hz1 := hdo.size
 have h1c := hdo.one
 have hsn := fun (W : World) (hk : Below w.heap.size w W) => xQz (hdo.laterK fun b hb => hk.block b (hD b hb))
 have hpu := fun (W : World) (hk : Below w.heap.size w W) => put_w (t := t) (ke := ke) (ro := ro) (D0 := D0) (fun b hb => ltz (hD b hb) hk.size) (qZz hO hD hk) hL.srt (by omega) hL.sms (ob_set4 (hdo.laterK fun b hb => hk.block b (hD b hb)) true) (gdz (hL.at i).1 true)
 obtain ⟨ER, hER⟩ : ∃ ER, Hid (fixE X i = ER) := ⟨_, rfl⟩
 obtain ⟨YR, hYR⟩ : ∃ YR, Hid (fixX X i = YR) := ⟨_, rfl⟩
 rw [hER.out, hYR.out]
 have hzn : ((fC X Cf i).setIfInBounds 4 (.bool true)).size = 51 := by rw [Array.size_setIfInBounds]; exact hz1
 generalize fC X Cf i = C1 at hf1 hz1 h1c hsn hpu hzn
 clear hdo
 obtain ⟨Cn, hCn⟩ : ∃ Cn, Hid (C1.setIfInBounds 4 (.bool true) = Cn) := ⟨_, rfl⟩
 rw [hCn.out] at hzn
 simp only [hCn.out] at hpu
 obtain ⟨G, hG⟩ : ∃ G : Array Value, G = #[.int .i64 t, .int .u64 ke, .int .u64 ro, .slice ao n cap] := ⟨_, rfl⟩
 simp only [← hG] at hrf hf1 hpu
 rw [← hG] at hzw hzv hbt hz4 h14
 rw [← hG]
 clear hG
 cases hb1 : (fnd X i).isSome
 rw [hb1] at hf1
 rotate_left
 rw [hb1] at hf1
 cases hb2 : sngO (fO X i)
 rw [hb2] at hsn
 rotate_left
 rw [hb2] at hsn
 rotate_left
 all_goals go_enter func13, ntmps13
 all_goals go_wp2_with (first
  | go_skip
  | (with_reducible refine qcz rfl 25 _ rfl G rfl ?_; intro B3 W3 hN3 hB3 hk)
  | ((with_reducible refine qgz rfl 25 rfl zW wlz ?_); intro R W6 hN6 hR hk6; have hRw : Hid (w.heap.size ≤ R) := (by have := hN6.out; have := hk.size; refine (?_ : w.heap.size ≤ R); omega); replace hB3 := hB3.next hk6; replace hk := btz hk hk6; clear hN3 hN6)
  | (with_reducible refine qdz (by kernel_rfl) 25 _ rfl B3 rfl G hB3 _ underlying25 (by kernel_rfl) hzw ?_)
  | ((with_reducible refine qRz (by kernel_rfl) _ [(0, .tmp 9)] rfl G ?hf ?_); (case hf => exact hbt))
  | ((with_reducible refine qgz rfl 68 rfl #[.int .i64 0, .int .u64 0, .int .u64 0, .slice none 0 0] Tryz.zeroValue68 ?_); intro B8 W8 hN8 hR8 hk8)
  | ((with_reducible refine qbz rfl _ _ _ rfl B8 rfl G rfl _ hR8 hzv hz4 h14 ?_); intro V8 hB8 o8; have hb8 : Below W6.heap.size W6 V8 := o8.below W6.heap.size W6 (by have := hN8.out; omega) hk8; replace hB3 := hB3.next hb8; replace hR := hR.next hb8; replace hk := btz hk hb8; clear hN8 hR8 hk8 o8 hb8)
  | (with_reducible refine qdz (by kernel_rfl) 68 _ rfl B8 rfl G hB8 _ underlying68 (by kernel_rfl) hzv ?_)
  | (go_at_call 30; (with_reducible refine (hf1 _ hk).mono ?_); rintro e w9 ⟨rfl, hb8⟩; replace hB3 := hB3.next hb8; replace hR := hR.next hb8; replace hB8 := hB8.next hb8; replace hk := btz hk hb8; clear hb8)
  | ((with_reducible refine qgz rfl 43 rfl zC qwz ?_); intro P9 W9 hN9 hP9a hk9; have hPw : Hid (w.heap.size ≤ P9 ∧ B3 ≠ P9 ∧ R ≠ P9) := (by have := hN9.out; have := hk.size; have := hB3.lt; have := hR.lt; refine (⟨?_, ?_, ?_⟩ : _ ∧ _ ∧ _) <;> omega))
  | ((with_reducible refine qbz rfl _ _ _ rfl P9 rfl C1 rfl zC hP9a (qfz hz1) (qrz.trans hz1.symm) h1c ?_); intro V9 hP9 q9; have hb8 : Below w9.heap.size w9 V9 := q9.below w9.heap.size w9 (by have := hN9.out; omega) hk9; replace hB3 := hB3.next hb8; replace hR := hR.next hb8; replace hB8 := hB8.next hb8; replace hk := btz hk hb8; clear hN9 hP9a hk9 q9 hb8)
  | (go_at_call 31; (with_reducible refine (hrf _ hk).mono ?_); rintro e w12 ⟨aX, nX, cX, rfl, oX, hb9⟩; have hR9 := hR.next hb9)
  | (with_reducible refine qdz (by kernel_rfl) 43 _ rfl P9 rfl C1 hP9 _ underlying43 (by kernel_rfl) (qfz hz1) ?_)
  | (go_at_call 36; (with_reducible refine (hsn _ hk).mono ?_); rintro e w10 ⟨rfl, hb8⟩; replace hB3 := hB3.next hb8; replace hR := hR.next hb8; replace hB8 := hB8.next hb8; replace hP9 := hP9.next hb8; replace hk := btz hk hb8; clear hb8)
  | ((with_reducible refine qjz rfl _ _ _ rfl P9 4 rfl (.bool true) rfl rfl C1 _ hP9 sizeB (by rw [hz1]; omega) rfl ?_); intro V10 hP9n q10; rw [hCn.out] at hP9n; replace hB3 := hB3.other q10 hPw.out.2.1; replace hR := hR.other q10 hPw.out.2.2; replace hk := q10.below _ _ hPw.out.1 hk; clear hP9; have hQ9 := hP9n)
  | (with_reducible refine qdz (by kernel_rfl) 43 _ rfl P9 rfl Cn hQ9 _ underlying43 (by kernel_rfl) (qfz hzn) ?_)
  | (go_at_call 38; (with_reducible refine (hpu _ hk).mono ?_); rintro e w12 ⟨aX, nX, cX, rfl, oX, hb9⟩; have hR9 := hR.next hb9)
  | ((with_reducible refine qbz rfl _ _ _ rfl R rfl _ rfl zW hR9 (hz2 _) (hs2 _) (h12 aX nX cX) ?_); intro W13 hR13 q13))
 ·refine bodyPost_ret (qTz results13 rfl rfl hR13 rfl) rfl ?_
  have hE : ER = 1 := by rw [← hER.out]; unfold fixE; rw [if_pos hb1]
  have hY : YR = X := by rw [← hYR.out]; unfold fixX; rw [if_pos hb1]
  rw [hE, hY]
  exact ⟨aX, nX, cX, rfl, (ObsN.store oX q13 hR.lt (fun b hb => by have := hD b hb; have := hRw.out; omega)).low hk.size, q13.below _ _ hRw.out (btz hk hb9)⟩
 ·refine bodyPost_ret (qTz results13 rfl rfl hR13 rfl) rfl ?_
  have hE : ER = 0 := by rw [← hER.out]; unfold fixE; rw [if_neg (by rw [hb1]; decide), if_neg (by rw [hb2]; decide)]
  have hY : YR = puR X { fO X i with fixed := true } := by rw [← hYR.out]; unfold fixX; rw [if_neg (by rw [hb1]; decide), if_neg (by rw [hb2]; decide)]
  rw [hE, hY]
  exact ⟨aX, nX, cX, rfl, (ObsN.store oX q13 hR.lt (fun b hb => by have := hD b hb; have := hRw.out; omega)).low hk.size, q13.below _ _ hRw.out (btz hk hb9)⟩
 ·refine bodyPost_ret (qTz results13 rfl rfl hR13 rfl) rfl ?_
  have hE : ER = 3 := by rw [← hER.out]; unfold fixE; rw [if_neg (by rw [hb1]; decide), if_pos hb2]
  have hY : YR = X := by rw [← hYR.out]; unfold fixX; rw [if_neg (by rw [hb1]; decide), if_pos hb2]
  rw [hE, hY]
  exact ⟨aX, nX, cX, rfl, (ObsN.store oX q13 hR.lt (fun b hb => by have := hD b hb; have := hRw.out; omega)).low hk.size, q13.below _ _ hRw.out (btz hk hb9)⟩
def linE (X : List Ob) (i j : Int) : Int := if ((fnd X i).isSome && (fnd X j).isSome) = false then 1 else if (decide ((fO X i).kind = 2) && !sngO (fO X j)) = false then 3 else if (fO X j).fixed = false then 8 else if j ∈ (fO X i).links then 12 else layE X (fO X i) (fO X j)
def linX (X : List Ob) (i j : Int) : List Ob := if ((fnd X i).isSome && (fnd X j).isSome) = false then X else if (decide ((fO X i).kind = 2) && !sngO (fO X j)) = false then X else if (fO X j).fixed = false then X else if j ∈ (fO X i).links then X else layX X (fO X i) (fO X j)
theorem link_v {t ke ro i j : Int} (hD : ∀ b, D0 b → b < w.heap.size) (h : ObsF (LtN w) D0 w ao n cap X Cf) (hL : Lays X) (hn16 : n < 1022) :
  Calls prog 12 #[.agg #[.int .i64 t, .int .u64 ke, .int .u64 ro, .slice ao n cap], .int .u64 i, .int .u64 j] w fun e w' => ∃ ao2 n2 cap2, e = .returned (.tuple #[.agg #[.int .i64 t, .int .u64 ke, .int .u64 ro, .slice ao2 n2 cap2], .int .i64 (linE X i j)]) ∧ ObsN w D0 w' ao2 n2 cap2 (linX X i j) ∧ Below w.heap.size w w' := by
 have hO : ObsD (LtN w) D0 w ao n cap X := h.obs
 have hF : ObsF (LtN w) (LtN w) w ao n cap X Cf := h.wide hD (fun _ hb => hb)
 have hzw : (prog.info? 25).map (·.size) = some (#[.int .i64 t, .int .u64 ke, .int .u64 ro, .slice ao n cap] : Array Value).size := by kernel_rfl
 have hzv : (prog.info? 68).map (·.size) = some (#[.int .i64 t, .int .u64 ke, .int .u64 ro, .slice ao n cap] : Array Value).size := by kernel_rfl
 have hbt : prog.built 68 [(0, .agg #[.int .i64 t, .int .u64 ke, .int .u64 ro, .slice ao n cap])] = some #[.int .i64 t, .int .u64 ke, .int .u64 ro, .slice ao n cap] := by kernel_rfl
 have hz4 : (#[.int .i64 0, .int .u64 0, .int .u64 0, .slice none 0 0] : Array Value).size = (#[.int .i64 t, .int .u64 ke, .int .u64 ro, .slice ao n cap] : Array Value).size := rfl
 have h14 : (#[.int .i64 t, .int .u64 ke, .int .u64 ro, .slice ao n cap] : Array Value).all (·.oneCell') = true := by simp [Value.oneCell']
 have hz2 : ∀ v, (prog.info? 25).map (·.size) = some (#[.int .i64 t, .int .u64 ke, .int .u64 ro, v] : Array Value).size := fun _ => wnz
 have hs2 : ∀ v, zW.size = (#[.int .i64 t, .int .u64 ke, .int .u64 ro, v] : Array Value).size := fun _ => rfl
 have h12 : ∀ ao n cap, (#[.int .i64 t, .int .u64 ke, .int .u64 ro, .slice ao n cap] : Array Value).all (·.oneCell') = true := fun _ _ _ => by kernel_rfl
 have hrf := fun {er : Int} (W : World) (hk : Below w.heap.size w W) => w7z (t := t) (ke := ke) (ro := ro) (er := er) (D0 := D0) (fun b hb => ltz (hD b hb) hk.size) (qZz hO hD hk) hL.srt (by omega) hL.sms hL.nul
 have hf1 := fun (W : World) (hk : Below w.heap.size w W) => xLz (t := t) (ke := ke) (ro := ro) (i := i) (hF.next hk) hL.srt (by omega)
 have hdo := vHz h hL.srt i
 have hz1 := hdo.size
 have h1c := hdo.one
 have hf2 := fun (W : World) (hk : Below w.heap.size w W) => xLz (t := t) (ke := ke) (ro := ro) (i := j) (hF.next hk) hL.srt (by omega)
 have hdo2 := vHz h hL.srt j
 have hsn := fun (W : World) (hk : Below w.heap.size w W) => xQz (hdo2.laterK fun b hb => hk.block b (hD b hb))
 have hla := fun (W : World) (hk : Below w.heap.size w W) => u1z (t := t) (ke := ke) (ro := ro) (D0 := D0) (fun b hb => ltz (hD b hb) hk.size) (vtz h hD hk) hL.srt hn16 hL.sms hL.nul hL.quo (hdo.laterK fun b hb => hk.block b (hD b hb)) (hL.at i).1 (hL.at i).2.1 (hL.at i).2.2.1 (hL.at i).2.2.2.1 (hL.at i).2.2.2.2 (hdo2.laterK fun b hb => hk.block b (hD b hb)) (hL.at j).1 (hL.at j).2.2.1
 obtain ⟨al, nl, cl, d5, hLk⟩ := hdo.links
 have hct := fun (W : World) (hk : Below w.heap.size w W) => kPz (i := j) ((hLk.laterK fun b hb => hk.block b (hD b hb)).wide fun b hb => ltz (hD b hb) hk.size)
 have d1 := hdo.kind
 have z4 := hdo2.fixed
 have hz3 := hdo2.size
 have h3c := hdo2.one
 obtain ⟨ER, hER⟩ : ∃ ER, Hid (linE X i j = ER) := ⟨_, rfl⟩
 obtain ⟨YR, hYR⟩ : ∃ YR, Hid (linX X i j = YR) := ⟨_, rfl⟩
 rw [hER.out, hYR.out]
 generalize fC X Cf i = C1 at hf1 hz1 h1c d1 hla d5
 generalize fC X Cf j = C2 at hf2 hz3 h3c hla hsn z4
 clear hdo hdo2 hLk
 obtain ⟨LE, hLE⟩ : ∃ LE, Hid (layE X (fO X i) (fO X j) = LE) := ⟨_, rfl⟩
 obtain ⟨LX, hLX⟩ : ∃ LX, Hid (layX X (fO X i) (fO X j) = LX) := ⟨_, rfl⟩
 simp only [hLE.out, hLX.out] at hla
 obtain ⟨kd, hkd⟩ : ∃ kd, Hid ((fO X i).kind = kd) := ⟨_, rfl⟩
 rw [hkd.out] at d1
 obtain ⟨G, hG⟩ : ∃ G : Array Value, G = #[.int .i64 t, .int .u64 ke, .int .u64 ro, .slice ao n cap] := ⟨_, rfl⟩
 simp only [← hG] at hrf hf1 hf2 hla
 rw [← hG] at hzw hzv hbt hz4 h14
 rw [← hG]
 clear hG
 cases hb1 : (fnd X i).isSome
 rw [hb1] at hf1
 generalize (fnd X j).isSome = b2 at hf2
 rotate_left
 rw [hb1] at hf1
 cases hb2 : (fnd X j).isSome
 rw [hb2] at hf2
 rotate_left
 rw [hb2] at hf2
 by_cases k2 : kd = 2
 subst k2
 cases hb3 : sngO (fO X j)
 rw [hb3] at hsn
 cases hb4 : (fO X j).fixed
 rw [hb4] at z4
 rotate_left
 rw [hb4] at z4
 by_cases hj : j ∈ (fO X i).links
 replace hct := fun W hk => (hct W hk).yes hj
 rotate_left
 replace hct := fun W hk => (hct W hk).no hj
 rotate_left
 rw [hb3] at hsn
 rotate_left
 have k2b : (kd == 2) = false := by simpa using k2
 have kf : decide ((fO X i).kind = 2) = false := decide_eq_false (by rw [hkd.out]; exact k2)
 rotate_left
 all_goals go_enter func12, ntmps12
 all_goals go_wp2_with (first
  | go_skip
  | go_skip
  | (with_reducible refine qcz rfl 25 _ rfl G rfl ?_; intro B3 W3 hN3 hB3 hk)
  | ((with_reducible refine qgz rfl 25 rfl zW wlz ?_); intro R W6 hN6 hR hk6; have hRw : Hid (w.heap.size ≤ R) := (by have := hN6.out; have := hk.size; refine (?_ : w.heap.size ≤ R); omega); replace hB3 := hB3.next hk6; replace hk := btz hk hk6; clear hN3 hN6)
  | (with_reducible refine qdz (by kernel_rfl) 25 _ rfl B3 rfl G hB3 _ underlying25 (by kernel_rfl) hzw ?_)
  | ((with_reducible refine qRz (by kernel_rfl) _ [(0, .tmp 13)] rfl G ?hf ?_); (case hf => exact hbt))
  | ((with_reducible refine qgz rfl 68 rfl #[.int .i64 0, .int .u64 0, .int .u64 0, .slice none 0 0] Tryz.zeroValue68 ?_); intro B8 W8 hN8 hR8 hk8)
  | ((with_reducible refine qbz rfl _ _ _ rfl B8 rfl G rfl _ hR8 hzv hz4 h14 ?_); intro V8 hB8 o8; have hb8 : Below W6.heap.size W6 V8 := o8.below W6.heap.size W6 (by have := hN8.out; omega) hk8; replace hB3 := hB3.next hb8; replace hR := hR.next hb8; replace hk := btz hk hb8; clear hN8 hR8 hk8 o8 hb8)
  | (with_reducible refine qdz (by kernel_rfl) 68 _ rfl B8 rfl G hB8 _ underlying68 (by kernel_rfl) hzv ?_)
  | (go_at_call 30; have hx := hP9; (with_reducible refine (hf2 _ hk).mono ?_); rintro e w11 ⟨rfl, hb8⟩; replace hB3 := hB3.next hb8; replace hR := hR.next hb8; replace hB8 := hB8.next hb8; replace hP9 := hP9.next hb8; replace hk := btz hk hb8; clear hb8 hx)
  | (go_at_call 30; (with_reducible refine (hf1 _ hk).mono ?_); rintro e w9 ⟨rfl, hb8⟩; replace hB3 := hB3.next hb8; replace hR := hR.next hb8; replace hB8 := hB8.next hb8; replace hk := btz hk hb8; clear hb8)
  | ((with_reducible refine qgz rfl 43 rfl zC qwz ?_); have hx := hP9; intro P11 W11 hN11 hP11a hk11; clear hx)
  | ((with_reducible refine qgz rfl 43 rfl zC qwz ?_); intro P9 W9 hN9 hP9a hk9; have hPw : Hid (w.heap.size ≤ P9 ∧ B3 ≠ P9 ∧ R ≠ P9) := (by have := hN9.out; have := hk.size; have := hB3.lt; have := hR.lt; refine (⟨?_, ?_, ?_⟩ : _ ∧ _ ∧ _) <;> omega))
  | ((with_reducible refine qbz rfl _ _ _ rfl P9 rfl C1 rfl zC hP9a (qfz hz1) (qrz.trans hz1.symm) h1c ?_); intro V9 hP9 q9; have hb8 : Below w9.heap.size w9 V9 := q9.below w9.heap.size w9 (by have := hN9.out; omega) hk9; replace hB3 := hB3.next hb8; replace hR := hR.next hb8; replace hB8 := hB8.next hb8; replace hk := btz hk hb8; clear hN9 hP9a hk9 q9 hb8)
  | ((with_reducible refine qbz rfl _ _ _ rfl P11 rfl C2 rfl zC hP11a (qfz hz3) (qrz.trans hz3.symm) h3c ?_); intro V11 hP11 q11; have hb8 : Below w11.heap.size w11 V11 := q11.below w11.heap.size w11 (by have := hN11.out; omega) hk11; replace hB3 := hB3.next hb8; replace hR := hR.next hb8; replace hB8 := hB8.next hb8; replace hP9 := hP9.next hb8; replace hk := btz hk hb8; clear hN11 hP11a hk11 q11 hb8)
  | (go_at_call 31; (with_reducible refine (hrf _ hk).mono ?_); rintro e w12 ⟨aX, nX, cX, rfl, oX, hb9⟩; have hR9 := hR.next hb9)
  | (with_reducible refine qaz (by kernel_rfl) _ _ rfl P9 _ rfl _ _ hP9 _ d1 isAgg3 ?_)
  | (go_at_call 36; (with_reducible refine (hsn _ hk).mono ?_); rintro e w10 ⟨rfl, hb8⟩; replace hB3 := hB3.next hb8; replace hR := hR.next hb8; replace hB8 := hB8.next hb8; replace hP9 := hP9.next hb8; replace hP11 := hP11.next hb8; replace hk := btz hk hb8; clear hb8)
  | (with_reducible refine qaz (by with_unfolding_all rfl) _ _ rfl P11 _ rfl _ _ hP11 _ z4 isAgg4 ?_)
  | (with_reducible refine qaz (by kernel_rfl) _ _ rfl P9 _ rfl _ _ hP9 _ d5 isAgg28 ?_)
  | (go_at_call 37; (with_reducible refine (hct _ hk).mono ?_); rintro e w14 ⟨rfl, hb8⟩; replace hB3 := hB3.next hb8; replace hR := hR.next hb8; replace hB8 := hB8.next hb8; replace hP9 := hP9.next hb8; replace hP11 := hP11.next hb8; replace hk := btz hk hb8; clear hb8)
  | (with_reducible refine qdz (by kernel_rfl) 43 _ rfl P9 rfl C1 hP9 _ underlying43 (by kernel_rfl) (qfz hz1) ?_)
  | (with_reducible refine qdz (by with_unfolding_all rfl) 43 _ rfl P11 rfl C2 hP11 _ underlying43 (by kernel_rfl) (qfz hz3) ?_)
  | (go_at_call 32; (with_reducible refine (hla _ hk).mono ?_); rintro e w12 ⟨aX, nX, cX, rfl, oX, hb9⟩; have hR9 := hR.next hb9)
  | ((with_reducible refine qbz rfl _ _ _ rfl R rfl _ rfl zW hR9 (hz2 _) (hs2 _) (h12 aX nX cX) ?_); intro W13 hR13 q13))
 ·refine bodyPost_ret (qTz results12 rfl rfl hR13 rfl) rfl ?_
  have hE : ER = 1 := by rw [← hER.out]; unfold linE; rw [if_pos (by rw [hb1]; rfl)]
  have hY : YR = X := by rw [← hYR.out]; unfold linX; rw [if_pos (by rw [hb1]; rfl)]
  rw [hE, hY]
  exact ⟨aX, nX, cX, rfl, (ObsN.store oX q13 hR.lt (fun b hb => by have := hD b hb; have := hRw.out; omega)).low hk.size, q13.below _ _ hRw.out (btz hk hb9)⟩
 ·refine bodyPost_ret (qTz results12 rfl rfl hR13 rfl) rfl ?_
  have hE : ER = 1 := by rw [← hER.out]; unfold linE; rw [if_pos (by rw [hb1, hb2]; rfl)]
  have hY : YR = X := by rw [← hYR.out]; unfold linX; rw [if_pos (by rw [hb1, hb2]; rfl)]
  rw [hE, hY]
  exact ⟨aX, nX, cX, rfl, (ObsN.store oX q13 hR.lt (fun b hb => by have := hD b hb; have := hRw.out; omega)).low hk.size, q13.below _ _ hRw.out (btz hk hb9)⟩
 ·refine bodyPost_ret (qTz results12 rfl rfl hR13 rfl) rfl ?_
  have hE : ER = 8 := by rw [← hER.out]; unfold linE; rw [if_neg (by rw [hb1, hb2]; decide), if_neg (by rw [hkd.out, hb3]; decide), if_pos hb4]
  have hY : YR = X := by rw [← hYR.out]; unfold linX; rw [if_neg (by rw [hb1, hb2]; decide), if_neg (by rw [hkd.out, hb3]; decide), if_pos hb4]
  rw [hE, hY]
  exact ⟨aX, nX, cX, rfl, (ObsN.store oX q13 hR.lt (fun b hb => by have := hD b hb; have := hRw.out; omega)).low hk.size, q13.below _ _ hRw.out (btz hk hb9)⟩
 ·refine bodyPost_ret (qTz results12 rfl rfl hR13 rfl) rfl ?_
  have hE : ER = 12 := by rw [← hER.out]; unfold linE; rw [if_neg (by rw [hb1, hb2]; decide), if_neg (by rw [hkd.out, hb3]; decide), if_neg (by rw [hb4]; decide), if_pos hj]
  have hY : YR = X := by rw [← hYR.out]; unfold linX; rw [if_neg (by rw [hb1, hb2]; decide), if_neg (by rw [hkd.out, hb3]; decide), if_neg (by rw [hb4]; decide), if_pos hj]
  rw [hE, hY]
  exact ⟨aX, nX, cX, rfl, (ObsN.store oX q13 hR.lt (fun b hb => by have := hD b hb; have := hRw.out; omega)).low hk.size, q13.below _ _ hRw.out (btz hk hb9)⟩
 ·refine bodyPost_ret (qTz results12 rfl rfl hR13 rfl) rfl ?_
  have hE : ER = LE := by rw [← hER.out]; unfold linE; rw [if_neg (by rw [hb1, hb2]; decide), if_neg (by rw [hkd.out, hb3]; decide), if_neg (by rw [hb4]; decide), if_neg hj, hLE.out]
  have hY : YR = LX := by rw [← hYR.out]; unfold linX; rw [if_neg (by rw [hb1, hb2]; decide), if_neg (by rw [hkd.out, hb3]; decide), if_neg (by rw [hb4]; decide), if_neg hj, hLX.out]
  rw [hE, hY]
  exact ⟨aX, nX, cX, rfl, (ObsN.store oX q13 hR.lt (fun b hb => by have := hD b hb; have := hRw.out; omega)).low hk.size, q13.below _ _ hRw.out (btz hk hb9)⟩
 ·refine bodyPost_ret (qTz results12 rfl rfl hR13 rfl) rfl ?_
  have hE : ER = 3 := by rw [← hER.out]; unfold linE; rw [if_neg (by rw [hb1, hb2]; decide), if_pos (by rw [hkd.out, hb3]; rfl)]
  have hY : YR = X := by rw [← hYR.out]; unfold linX; rw [if_neg (by rw [hb1, hb2]; decide), if_pos (by rw [hkd.out, hb3]; rfl)]
  rw [hE, hY]
  exact ⟨aX, nX, cX, rfl, (ObsN.store oX q13 hR.lt (fun b hb => by have := hD b hb; have := hRw.out; omega)).low hk.size, q13.below _ _ hRw.out (btz hk hb9)⟩
 ·refine bodyPost_ret (qTz results12 rfl rfl hR13 rfl) rfl ?_
  have hE : ER = 3 := by rw [← hER.out]; unfold linE; rw [if_neg (by rw [hb1, hb2]; decide), if_pos (by rw [kf]; rfl)]
  have hY : YR = X := by rw [← hYR.out]; unfold linX; rw [if_neg (by rw [hb1, hb2]; decide), if_pos (by rw [kf]; rfl)]
  rw [hE, hY]
  exact ⟨aX, nX, cX, rfl, (ObsN.store oX q13 hR.lt (fun b hb => by have := hD b hb; have := hRw.out; omega)).low hk.size, q13.below _ _ hRw.out (btz hk hb9)⟩
theorem sizeN : (prog.info? 3).map (·.size) = some 1 := by kernel_rfl
def useV (X : List Ob) (o : Ob) : Int := pagO o + (o.links.map (qOf X)).sum
def movE (X : List Ob) (i j m : Int) : Int := if ((fnd X i).isSome && (fnd X j).isSome) = false then 1 else if ¬ j ∈ (fO X i).links then 1 else if (fO X j).fixed = true then 8 else if m < -4096 ∨ 4096 < m then 4 else if xrz X (fO X i) < m ∨ ((fO X j).quota + m < useV X (fO X j) ∨ (fO X j).quota + m < 1) ∨ 4096 < (fO X j).quota + m then 5 else 0
def movX (X : List Ob) (i j m : Int) : List Ob := if movE X i j m = 0 then puR X { fO X j with quota := (fO X j).quota + m } else X
theorem move_v {t ke ro i j m : Int} (hD : ∀ b, D0 b → b < w.heap.size) (h : ObsF (LtN w) D0 w ao n cap X Cf) (hL : Lays X) (hn16 : n < 1022) :
  Calls prog 14 #[.agg #[.int .i64 t, .int .u64 ke, .int .u64 ro, .slice ao n cap], .int .u64 i, .int .u64 j, .int .i64 m] w fun e w' => ∃ ao2 n2 cap2, e = .returned (.tuple #[.agg #[.int .i64 t, .int .u64 ke, .int .u64 ro, .slice ao2 n2 cap2], .int .i64 (movE X i j m)]) ∧ ObsN w D0 w' ao2 n2 cap2 (movX X i j m) ∧ Below w.heap.size w w' := by
 have hmx : prog.follows .mixedOrders = true := by kernel_rfl
 have hO : ObsD (LtN w) D0 w ao n cap X := h.obs
 have hF : ObsF (LtN w) (LtN w) w ao n cap X Cf := h.wide hD (fun _ hb => hb)
 have hzw : (prog.info? 25).map (·.size) = some (#[.int .i64 t, .int .u64 ke, .int .u64 ro, .slice ao n cap] : Array Value).size := by kernel_rfl
 have hzv : (prog.info? 68).map (·.size) = some (#[.int .i64 t, .int .u64 ke, .int .u64 ro, .slice ao n cap] : Array Value).size := by kernel_rfl
 have hbt : prog.built 68 [(0, .agg #[.int .i64 t, .int .u64 ke, .int .u64 ro, .slice ao n cap])] = some #[.int .i64 t, .int .u64 ke, .int .u64 ro, .slice ao n cap] := by kernel_rfl
 have hz4 : (#[.int .i64 0, .int .u64 0, .int .u64 0, .slice none 0 0] : Array Value).size = (#[.int .i64 t, .int .u64 ke, .int .u64 ro, .slice ao n cap] : Array Value).size := rfl
 have h14 : (#[.int .i64 t, .int .u64 ke, .int .u64 ro, .slice ao n cap] : Array Value).all (·.oneCell') = true := by simp [Value.oneCell']
 have hz2 : ∀ v, (prog.info? 25).map (·.size) = some (#[.int .i64 t, .int .u64 ke, .int .u64 ro, v] : Array Value).size := fun _ => wnz
 have hs2 : ∀ v, zW.size = (#[.int .i64 t, .int .u64 ke, .int .u64 ro, v] : Array Value).size := fun _ => rfl
 have h12 : ∀ ao n cap, (#[.int .i64 t, .int .u64 ke, .int .u64 ro, .slice ao n cap] : Array Value).all (·.oneCell') = true := fun _ _ _ => by kernel_rfl
 have hrf := fun {er : Int} (W : World) (hk : Below w.heap.size w W) => w7z (t := t) (ke := ke) (ro := ro) (er := er) (D0 := D0) (fun b hb => ltz (hD b hb) hk.size) (qZz hO hD hk) hL.srt (by omega) hL.sms hL.nul
 have hf1 := fun (W : World) (hk : Below w.heap.size w W) => xLz (t := t) (ke := ke) (ro := ro) (i := i) (hF.next hk) hL.srt (by omega)
 have hdo := vHz h hL.srt i
 have hz1 := hdo.size
 have h1c := hdo.one
 have hf2 := fun (W : World) (hk : Below w.heap.size w W) => xLz (t := t) (ke := ke) (ro := ro) (i := j) (hF.next hk) hL.srt (by omega)
 have hdo2 := vHz h hL.srt j
 have hdL : ObD (LtN w) w (fC X Cf i) (fO X i) := hdo.wide hD
 have hoL : ObD (LtN w) w (fC X Cf j) (fO X j) := hdo2.wide hD
 have hrm := fun (W : World) (hk : Below w.heap.size w W) => yzz (t := t) (ke := ke) (ro := ro) (hF.next hk) hL.srt (by omega) hL.quo (hdL.next hk) (hL.at i).1 (hL.at i).2.1
 have hus := fun (W : World) (hk : Below w.heap.size w W) => uses_v (t := t) (ke := ke) (ro := ro) (hF.next hk) hL.srt (by omega) hL.quo (hoL.next hk) (hL.at j).1
 change ∀ (W : World), Below w.heap.size w W → Calls prog _ _ W fun e w' => e = .returned (.int .i64 (xrz X (fO X i))) ∧ _ at hrm
 change ∀ (W : World), Below w.heap.size w W → Calls prog _ _ W fun e w' => e = .returned (.int .i64 (useV X (fO X j))) ∧ _ at hus
 have hpu := fun (W : World) (hk : Below w.heap.size w W) => put_w (t := t) (ke := ke) (ro := ro) (D0 := D0) (fun b hb => ltz (hD b hb) hk.size) (qZz hO hD hk) hL.srt (by omega) hL.sms (ob_set3 (hdo2.laterK fun b hb => hk.block b (hD b hb)) ((fO X j).quota + m)) (gcz (hL.at j).1 ((fO X j).quota + m))
 obtain ⟨al, nl, cl, d5, hLk⟩ := hdo.links
 have hct := fun (W : World) (hk : Below w.heap.size w W) => kPz (i := j) ((hLk.laterK fun b hb => hk.block b (hD b hb)).wide fun b hb => ltz (hD b hb) hk.size)
 have z4 := hdo2.fixed
 have z3 := hdo2.quota
 have hz3 := hdo2.size
 have h3c := hdo2.one
 have hqj := (hL.at j).2.1
 have hzn : ((fC X Cf j).setIfInBounds 3 (.int .i64 ((fO X j).quota + m))).size = 51 := by rw [Array.size_setIfInBounds]; exact hz3
 have hn3 : ((fC X Cf j).setIfInBounds 3 (.int .i64 ((fO X j).quota + m)))[3]? = some (.int .i64 ((fO X j).quota + m)) := by rw [qDz (by rw [hz3]; omega), if_pos rfl]
 obtain ⟨ER, hER⟩ : ∃ ER, Hid (movE X i j m = ER) := ⟨_, rfl⟩
 obtain ⟨YR, hYR⟩ : ∃ YR, Hid (movX X i j m = YR) := ⟨_, rfl⟩
 rw [hER.out, hYR.out]
 generalize fC X Cf i = C1 at hf1 hz1 h1c hrm d5
 generalize fC X Cf j = C2 at hf2 hz3 h3c hus hpu z4 z3 hzn hn3
 clear hdo hdo2 hLk hdL hoL
 obtain ⟨Cn, hCn⟩ : ∃ Cn, Hid (C2.setIfInBounds 3 (.int .i64 ((fO X j).quota + m)) = Cn) := ⟨_, rfl⟩
 rw [hCn.out] at hzn hn3
 simp only [hCn.out] at hpu
 obtain ⟨rm, hrme⟩ : ∃ rm, Hid (xrz X (fO X i) = rm) := ⟨_, rfl⟩
 simp only [hrme.out] at hrm
 obtain ⟨us, huse⟩ : ∃ us, Hid (useV X (fO X j) = us) := ⟨_, rfl⟩
 simp only [huse.out] at hus
 obtain ⟨q, hqe⟩ : ∃ q, Hid ((fO X j).quota = q) := ⟨_, rfl⟩
 rw [hqe.out] at z3 hqj hn3
 obtain ⟨G, hG⟩ : ∃ G : Array Value, G = #[.int .i64 t, .int .u64 ke, .int .u64 ro, .slice ao n cap] := ⟨_, rfl⟩
 simp only [← hG] at hrf hf1 hf2 hrm hus hpu
 rw [← hG] at hzw hzv hbt hz4 h14
 rw [← hG]
 clear hG
 cases hb1 : (fnd X i).isSome
 rw [hb1] at hf1
 generalize (fnd X j).isSome = b2 at hf2
 rotate_left
 rw [hb1] at hf1
 cases hb2 : (fnd X j).isSome
 rw [hb2] at hf2
 rotate_left
 rw [hb2] at hf2
 by_cases hj : j ∈ (fO X i).links
 replace hct := fun W hk => (hct W hk).yes hj
 cases hb4 : (fO X j).fixed
 rw [hb4] at z4
 by_cases hm1 : m < -4096
 have hm : Hid (m < -4096) := hm1
 rotate_left
 by_cases hm2 : 4096 < m
 have hm : Hid (4096 < m) := hm2
 rotate_left
 have hm : Hid (-4096 ≤ m ∧ m ≤ 4096) := by refine (⟨?_, ?_⟩ : _ ∧ _) <;> omega
 have hwr : IntKind.i64.wrap (q + m) = q + m := by rw [IntKind.wrap_i64]; omega
 rotate_left
 rw [hb4] at z4
 rotate_left
 replace hct := fun W hk => (hct W hk).no hj
 rotate_left
 all_goals go_enter func14, ntmps14
 all_goals go_wp2_with (first
  | go_skip
  | (with_reducible refine qcz rfl 25 _ rfl G rfl ?_; intro B3 W3 hN3 hB3 hk)
  | ((with_reducible refine qgz rfl 25 rfl zW wlz ?_); intro R W6 hN6 hR hk6; have hRw : Hid (w.heap.size ≤ R) := (by have := hN6.out; have := hk.size; refine (?_ : w.heap.size ≤ R); omega); replace hB3 := hB3.next hk6; replace hk := btz hk hk6; clear hN3 hN6)
  | (with_reducible refine qdz (by kernel_rfl) 25 _ rfl B3 rfl G hB3 _ underlying25 (by kernel_rfl) hzw ?_)
  | ((with_reducible refine qRz (by kernel_rfl) _ [(0, .tmp 17)] rfl G ?hf ?_); (case hf => exact hbt))
  | ((with_reducible refine qgz rfl 68 rfl #[.int .i64 0, .int .u64 0, .int .u64 0, .slice none 0 0] Tryz.zeroValue68 ?_); intro B8 W8 hN8 hR8 hk8)
  | ((with_reducible refine qbz rfl _ _ _ rfl B8 rfl G rfl _ hR8 hzv hz4 h14 ?_); intro V8 hB8 o8; have hb8 : Below W6.heap.size W6 V8 := o8.below W6.heap.size W6 (by have := hN8.out; omega) hk8; replace hB3 := hB3.next hb8; replace hR := hR.next hb8; replace hk := btz hk hb8; clear hN8 hR8 hk8 o8 hb8)
  | (with_reducible refine qdz (by kernel_rfl) 68 _ rfl B8 rfl G hB8 _ underlying68 (by kernel_rfl) hzv ?_)
  | (go_at_call 30; have hx := hP9; (with_reducible refine (hf2 _ hk).mono ?_); rintro e w11 ⟨rfl, hb8⟩; replace hB3 := hB3.next hb8; replace hR := hR.next hb8; replace hB8 := hB8.next hb8; replace hP9 := hP9.next hb8; replace hk := btz hk hb8; clear hb8 hx)
  | (go_at_call 30; (with_reducible refine (hf1 _ hk).mono ?_); rintro e w9 ⟨rfl, hb8⟩; replace hB3 := hB3.next hb8; replace hR := hR.next hb8; replace hB8 := hB8.next hb8; replace hk := btz hk hb8; clear hb8)
  | ((with_reducible refine qgz rfl 43 rfl zC qwz ?_); have hx := hP9; intro P11 W11 hN11 hP11a hk11; have hPw2 : Hid (w.heap.size ≤ P11 ∧ B3 ≠ P11 ∧ R ≠ P11 ∧ B8 ≠ P11 ∧ P9 ≠ P11) := (by have := hN11.out; have := hk.size; have := hB3.lt; have := hR.lt; have := hB8.lt; have := hP9.lt; refine (⟨?_, ?_, ?_, ?_, ?_⟩ : _ ∧ _ ∧ _ ∧ _ ∧ _) <;> omega); clear hx)
  | ((with_reducible refine qgz rfl 43 rfl zC qwz ?_); intro P9 W9 hN9 hP9a hk9; have hPw : Hid (w.heap.size ≤ P9 ∧ B3 ≠ P9 ∧ R ≠ P9) := (by have := hN9.out; have := hk.size; have := hB3.lt; have := hR.lt; refine (⟨?_, ?_, ?_⟩ : _ ∧ _ ∧ _) <;> omega))
  | ((with_reducible refine qbz rfl _ _ _ rfl P9 rfl C1 rfl zC hP9a (qfz hz1) (qrz.trans hz1.symm) h1c ?_); intro V9 hP9 q9; have hb8 : Below w9.heap.size w9 V9 := q9.below w9.heap.size w9 (by have := hN9.out; omega) hk9; replace hB3 := hB3.next hb8; replace hR := hR.next hb8; replace hB8 := hB8.next hb8; replace hk := btz hk hb8; clear hN9 hP9a hk9 q9 hb8)
  | ((with_reducible refine qbz rfl _ _ _ rfl P11 rfl C2 rfl zC hP11a (qfz hz3) (qrz.trans hz3.symm) h3c ?_); intro V11 hP11 q11; have hb8 : Below w11.heap.size w11 V11 := q11.below w11.heap.size w11 (by have := hN11.out; omega) hk11; replace hB3 := hB3.next hb8; replace hR := hR.next hb8; replace hB8 := hB8.next hb8; replace hP9 := hP9.next hb8; replace hk := btz hk hb8; clear hN11 hP11a hk11 q11 hb8)
  | (with_reducible refine qaz (by kernel_rfl) _ _ rfl P9 _ rfl _ _ hP9 _ d5 isAgg28 ?_)
  | (go_at_call 37; (with_reducible refine (hct _ hk).mono ?_); rintro e w14 ⟨rfl, hb8⟩; replace hB3 := hB3.next hb8; replace hR := hR.next hb8; replace hB8 := hB8.next hb8; replace hP9 := hP9.next hb8; replace hP11 := hP11.next hb8; replace hk := btz hk hb8; clear hb8)
  | (with_reducible refine qaz (by kernel_rfl) _ _ rfl P11 _ rfl _ _ hP11 _ z4 isAgg4 ?_)
  | ((with_reducible refine qez (by kernel_rfl) .lss 3 _ _ _ rfl (.int .i64 m) (.int .i64 (-4096)) rfl rfl (q8z _ _ _ _ _ _) ?_ ?_) <;> first | (intro f1; exfalso; have h1 := f1.out; have h2 := hm.out; omega) | intro f1)
  | ((with_reducible refine qez (by kernel_rfl) .gtr 3 _ _ _ rfl (.int .i64 m) (.int .i64 4096) rfl rfl (qCz _ _ _ _ _ _) ?_ ?_) <;> first | (intro f2; exfalso; have h1 := f2.out; have h2 := hm.out; omega) | intro f2)
  | (go_at_call 31; (with_reducible refine (hrf _ hk).mono ?_); rintro e w12 ⟨aX, nX, cX, rfl, oX, hb9⟩; have hR9 := hR.next hb9)
  | ((with_reducible refine qbz rfl _ _ _ rfl R rfl _ rfl zW hR9 (hz2 _) (hs2 _) (h12 aX nX cX) ?_); intro W13 hR13 q13))
 ·refine bodyPost_ret (qTz results14 rfl rfl hR13 rfl) rfl ?_
  have hE : ER = 1 := by rw [← hER.out]; unfold movE; rw [if_pos (by rw [hb1]; rfl)]
  have hY : YR = X := by rw [← hYR.out]; unfold movX; rw [hER.out, hE]; rfl
  rw [hE, hY]
  exact ⟨aX, nX, cX, rfl, (ObsN.store oX q13 hR.lt (fun b hb => by have := hD b hb; have := hRw.out; omega)).low hk.size, q13.below _ _ hRw.out (btz hk hb9)⟩
 ·refine bodyPost_ret (qTz results14 rfl rfl hR13 rfl) rfl ?_
  have hE : ER = 1 := by rw [← hER.out]; unfold movE; rw [if_pos (by rw [hb1, hb2]; rfl)]
  have hY : YR = X := by rw [← hYR.out]; unfold movX; rw [hER.out, hE]; rfl
  rw [hE, hY]
  exact ⟨aX, nX, cX, rfl, (ObsN.store oX q13 hR.lt (fun b hb => by have := hD b hb; have := hRw.out; omega)).low hk.size, q13.below _ _ hRw.out (btz hk hb9)⟩
 ·refine bodyPost_ret (qTz results14 rfl rfl hR13 rfl) rfl ?_
  have hE : ER = 4 := by rw [← hER.out]; unfold movE; rw [if_neg (by rw [hb1, hb2]; decide), if_neg (fun c => c hj), if_neg (by rw [hb4]; decide), if_pos (.inl hm1)]
  have hY : YR = X := by rw [← hYR.out]; unfold movX; rw [hER.out, hE]; rfl
  rw [hE, hY]
  exact ⟨aX, nX, cX, rfl, (ObsN.store oX q13 hR.lt (fun b hb => by have := hD b hb; have := hRw.out; omega)).low hk.size, q13.below _ _ hRw.out (btz hk hb9)⟩
 ·refine bodyPost_ret (qTz results14 rfl rfl hR13 rfl) rfl ?_
  have hE : ER = 4 := by rw [← hER.out]; unfold movE; rw [if_neg (by rw [hb1, hb2]; decide), if_neg (fun c => c hj), if_neg (by rw [hb4]; decide), if_pos (.inr hm2)]
  have hY : YR = X := by rw [← hYR.out]; unfold movX; rw [hER.out, hE]; rfl
  rw [hE, hY]
  exact ⟨aX, nX, cX, rfl, (ObsN.store oX q13 hR.lt (fun b hb => by have := hD b hb; have := hRw.out; omega)).low hk.size, q13.below _ _ hRw.out (btz hk hb9)⟩
 ·refine PgM.region_out (S := fun W => Below w14.heap.size w14 W) hmx ((brz _ _).drew) (fun hS => ?_)
  generalize w14.drew = v14 at hS ⊢
  refine quz (by kernel_rfl) (fun _ _ _ _ _ h => h) hS [(0, some (.agg G)), (1, some (.agg C1)), (3, some (.agg G)), (4, some (.agg C2))] (obs := [.load 68 B8 0 (.agg G), .load 43 P9 0 (.agg C1), .load 68 B8 0 (.agg G), .load 43 P11 0 (.agg C2)]) (n := 4) (by kernel_rfl) (by kernel_rfl) ⟨qHz (fun _ h => hB8.next h) underlying68 (by kernel_rfl) hzv, qHz (fun _ h => hP9.next h) underlying43 (by kernel_rfl) (qfz hz1), qHz (fun _ h => hB8.next h) underlying68 (by kernel_rfl) hzv, qHz (fun _ h => hP11.next h) underlying43 (by kernel_rfl) (qfz hz3), trivial⟩ ?_
  refine qoz (i := 2) (fuel := 3) (f := 39) (vs := [.agg G, .agg C1]) (d := some 69) (by kernel_rfl) (by kernel_rfl) (by kernel_rfl) call39 (hrm _ (btz hk hS)) ?_
  rintro e v15 ⟨rfl, hbv15⟩
  have hSv15 : Below w14.heap.size w14 v15 := btz hS hbv15
  refine ⟨_, rfl, hSv15, ?_⟩
  refine qoz (i := 5) (fuel := 2) (f := 40) (vs := [.agg G, .agg C2]) (d := some 72) (by kernel_rfl) (by kernel_rfl) (by kernel_rfl) call40 (hus _ (btz hk hSv15)) ?_
  rintro e v16 ⟨rfl, hbv16⟩
  have hSv16 : Below w14.heap.size w14 v16 := btz hSv15 hbv16
  refine ⟨_, rfl, hSv16, ?_⟩
  refine qlz (by kernel_rfl) (fun _ _ _ _ _ h => h) hSv16 [(6, none), (7, none)] (l' := #[tt, tt, tt, tt, tt, tt, tt, tt]) (a' := { tmps := #[.agg G, .int .u64 i, .int .u64 j, .int .i64 m, .pointer (some ⟨B3, 0, none⟩), ud, ud, undef, .pointer (some ⟨R, 0, none⟩), .int .i64 0, .pointer (some ⟨B8, 0, none⟩), .pointer (some ⟨P9, 0, none⟩), .bool true, .pointer (some ⟨P11, 0, none⟩), .bool true, .int .i64 rm, .int .i64 us, .agg G, .agg G, .tuple #[.agg C1, .bool true], .agg G, .int .u64 i, .tuple #[.agg C1, .bool true], .agg C1, .bool true, .tuple #[.agg C2, .bool true], .agg G, .int .u64 j, .tuple #[.agg C2, .bool true], .agg C2, .bool true, .bool false, .bool true, .bool false, .bool false, .bool true, .bool false, .bool false, .bool false, .pointer (some ⟨P9, 5, none⟩), .slice al nl cl, .int .u64 j, .bool true, .bool false, .bool false, ud, ud, ud, undef, .bool false, .pointer (some ⟨P11, 4, none⟩), .bool false, ud, ud, ud, undef, .bool false, .int .i64 m, .bool false, .bool false, .int .i64 m, .bool false, .bool false, ud, ud, ud, undef, .agg G, .agg C1, .int .i64 rm, .agg G, .agg C2, .int .i64 us, ud, ud, ud, ud, ud, ud, ud, ud, ud, ud, ud, ud, ud, ud, ud, ud, ud, ud, ud, ud, ud, ud, ud, ud, ud, ud, undef], defers := [] }) (obs := []) (n := 0) (by kernel_rfl) (by kernel_rfl) trivial ?_
  refine wpAnyH_done (by kernel_rfl) ?_ _
  replace hB3 := hB3.next hSv16
  replace hR := hR.next hSv16
  replace hB8 := hB8.next hSv16
  replace hP9 := hP9.next hSv16
  replace hP11 := hP11.next hSv16
  replace hk := btz hk hSv16
  clear hS hSv15 hSv16 hbv15 hbv16
  by_cases c1 : rm < m
  ·have hc : Hid (rm < m) := c1
   go_wp2_with (first
    | go_skip
    | (with_reducible refine qaz (by kernel_rfl) _ _ rfl P11 _ rfl _ _ hP11 _ z3 isAgg3 ?_)
    | ((with_reducible refine qjz rfl _ _ _ rfl P11 3 rfl (.int .i64 (q + m)) rfl rfl C2 _ hP11 sizeN (by rw [hz3]; omega) rfl ?_); intro V17 hQn q17; rw [← hqe.out, hCn.out] at hQn; replace hB3 := hB3.other q17 hPw2.out.2.1; replace hR := hR.other q17 hPw2.out.2.2.1; replace hB8 := hB8.other q17 hPw2.out.2.2.2.1; replace hk := q17.below _ _ hPw2.out.1 hk; clear hP11; have hQ11 := hQn)
    | (with_reducible refine qaz (by kernel_rfl) _ _ rfl P11 _ rfl _ _ hQ11 _ hn3 isAgg3 ?_)
    | ((with_reducible refine qez (by kernel_rfl) .gtr 3 _ _ _ rfl (.int .i64 m) _ rfl rfl (qCz _ _ _ _ _ _) ?_ ?_) <;> first | (intro g1; exfalso; have h1 := g1.out; have h2 := hc.out; omega) | intro g1)
    | ((with_reducible refine qez (by kernel_rfl) .lss 3 _ _ _ rfl (.int .i64 (q + m)) _ rfl rfl (q8z _ _ _ _ _ _) ?_ ?_) <;> first | (intro g2; exfalso; have h1 := g2.out; have h2 := hc.out; omega) | intro g2)
    | ((with_reducible refine qez (by kernel_rfl) .gtr 3 _ _ _ rfl (.int .i64 (q + m)) _ rfl rfl (qCz _ _ _ _ _ _) ?_ ?_) <;> first | (intro g3; exfalso; have h1 := g3.out; have h2 := hc.out; omega) | intro g3)
    | (with_reducible refine qdz (by kernel_rfl) 68 _ rfl B8 rfl G hB8 _ underlying68 (by kernel_rfl) hzv ?_)
    | (go_at_call 31; (with_reducible refine (hrf _ hk).mono ?_); rintro e w12 ⟨aX, nX, cX, rfl, oX, hb9⟩; have hR9 := hR.next hb9)
    | ((with_reducible refine qbz rfl _ _ _ rfl R rfl _ rfl zW hR9 (hz2 _) (hs2 _) (h12 aX nX cX) ?_); intro W13 hR13 q13))
   all_goals
    refine bodyPost_ret (qTz results14 rfl rfl hR13 rfl) rfl ?_
    have hE : ER = 5 := by rw [← hER.out]; unfold movE; rw [if_neg (by rw [hb1, hb2]; decide), if_neg (fun c => c hj), if_neg (by rw [hb4]; decide), if_neg (by have := hm.out; omega), if_pos (by rw [hrme.out, huse.out, hqe.out]; have h2 := hc.out; omega)]
    have hY : YR = X := by rw [← hYR.out]; unfold movX; rw [hER.out, hE]; rfl
    rw [hE, hY]
    exact ⟨aX, nX, cX, rfl, (ObsN.store oX q13 hR.lt (fun b hb => by have := hD b hb; have := hRw.out; omega)).low hk.size, q13.below _ _ hRw.out (btz hk hb9)⟩
  ·by_cases c2 : q + m < max us 1
   ·have hc : Hid (¬ rm < m ∧ q + m < max us 1) := ⟨c1, c2⟩
    go_wp2_with (first
     | go_skip
     | (with_reducible refine qaz (by kernel_rfl) _ _ rfl P11 _ rfl _ _ hP11 _ z3 isAgg3 ?_)
     | ((with_reducible refine qjz rfl _ _ _ rfl P11 3 rfl (.int .i64 (q + m)) rfl rfl C2 _ hP11 sizeN (by rw [hz3]; omega) rfl ?_); intro V17 hQn q17; rw [← hqe.out, hCn.out] at hQn; replace hB3 := hB3.other q17 hPw2.out.2.1; replace hR := hR.other q17 hPw2.out.2.2.1; replace hB8 := hB8.other q17 hPw2.out.2.2.2.1; replace hk := q17.below _ _ hPw2.out.1 hk; clear hP11; have hQ11 := hQn)
     | (with_reducible refine qaz (by kernel_rfl) _ _ rfl P11 _ rfl _ _ hQ11 _ hn3 isAgg3 ?_)
     | ((with_reducible refine qez (by kernel_rfl) .gtr 3 _ _ _ rfl (.int .i64 m) _ rfl rfl (qCz _ _ _ _ _ _) ?_ ?_) <;> first | (intro g1; exfalso; have h1 := g1.out; have h2 := hc.out; omega) | intro g1)
     | ((with_reducible refine qez (by kernel_rfl) .lss 3 _ _ _ rfl (.int .i64 (q + m)) _ rfl rfl (q8z _ _ _ _ _ _) ?_ ?_) <;> first | (intro g2; exfalso; have h1 := g2.out; have h2 := hc.out; omega) | intro g2)
     | ((with_reducible refine qez (by kernel_rfl) .gtr 3 _ _ _ rfl (.int .i64 (q + m)) _ rfl rfl (qCz _ _ _ _ _ _) ?_ ?_) <;> first | (intro g3; exfalso; have h1 := g3.out; have h2 := hc.out; omega) | intro g3)
     | (with_reducible refine qdz (by kernel_rfl) 68 _ rfl B8 rfl G hB8 _ underlying68 (by kernel_rfl) hzv ?_)
     | (go_at_call 31; (with_reducible refine (hrf _ hk).mono ?_); rintro e w12 ⟨aX, nX, cX, rfl, oX, hb9⟩; have hR9 := hR.next hb9)
     | ((with_reducible refine qbz rfl _ _ _ rfl R rfl _ rfl zW hR9 (hz2 _) (hs2 _) (h12 aX nX cX) ?_); intro W13 hR13 q13))
    all_goals
     refine bodyPost_ret (qTz results14 rfl rfl hR13 rfl) rfl ?_
     have hE : ER = 5 := by rw [← hER.out]; unfold movE; rw [if_neg (by rw [hb1, hb2]; decide), if_neg (fun c => c hj), if_neg (by rw [hb4]; decide), if_neg (by have := hm.out; omega), if_pos (by rw [hrme.out, huse.out, hqe.out]; have h2 := hc.out; omega)]
     have hY : YR = X := by rw [← hYR.out]; unfold movX; rw [hER.out, hE]; rfl
     rw [hE, hY]
     exact ⟨aX, nX, cX, rfl, (ObsN.store oX q13 hR.lt (fun b hb => by have := hD b hb; have := hRw.out; omega)).low hk.size, q13.below _ _ hRw.out (btz hk hb9)⟩
   ·by_cases c3 : 4096 < q + m
    ·have hc : Hid (¬ rm < m ∧ ¬ q + m < max us 1 ∧ 4096 < q + m) := ⟨c1, c2, c3⟩
     go_wp2_with (first
      | go_skip
      | (with_reducible refine qaz (by kernel_rfl) _ _ rfl P11 _ rfl _ _ hP11 _ z3 isAgg3 ?_)
      | ((with_reducible refine qjz rfl _ _ _ rfl P11 3 rfl (.int .i64 (q + m)) rfl rfl C2 _ hP11 sizeN (by rw [hz3]; omega) rfl ?_); intro V17 hQn q17; rw [← hqe.out, hCn.out] at hQn; replace hB3 := hB3.other q17 hPw2.out.2.1; replace hR := hR.other q17 hPw2.out.2.2.1; replace hB8 := hB8.other q17 hPw2.out.2.2.2.1; replace hk := q17.below _ _ hPw2.out.1 hk; clear hP11; have hQ11 := hQn)
      | (with_reducible refine qaz (by kernel_rfl) _ _ rfl P11 _ rfl _ _ hQ11 _ hn3 isAgg3 ?_)
      | ((with_reducible refine qez (by kernel_rfl) .gtr 3 _ _ _ rfl (.int .i64 m) _ rfl rfl (qCz _ _ _ _ _ _) ?_ ?_) <;> first | (intro g1; exfalso; have h1 := g1.out; have h2 := hc.out; omega) | intro g1)
      | ((with_reducible refine qez (by kernel_rfl) .lss 3 _ _ _ rfl (.int .i64 (q + m)) _ rfl rfl (q8z _ _ _ _ _ _) ?_ ?_) <;> first | (intro g2; exfalso; have h1 := g2.out; have h2 := hc.out; omega) | intro g2)
      | ((with_reducible refine qez (by kernel_rfl) .gtr 3 _ _ _ rfl (.int .i64 (q + m)) _ rfl rfl (qCz _ _ _ _ _ _) ?_ ?_) <;> first | (intro g3; exfalso; have h1 := g3.out; have h2 := hc.out; omega) | intro g3)
      | (with_reducible refine qdz (by kernel_rfl) 68 _ rfl B8 rfl G hB8 _ underlying68 (by kernel_rfl) hzv ?_)
      | (go_at_call 31; (with_reducible refine (hrf _ hk).mono ?_); rintro e w12 ⟨aX, nX, cX, rfl, oX, hb9⟩; have hR9 := hR.next hb9)
      | ((with_reducible refine qbz rfl _ _ _ rfl R rfl _ rfl zW hR9 (hz2 _) (hs2 _) (h12 aX nX cX) ?_); intro W13 hR13 q13))
     all_goals
      refine bodyPost_ret (qTz results14 rfl rfl hR13 rfl) rfl ?_
      have hE : ER = 5 := by rw [← hER.out]; unfold movE; rw [if_neg (by rw [hb1, hb2]; decide), if_neg (fun c => c hj), if_neg (by rw [hb4]; decide), if_neg (by have := hm.out; omega), if_pos (by rw [hrme.out, huse.out, hqe.out]; have h2 := hc.out; omega)]
      have hY : YR = X := by rw [← hYR.out]; unfold movX; rw [hER.out, hE]; rfl
      rw [hE, hY]
      exact ⟨aX, nX, cX, rfl, (ObsN.store oX q13 hR.lt (fun b hb => by have := hD b hb; have := hRw.out; omega)).low hk.size, q13.below _ _ hRw.out (btz hk hb9)⟩
    ·have hc : Hid (¬ rm < m ∧ ¬ q + m < max us 1 ∧ ¬ 4096 < q + m) := ⟨c1, c2, c3⟩
     go_wp2_with (first
      | go_skip
      | (with_reducible refine qaz (by kernel_rfl) _ _ rfl P11 _ rfl _ _ hP11 _ z3 isAgg3 ?_)
      | ((with_reducible refine qjz rfl _ _ _ rfl P11 3 rfl (.int .i64 (q + m)) rfl rfl C2 _ hP11 sizeN (by rw [hz3]; omega) rfl ?_); intro V17 hQn q17; rw [← hqe.out, hCn.out] at hQn; replace hB3 := hB3.other q17 hPw2.out.2.1; replace hR := hR.other q17 hPw2.out.2.2.1; replace hB8 := hB8.other q17 hPw2.out.2.2.2.1; replace hk := q17.below _ _ hPw2.out.1 hk; clear hP11; have hQ11 := hQn)
      | (with_reducible refine qaz (by kernel_rfl) _ _ rfl P11 _ rfl _ _ hQ11 _ hn3 isAgg3 ?_)
      | ((with_reducible refine qez (by kernel_rfl) .gtr 3 _ _ _ rfl (.int .i64 m) _ rfl rfl (qCz _ _ _ _ _ _) ?_ ?_) <;> first | (intro g1; exfalso; have h1 := g1.out; have h2 := hc.out; omega) | intro g1)
      | ((with_reducible refine qez (by kernel_rfl) .lss 3 _ _ _ rfl (.int .i64 (q + m)) _ rfl rfl (q8z _ _ _ _ _ _) ?_ ?_) <;> first | (intro g2; exfalso; have h1 := g2.out; have h2 := hc.out; omega) | intro g2)
      | ((with_reducible refine qez (by kernel_rfl) .gtr 3 _ _ _ rfl (.int .i64 (q + m)) _ rfl rfl (qCz _ _ _ _ _ _) ?_ ?_) <;> first | (intro g3; exfalso; have h1 := g3.out; have h2 := hc.out; omega) | intro g3)
      | (with_reducible refine qdz (by kernel_rfl) 25 _ rfl B3 rfl G hB3 _ underlying25 (by kernel_rfl) hzw ?_)
      | (with_reducible refine qdz (by kernel_rfl) 43 _ rfl P11 rfl Cn hQ11 _ underlying43 (by kernel_rfl) (qfz hzn) ?_)
      | (go_at_call 38; (with_reducible refine (hpu _ hk).mono ?_); rintro e w12 ⟨aX, nX, cX, rfl, oX, hb9⟩; have hR9 := hR.next hb9)
      | ((with_reducible refine qbz rfl _ _ _ rfl R rfl _ rfl zW hR9 (hz2 _) (hs2 _) (h12 aX nX cX) ?_); intro W13 hR13 q13))
     all_goals
      refine bodyPost_ret (qTz results14 rfl rfl hR13 rfl) rfl ?_
      have hE : ER = 0 := by rw [← hER.out]; unfold movE; rw [if_neg (by rw [hb1, hb2]; decide), if_neg (fun c => c hj), if_neg (by rw [hb4]; decide), if_neg (by have := hm.out; omega), if_neg (by rw [hrme.out, huse.out, hqe.out]; have h2 := hc.out; omega)]
      have hY : YR = puR X { fO X j with quota := (fO X j).quota + m } := by rw [← hYR.out]; unfold movX; rw [hER.out, hE]; rfl
      rw [hE, hY]
      exact ⟨aX, nX, cX, rfl, (ObsN.store oX q13 hR.lt (fun b hb => by have := hD b hb; have := hRw.out; omega)).low hk.size, q13.below _ _ hRw.out (btz hk hb9)⟩
 ·refine bodyPost_ret (qTz results14 rfl rfl hR13 rfl) rfl ?_
  have hE : ER = 8 := by rw [← hER.out]; unfold movE; rw [if_neg (by rw [hb1, hb2]; decide), if_neg (fun c => c hj), if_pos hb4]
  have hY : YR = X := by rw [← hYR.out]; unfold movX; rw [hER.out, hE]; rfl
  rw [hE, hY]
  exact ⟨aX, nX, cX, rfl, (ObsN.store oX q13 hR.lt (fun b hb => by have := hD b hb; have := hRw.out; omega)).low hk.size, q13.below _ _ hRw.out (btz hk hb9)⟩
 ·refine bodyPost_ret (qTz results14 rfl rfl hR13 rfl) rfl ?_
  have hE : ER = 1 := by rw [← hER.out]; unfold movE; rw [if_neg (by rw [hb1, hb2]; decide), if_pos hj]
  have hY : YR = X := by rw [← hYR.out]; unfold movX; rw [hER.out, hE]; rfl
  rw [hE, hY]
  exact ⟨aX, nX, cX, rfl, (ObsN.store oX q13 hR.lt (fun b hb => by have := hD b hb; have := hRw.out; omega)).low hk.size, q13.below _ _ hRw.out (btz hk hb9)⟩
end
section
theorem jwz {X : List Ob} {i : Int} {x : Ob} (h : fnd X i = some x) : qOf X i = x.quota := by unfold qOf; rw [h]
theorem x2z {X : List Ob} {i : Int} {x : Ob} (h : fnd X i = some x) : fO X i = x := by unfold fO; rw [h]; rfl
theorem ins_sum (L : List Int) (i : Int) (f : Int → Int) : ((insW L i).map f).sum = (L.map f).sum + f i := by
 unfold insW
 rw [List.map_append, List.map_cons, List.sum_append_int, List.sum_cons]
 conv => rhs; rw [← List.take_append_drop (ahW L i) L, List.map_append, List.sum_append_int]
 omega
theorem xcz {L : List Int} {i j : Int} : j ∈ insW L i ↔ j = i ∨ j ∈ L := by
 unfold insW
 rw [List.mem_append, List.mem_cons]
 conv => rhs; rw [← List.take_append_drop (ahW L i) L, List.mem_append]
 constructor
 ·rintro (h | h | h)
  ·exact .inr (.inl h)
  ·exact .inl h
  ·exact .inr (.inr h)
 ·rintro (h | h | h)
  ·exact .inr (.inl h)
  ·exact .inl h
  ·exact .inr (.inr h)
theorem g9z (L : List Int) (i : Int) : (insW L i).length = L.length + 1 := by
 unfold insW
 rw [List.length_append, List.length_cons]
 conv => rhs; rw [← List.take_append_drop (ahW L i) L, List.length_append]
 omega
theorem u3z {j m : Int} {f : Int → Int} : ∀ {L : List Int}, L.Nodup → (L.map fun i => if i = j then f i + m else f i).sum = (L.map f).sum + (if j ∈ L then m else 0)
 | [], _ => by simp
 | a :: L, h => by
  have ih := u3z (j := j) (m := m) (f := f) (List.nodup_cons.1 h).2
  have hn := (List.nodup_cons.1 h).1
  rw [List.map_cons, List.sum_cons, List.map_cons, List.sum_cons, ih]
  by_cases e : a = j
  ·subst e
   rw [if_pos rfl, if_neg hn, if_pos (List.mem_cons_self ..)]; omega
  ·rw [if_neg e]
   by_cases q : j ∈ L
   ·rw [if_pos q, if_pos (List.mem_cons_of_mem _ q)]; omega
   ·rw [if_neg q, if_neg (fun r => by rcases List.mem_cons.1 r with r | r; exact e r.symm; exact q r)]; omega
theorem ufz {X Y : List Ob} {c : Ob} (h : ∀ l ∈ c.links, qOf Y l = qOf X l) : useV Y c = useV X c := by
 unfold useV
 rw [List.map_congr_left h]
section
variable {X : List Ob} {o d : Ob}
abbrev layY (X : List Ob) (d o : Ob) : List Ob := puR (puR X o) { d with links := insW d.links o.id }
theorem kGz (hs : Srt X) (hne : o.id ≠ d.id) (i : Int) : fnd (layY X d o) i = if i = d.id then some { d with links := insW d.links o.id } else if i = o.id then some o else fnd X i := by
 by_cases e : i = d.id
 ·rw [if_pos e, e]; exact x0z (q2z hs o) { d with links := insW d.links o.id }
 ·rw [if_neg e, wSz (q2z hs o) (o := { d with links := insW d.links o.id }) e]
  by_cases e2 : i = o.id
  ·rw [if_pos e2, e2]; exact x0z hs o
  ·rw [if_neg e2]; exact wSz hs e2
theorem lay_q (hs : Srt X) (hd : fnd X d.id = some d) (hne : o.id ≠ d.id) (ho : fnd X o.id = none ∨ fnd X o.id = some o) {l : Int} (hl : (fnd X l).isSome = true) : qOf (layY X d o) l = qOf X l := by
 unfold qOf
 rw [kGz hs hne]
 by_cases e : l = d.id
 ·rw [if_pos e, e, hd]
 ·rw [if_neg e]
  by_cases e2 : l = o.id
  ·rw [if_pos e2]
   rw [e2] at hl ⊢
   rcases ho with ho | ho
   ·rw [ho] at hl; cases hl
   ·rw [ho]
  ·rw [if_neg e2]
theorem lay_use (hs : Srt X) (hlk : ∀ c ∈ X, ∀ l ∈ c.links, (fnd X l).isSome = true) (hd : fnd X d.id = some d) (hne : o.id ≠ d.id) (ho : fnd X o.id = none ∨ fnd X o.id = some o) {c : Ob} (hc : c ∈ X) :
  (fnd (layY X d o) c.id).isSome = true ∧ useV (layY X d o) (fO (layY X d o) c.id) = useV X c + (if c.id = d.id then o.quota else 0) := by
 have hcf : fnd X c.id = some c := (q6z hs).2 ⟨hc, rfl⟩
 have hq := fun {l : Int} (hl : (fnd X l).isSome = true) => lay_q hs hd hne ho hl
 by_cases e : c.id = d.id
 ·have hcd : c = d := by rw [e, hd] at hcf; injection hcf with q; exact q.symm
  subst hcd
  have hf : fnd (layY X c o) c.id = some { c with links := insW c.links o.id } := by rw [kGz hs hne, if_pos rfl]
  refine ⟨by rw [hf]; rfl, ?_⟩
  rw [x2z hf, if_pos rfl]
  unfold useV
  show pagO c + ((insW c.links o.id).map (qOf (layY X c o))).sum = _
  rw [ins_sum, List.map_congr_left (fun l hl => hq (hlk c hc l hl))]
  have : qOf (layY X c o) o.id = o.quota := jwz (by rw [kGz hs hne, if_neg hne, if_pos rfl])
  rw [this]
  exact (Int.add_assoc _ _ _).symm
 ·have hf : fnd (layY X d o) c.id = some c := by
   rw [kGz hs hne, if_neg e]
   by_cases e2 : c.id = o.id
   ·rw [if_pos e2]
    rcases ho with ho | ho
    ·rw [e2, ho] at hcf; cases hcf
    ·rw [e2, ho] at hcf; injection hcf with q; rw [q]
   ·rw [if_neg e2]; exact hcf
  refine ⟨by rw [hf]; rfl, ?_⟩
  rw [x2z hf, if_neg e, ufz fun l hl => hq (hlk c hc l hl)]; omega
end
theorem jez {p : Ob → Bool} {x : Ob} : ∀ {l : List Ob}, Srt l → x ∈ l → (∀ y ∈ l, p y = true ↔ y = x) → l.filter p = [x]
 | [], _, h, _ => by cases h
 | a :: l, hs, h, hp => by
  have hs' := List.pairwise_cons.1 hs
  rcases List.mem_cons.1 h with rfl | h
  ·rw [List.filter_cons_of_pos ((hp x (List.mem_cons_self ..)).2 rfl)]
   congr 1
   rw [List.filter_eq_nil_iff]
   intro y hy q
   have e := (hp y (List.mem_cons_of_mem _ hy)).1 q
   have := hs'.1 y hy
   rw [e] at this; omega
  ·have hne : a ≠ x := fun e => by have := hs'.1 x h; rw [e] at this; omega
   rw [List.filter_cons_of_neg (fun q => hne ((hp a (List.mem_cons_self ..)).1 q))]
   exact jez hs'.2 h fun y hy => hp y (List.mem_cons_of_mem _ hy)
variable {X : List Ob}
theorem hol_len {t : Int} {key : Nat} {ro : Int} (h : fitD t key ro X = true) {o : Ob} (ho : o ∈ X) (hf : o.fixed = false) : (holL X o.id).length ≤ 1 := by
 unfold fitD at h
 simp only [Bool.and_eq_true] at h
 have hlp := h.2.1
 rw [jYz (p := fun o => lnkB X o && plaB X ro o)] at hlp
 have h2 := hlp o ho
 rw [Bool.and_eq_true] at h2
 have h3 := h2.2
 unfold plaB at h3
 by_cases e : o.id = ro
 ·rw [if_pos e] at h3
  simp only [Bool.and_eq_true, decide_eq_true_eq] at h3
  omega
 ·rw [if_neg e, hf] at h3
  simp only [Bool.and_eq_true, decide_eq_true_eq, Bool.not_false, Bool.true_or, Bool.and_true, Bool.not_eq_true', decide_eq_false_iff_not] at h3
  omega
theorem hol_uniq {i : Int} (h : (holL X i).length ≤ 1) {c d : Ob} (hc : c ∈ X) (hd : d ∈ X) (ic : i ∈ c.links) (jd : i ∈ d.links) : c = d := by
 unfold holL at h
 rw [List.length_map] at h
 have m1 : c ∈ X.filter (fun d => decide (i ∈ d.links)) := List.mem_filter.2 ⟨hc, by simpa using ic⟩
 have m2 : d ∈ X.filter (fun d => decide (i ∈ d.links)) := List.mem_filter.2 ⟨hd, by simpa using jd⟩
 generalize X.filter (fun d => decide (i ∈ d.links)) = l at h m1 m2
 cases l with
 | nil => cases m1
 | cons a r =>
  have hr : r = [] := List.eq_nil_of_length_eq_zero (by rw [List.length_cons] at h; omega)
  subst hr
  rw [List.mem_singleton.1 m1, List.mem_singleton.1 m2]
theorem lay_hol {d o : Ob} (hs : Srt X) (hlk : ∀ c ∈ X, ∀ l ∈ c.links, (fnd X l).isSome = true) (hne : o.id ≠ d.id) (ho : fnd X o.id = none) (hol : o.links = []) : holL (layY X d o) o.id = [d.id] := by
 have hs' : Srt (layY X d o) := q2z (q2z hs o) _
 have hm : ({ d with links := insW d.links o.id } : Ob) ∈ layY X d o := q3z.2 (.inl rfl)
 unfold holL
 rw [jez (x := { d with links := insW d.links o.id }) hs' hm]
 ·rfl
 ·intro y hy
  rw [decide_eq_true_iff]
  constructor
  ·intro q
   rcases q3z.1 hy with e | ⟨hy, hyd⟩
   ·exact e
   ·rcases q3z.1 hy with e | ⟨hy, hyo⟩
    ·rw [e, hol] at q; cases q
    ·have := hlk y hy _ q
     rw [ho] at this; cases this
  ·intro e
   rw [e]
   exact xcz.2 (.inl rfl)
theorem mov_use {x : Ob} {m : Int} (hs : Srt X) (hx : fnd X x.id = some x) (hnd : ∀ c ∈ X, c.links.Nodup) {c : Ob} (hc : c ∈ X) :
  (fnd (puR X { x with quota := x.quota + m }) c.id).isSome = true ∧ useV (puR X { x with quota := x.quota + m }) (fO (puR X { x with quota := x.quota + m }) c.id) = useV X c + (if x.id ∈ c.links then m else 0) := by
 have hcf : fnd X c.id = some c := (q6z hs).2 ⟨hc, rfl⟩
 have hq : ∀ l, qOf (puR X { x with quota := x.quota + m }) l = if l = x.id then qOf X l + m else qOf X l := by
  intro l
  by_cases e : l = x.id
  ·rw [if_pos e, e, jwz hx]
   exact jwz (x0z hs { x with quota := x.quota + m })
  ·rw [if_neg e]
   unfold qOf
   rw [wSz hs (o := { x with quota := x.quota + m }) e]
 have hu : ∀ (l : List Int), l.Nodup → (l.map (qOf (puR X { x with quota := x.quota + m }))).sum = (l.map (qOf X)).sum + (if x.id ∈ l then m else 0) := by
  intro l hl
  rw [List.map_congr_left (fun i _ => hq i)]
  exact u3z hl
 by_cases e : c.id = x.id
 ·have hcx : c = x := by rw [e, hx] at hcf; injection hcf with q; exact q.symm
  subst hcx
  have hf := x0z hs { c with quota := c.quota + m }
  replace hf : fnd (puR X { c with quota := c.quota + m }) c.id = some { c with quota := c.quota + m } := hf
  refine ⟨by rw [hf]; rfl, ?_⟩
  rw [x2z hf]
  unfold useV
  show pagO c + (c.links.map (qOf (puR X { c with quota := c.quota + m }))).sum = _
  rw [hu _ (hnd c hc)]; omega
 ·have hf : fnd (puR X { x with quota := x.quota + m }) c.id = some c := by rw [wSz hs (o := { x with quota := x.quota + m }) e]; exact hcf
  refine ⟨by rw [hf]; rfl, ?_⟩
  rw [x2z hf]
  unfold useV
  rw [hu _ (hnd c hc)]; omega
theorem xDz {ro : Int} (h : Tre X ro) : Lays X := by
 have hc := fun (x : Ob) (hx : x ∈ X) => qJz.1 (qnz.1 (h.snd x hx)).1
 refine ⟨h.srt, fun x hx => wJz (h.snd x hx), ?_, fun x hx => ⟨by have := (hc x hx).2.1; omega, (hc x hx).2.2.1⟩, fun x hx => ?_, fun x hx => ?_⟩
 ·rw [xKz]
  intro x hx e
  have h1 := (hc x hx).1
  rw [e] at h1
  exact absurd h1 (by decide)
 ·have := (qzz.1 (hc x hx).2.2.2.1).1
  omega
 ·by_cases k2 : x.kind = 2
  ·have ho := (qnz.1 (h.snd x hx)).2.1
   unfold ownB at ho
   rw [if_neg (by rw [k2]; decide), if_pos k2] at ho
   simp only [Bool.and_eq_true, decide_eq_true_eq] at ho
   refine ⟨?_, by omega⟩
   have h3 := ho.2.2
   unfold risB at h3
   exact of_decide_eq_true h3
  ·rw [wRz (h.snd x hx) k2]; exact ⟨List.Pairwise.nil, by decide⟩
structure Chd (X Y : List Ob) (i q : Int) : Prop where
 srt : Srt Y
 quo : ∀ x ∈ Y, 0 ≤ x.quota ∧ x.quota ≤ 4096
 sms : wez Y
 len : Y.length ≤ X.length + 2
 ch : ∀ c ∈ X, (fnd Y c.id).isSome = true ∧ useV Y (fO Y c.id) = useV X c + (if c.id = i then q else 0)
theorem g3z {d o : Ob} (hL : Lays X) (hlk : ∀ c ∈ X, ∀ l ∈ c.links, (fnd X l).isSome = true) (hd : fnd X d.id = some d) (hne : o.id ≠ d.id) (ho : fnd X o.id = none ∨ fnd X o.id = some o) (hq : 0 ≤ o.quota ∧ o.quota ≤ 4096) (hs : Small o) : Chd X (layY X d o) d.id o.quota := by
 have hdm := ((q6z hL.srt).1 hd).1
 have hds := hL.sms d hdm
 have hd' : Small { d with links := insW d.links o.id } := ⟨hds.c2, by show (insW d.links o.id).length < _; rw [g9z]; have := (hL.ris d hdm).2; omega, hds.c6, hds.c7, hds.c25, hds.c36, hds.c39, hds.c40, hds.c41, hds.c42, hds.c43, hds.c44, hds.c49, hds.c50⟩
 refine ⟨q2z (q2z hL.srt o) _, ?_, xkz (xkz hL.sms hs) hd', ?_, fun c hc => lay_use hL.srt hlk hd hne ho hc⟩
 ·intro x hx
  rcases q3z.1 hx with e | ⟨hx, _⟩
  ·rw [e]; exact hL.quo d hdm
  ·rcases q3z.1 hx with e | ⟨hx, _⟩
   ·rw [e]; exact hq
   ·exact hL.quo x hx
 ·have h1 := jxz X o
  have h2 := jxz (puR X o) { d with links := insW d.links o.id }
  exact Nat.le_trans h2 (by omega)
theorem xfz {i : Int} (h : (fnd X i).isSome = true) : (fO X i).id = i ∧ fO X i ∈ X ∧ fnd X i = some (fO X i) := by
 obtain ⟨x, hx⟩ := Option.isSome_iff_exists.1 h
 have := wsz hx
 rw [x2z hx]
 exact ⟨this.1, this.2, hx⟩
theorem jXz {i : Int} {o : Ob} (h : attE X i o = 0) : (fnd X i).isSome = true ∧ (fO X i).kind = 2 ∧ fnd X o.id = none ∧ attX X i o = layY X (fO X i) o := by
 unfold attE at h
 by_cases h1 : (fnd X i).isSome = false
 ·rw [if_pos h1] at h; omega
 ·rw [if_neg h1] at h
  by_cases h2 : (fO X i).kind ≠ 2
  ·rw [if_pos h2] at h; omega
  ·rw [if_neg h2] at h
   by_cases h3 : (fnd X o.id).isSome = true
   ·rw [if_pos h3] at h; omega
   ·rw [if_neg h3] at h
    refine ⟨eq_true_of_ne_false h1, Classical.not_not.1 h2, Option.not_isSome_iff_eq_none.1 h3, ?_⟩
    unfold attX
    rw [if_neg h1, if_neg h2, if_neg h3]
    unfold layX
    rw [if_pos h]
theorem att_chd {ro i : Int} {o : Ob} (hT : Tre X ro) (hs : qKz o = true) (hl : o.links = []) (h : attE X i o = 0) : Chd X (attX X i o) i o.quota ∧ holL (attX X i o) o.id = [i] := by
 obtain ⟨h1, h2, h3, h4⟩ := jXz h
 obtain ⟨e1, e2, e3⟩ := xfz h1
 have hlk := fun (c : Ob) (hc : c ∈ X) (l : Int) (hl : l ∈ c.links) => (hT.lnk c hc l hl).1
 have hne : o.id ≠ (fO X i).id := by rw [e1]; intro q; rw [q, e3] at h3; cases h3
 have hc := qJz.1 (qnz.1 hs).1
 have hd : fnd X (fO X i).id = some (fO X i) := by rw [e1]; exact e3
 have r := g3z (xDz hT) hlk hd hne (.inl h3) ⟨by have := hc.2.1; omega, hc.2.2.1⟩ (wJz hs)
 have r2 := lay_hol hT.srt hlk hne h3 hl
 rw [h4]
 rw [e1] at r r2
 exact ⟨r, r2⟩
theorem gXz {ro i j : Int} (hT : Tre X ro) (h : linE X i j = 0) : Chd X (linX X i j) i (fO X j).quota := by
 have hX : linX X i j = layX X (fO X i) (fO X j) ∧ ((fnd X i).isSome && (fnd X j).isSome) = true ∧ (decide ((fO X i).kind = 2) && !sngO (fO X j)) = true ∧ layE X (fO X i) (fO X j) = 0 := by
  unfold linE at h
  unfold linX
  by_cases h1 : ((fnd X i).isSome && (fnd X j).isSome) = false
  ·rw [if_pos h1] at h; omega
  ·rw [if_neg h1] at h ⊢
   by_cases h2 : (decide ((fO X i).kind = 2) && !sngO (fO X j)) = false
   ·rw [if_pos h2] at h; omega
   ·rw [if_neg h2] at h ⊢
    by_cases h3 : (fO X j).fixed = false
    ·rw [if_pos h3] at h; omega
    ·rw [if_neg h3] at h ⊢
     by_cases h4 : j ∈ (fO X i).links
     ·rw [if_pos h4] at h; omega
     ·rw [if_neg h4] at h ⊢
      exact ⟨rfl, eq_true_of_ne_false h1, eq_true_of_ne_false h2, h⟩
 obtain ⟨hX, h1, h2, h3⟩ := hX
 rw [Bool.and_eq_true] at h1 h2
 obtain ⟨e1, e2, e3⟩ := xfz h1.1
 obtain ⟨g1, g2, g3⟩ := xfz h1.2
 have hlk := fun (c : Ob) (hc : c ∈ X) (l : Int) (hl : l ∈ c.links) => (hT.lnk c hc l hl).1
 have hk2 : (fO X i).kind = 2 := of_decide_eq_true h2.1
 have hne : (fO X j).id ≠ (fO X i).id := by
  intro q
  rw [g1, e1] at q
  rw [q] at h2
  unfold sngO at h2
  rw [hk2] at h2
  exact absurd h2.2 (by decide)
 have hd : fnd X (fO X i).id = some (fO X i) := by rw [e1]; exact e3
 have hL := xDz hT
 have r := g3z hL hlk hd hne (.inr (by rw [g1]; exact g3)) (hL.quo _ g2) (hL.sms _ g2)
 rw [hX]
 unfold layX
 rw [if_pos h3]
 rw [e1] at r
 exact r
theorem gQz {t : Int} {key : Nat} {ro i j m : Int} (hF : fitD t key ro X = true) (h : movE X i j m = 0) : Chd X (movX X i j m) i m ∧ (fO (movX X i j m) j).quota = (fO X j).quota + m := by
 have hT := wNz hF
 have hL := xDz hT
 have hE := h
 have hz : ((fnd X i).isSome && (fnd X j).isSome) = true ∧ j ∈ (fO X i).links ∧ (fO X j).fixed = false ∧ 1 ≤ (fO X j).quota + m ∧ (fO X j).quota + m ≤ 4096 := by
  unfold movE at h
  by_cases h1 : ((fnd X i).isSome && (fnd X j).isSome) = false
  ·rw [if_pos h1] at h; omega
  ·rw [if_neg h1] at h
   by_cases h2 : ¬ j ∈ (fO X i).links
   ·rw [if_pos h2] at h; omega
   ·rw [if_neg h2] at h
    by_cases h3 : (fO X j).fixed = true
    ·rw [if_pos h3] at h; omega
    ·rw [if_neg h3] at h
     by_cases h4 : m < -4096 ∨ 4096 < m
     ·rw [if_pos h4] at h; omega
     ·rw [if_neg h4] at h
      by_cases h5 : xrz X (fO X i) < m ∨ ((fO X j).quota + m < useV X (fO X j) ∨ (fO X j).quota + m < 1) ∨ 4096 < (fO X j).quota + m
      ·rw [if_pos h5] at h; omega
      ·exact ⟨eq_true_of_ne_false h1, Classical.not_not.1 h2, eq_false_of_ne_true h3, by omega, by omega⟩
 obtain ⟨h1, h2, h3, h4, h5⟩ := hz
 rw [Bool.and_eq_true] at h1
 obtain ⟨e1, e2, e3⟩ := xfz h1.1
 obtain ⟨g1, g2, g3⟩ := xfz h1.2
 have hX : movX X i j m = puR X { fO X j with quota := (fO X j).quota + m } := by unfold movX; rw [if_pos hE]
 have hx : fnd X (fO X j).id = some (fO X j) := by rw [g1]; exact g3
 have hnd : ∀ c ∈ X, c.links.Nodup := fun c hc => ((hL.ris c hc).1.imp fun h => by omega)
 have hds := hL.sms _ g2
 have hone := hol_len hF g2 h3
 rw [hX]
 refine ⟨⟨q2z hL.srt _, ?_, xkz hL.sms ⟨hds.c2, hds.c5, hds.c6, hds.c7, hds.c25, hds.c36, hds.c39, hds.c40, hds.c41, hds.c42, hds.c43, hds.c44, hds.c49, hds.c50⟩, by have := jxz X { fO X j with quota := (fO X j).quota + m }; omega, ?_⟩, ?_⟩
 ·intro x hx
  rcases q3z.1 hx with e | ⟨hx, _⟩
  ·rw [e]; exact ⟨by show 0 ≤ (fO X j).quota + m; omega, h5⟩
  ·exact hL.quo x hx
 ·intro c hc
  have r := mov_use (m := m) hL.srt hx hnd hc
  refine ⟨r.1, r.2.trans ?_⟩
  congr 1
  by_cases q : c.id = i
  ·have hci : c = fO X i := by
    have := (q6z hL.srt).2 ⟨hc, q⟩
    rw [e3] at this; injection this with this; exact this.symm
   rw [if_pos q, if_pos (by rw [hci, g1]; exact h2)]
  ·rw [if_neg q, if_neg]
   intro hin
   have := hol_uniq hone hc e2 hin (by rw [g1]; exact h2)
   rw [this] at q
   exact q e1
 ·have hf := x0z hL.srt { fO X j with quota := (fO X j).quota + m }
  replace hf : fnd (puR X { fO X j with quota := (fO X j).quota + m }) (fO X j).id = some { fO X j with quota := (fO X j).quota + m } := hf
  rw [g1] at hf
  rw [x2z hf]
end
section
open Go.RowKit Go.Shelf
attribute [local go_sem] Oper.semAt_some
theorem add_any {S : World → Prop} {x y : Operand} {a b c : Int} (hw : IntKind.i64.wrap (a + b) = c) : Obl.holds prog S (.test .add 3 x y (.int .i64 a) (.int .i64 b) (.int .i64 c)) := fun w hS => by
 go_simp
end
section
open Go.RowKit Go.Shelf
def Wr (W : World) (V : Array Value) (t ke ro : Int) (X : List Ob) : Prop := ∃ ao n cap, V = #[.int .i64 t, .int .u64 ke, .int .u64 ro, .slice ao n cap] ∧ Obs W ao n cap X
section
variable {W W' : World} {V : Array Value} {t ke ro : Int} {X : List Ob}
theorem Wr.next (h : Wr W V t ke ro X) (k : Below W.heap.size W W') : Wr W' V t ke ro X := by
 obtain ⟨ao, n, cap, e, h⟩ := h
 exact ⟨ao, n, cap, e, qvz h k⟩
theorem Wr.size (h : Wr W V t ke ro X) : (prog.info? 25).map (·.size) = some V.size := by
 obtain ⟨ao, n, cap, rfl, _⟩ := h
 exact wnz
theorem Wr.old (h : Wr W V t ke ro X) : zW.size = V.size := by
 obtain ⟨ao, n, cap, rfl, _⟩ := h
 rfl
theorem Wr.one (h : Wr W V t ke ro X) : V.all (·.oneCell') = true := by
 obtain ⟨ao, n, cap, rfl, _⟩ := h
 kernel_rfl
theorem attach_r (h : Wr W V t ke ro X) (hL : Lays X) (hl : X.length < 1022) {Co : Array Value} {o : Ob} (ho : ObD (LtN W) W Co o) (hos : Small o) (hol : o.label.length < 1048576) {i : Int} :
  Calls prog 8 #[.agg V, .int .u64 i, .agg Co] W fun e w' => ∃ V', e = .returned (.tuple #[.agg V', .int .i64 (attE X i o)]) ∧ Wr w' V' t ke ro (attX X i o) ∧ Below W.heap.size W w' := by
 obtain ⟨ao, n, cap, rfl, h⟩ := h
 obtain ⟨Cf, hF⟩ := h.fam
 refine (jWz (D0 := LtN W) (fun _ hb => hb) hF hL (by rw [← h.1]; exact hl) ho hos hol).mono ?_
 rintro e w' ⟨a, m, c, rfl, hO, hk⟩
 exact ⟨_, rfl, ⟨a, m, c, rfl, yQz hO hk⟩, hk⟩
theorem link_r (h : Wr W V t ke ro X) (hL : Lays X) (hl : X.length < 1022) {i j : Int} :
  Calls prog 12 #[.agg V, .int .u64 i, .int .u64 j] W fun e w' => ∃ V', e = .returned (.tuple #[.agg V', .int .i64 (linE X i j)]) ∧ Wr w' V' t ke ro (linX X i j) ∧ Below W.heap.size W w' := by
 obtain ⟨ao, n, cap, rfl, h⟩ := h
 obtain ⟨Cf, hF⟩ := h.fam
 refine (link_v (D0 := LtN W) (fun _ hb => hb) hF hL (by rw [← h.1]; exact hl)).mono ?_
 rintro e w' ⟨a, m, c, rfl, hO, hk⟩
 exact ⟨_, rfl, ⟨a, m, c, rfl, yQz hO hk⟩, hk⟩
theorem gOz (h : Wr W V t ke ro X) (hL : Lays X) (hl : X.length < 1022) {i j m : Int} :
  Calls prog 14 #[.agg V, .int .u64 i, .int .u64 j, .int .i64 m] W fun e w' => ∃ V', e = .returned (.tuple #[.agg V', .int .i64 (movE X i j m)]) ∧ Wr w' V' t ke ro (movX X i j m) ∧ Below W.heap.size W w' := by
 obtain ⟨ao, n, cap, rfl, h⟩ := h
 obtain ⟨Cf, hF⟩ := h.fam
 refine (move_v (D0 := LtN W) (fun _ hb => hb) hF hL (by rw [← h.1]; exact hl)).mono ?_
 rintro e w' ⟨a, m, c, rfl, hO, hk⟩
 exact ⟨_, rfl, ⟨a, m, c, rfl, yQz hO hk⟩, hk⟩
theorem vAz (h : Wr W V t ke ro X) (hl : X.length ≤ 4096) {i : Int} : Calls prog 15 #[.agg V, .int .u64 i] W fun e w' => ∃ ao cap, e = .returned (.slice ao (holL X i).length cap) ∧ CtD (LtN w') w' ao (holL X i).length cap (holL X i) ∧ Below W.heap.size W w' := by
 obtain ⟨ao, n, cap, rfl, h⟩ := h
 refine (bdz h (by rw [← h.1]; exact hl)).mono ?_
 rintro e w' ⟨v, rfl, ho, hk⟩
 obtain ⟨a, c, rfl, hr⟩ := RowC.of_owns ho
 exact ⟨a, c, rfl, hr.ct.wide fun b hb => hb.2, hk⟩
theorem rfind_r (h : Wr W V t ke ro X) {i : Int} : Calls prog 9 #[.agg V, .int .u64 i] W fun e w' => ∃ C', e = .returned (.tuple #[.agg C', .bool (fnd X i).isSome]) ∧ ObD (LtN w') w' C' (fO X i) ∧ Below W.heap.size W w' := by
 obtain ⟨ao, n, cap, rfl, h⟩ := h
 exact rfind_u h
end
variable {X : List Ob}
theorem fix_r {W : World} {V : Array Value} {t ke ro : Int} (h : Wr W V t ke ro X) (hL : Lays X) (hl : X.length < 1022) {i : Int} :
  Calls prog 13 #[.agg V, .int .u64 i] W fun e w' => ∃ V', e = .returned (.tuple #[.agg V', .int .i64 (fixE X i)]) ∧ Wr w' V' t ke ro (fixX X i) ∧ Below W.heap.size W w' := by
 obtain ⟨ao, n, cap, rfl, h⟩ := h
 obtain ⟨Cf, hF⟩ := h.fam
 refine (fix_v (D0 := LtN W) (fun _ hb => hb) hF hL (by rw [← h.1]; exact hl)).mono ?_
 rintro e w' ⟨a, m, c, rfl, hO, hk⟩
 exact ⟨_, rfl, ⟨a, m, c, rfl, yQz hO hk⟩, hk⟩
theorem att_err {i : Int} {o : Ob} (h : attE X i o ≠ 0) : attX X i o = X := by
 unfold attE at h
 unfold attX
 by_cases h1 : (fnd X i).isSome = false
 ·rw [if_pos h1]
 ·rw [if_neg h1] at h ⊢
  by_cases h2 : (fO X i).kind ≠ 2
  ·rw [if_pos h2]
  ·rw [if_neg h2] at h ⊢
   by_cases h3 : (fnd X o.id).isSome = true
   ·rw [if_pos h3]
   ·rw [if_neg h3] at h ⊢
    unfold layX
    rw [if_neg h]
theorem lin_err {i j : Int} (h : linE X i j ≠ 0) : linX X i j = X := by
 unfold linE at h
 unfold linX
 by_cases h1 : ((fnd X i).isSome && (fnd X j).isSome) = false
 ·rw [if_pos h1]
 ·rw [if_neg h1] at h ⊢
  by_cases h2 : (decide ((fO X i).kind = 2) && !sngO (fO X j)) = false
  ·rw [if_pos h2]
  ·rw [if_neg h2] at h ⊢
   by_cases h3 : (fO X j).fixed = false
   ·rw [if_pos h3]
   ·rw [if_neg h3] at h ⊢
    by_cases h4 : j ∈ (fO X i).links
    ·rw [if_pos h4]
    ·rw [if_neg h4] at h ⊢
     unfold layX
     rw [if_neg h]
theorem fix_err {i : Int} (h : fixE X i ≠ 0) : fixX X i = X := by
 unfold fixE at h
 unfold fixX
 by_cases h1 : (fnd X i).isSome = false
 ·rw [if_pos h1]
 ·rw [if_neg h1] at h ⊢
  by_cases h2 : sngO (fO X i) = true
  ·rw [if_pos h2]
  ·rw [if_neg h2] at h; exact absurd rfl h
theorem mov_err {i j m : Int} (h : movE X i j m ≠ 0) : movX X i j m = X := by unfold movX; rw [if_neg h]
end
end Go.Proofs.YthnpckhmdnjikaaGreat
