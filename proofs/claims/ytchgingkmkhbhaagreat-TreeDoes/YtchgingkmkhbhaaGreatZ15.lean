/-
 PROVED HERE: what the. What is asked stands at each.
-/
import Derived.Test.YtchgingkmkhbhaaGreatZ6
import Derived.Test.YtchgingkmkhbhaaGreatZ13
import Derived.Test.YtchgingkmkhbhaaGreatZ14
namespace Go.Proofs.YtchgingkmkhbhaaGreat
set_option maxRecDepth 100000
set_option maxHeartbeats 8000000
set_option linter.unusedVariables false
open Go.Proofs.Tryz
section
open Go.RowKit Go.Shelf
attribute [local go_sem] Oper.semAt_some
theorem rHas_any {k a b m : Nat} (hm : m < 18446744073709551616) (w : World) :
  Calls prog 50 #[.int .u64 (k : Int), .agg #[.int .u64 (a : Int), .int .u64 (b : Int)], .int .u64 (m : Int)] w fun e w' => e = .returned (.bool (SrM.hasK k a b m)) ∧ Below w.heap.size w w' := by
 have hn := fun w => SrM.rnum_any (key := k) hm w
 have hr : Hid (SrM.hasK k a b m = ((decide (1 ≤ m) && decide (m ≤ 2305843009213693952)) && (decide (a ≤ Pm.numN k m) && decide (Pm.numN k m < b)))) := rfl
 rw [hr.out]
 generalize Pm.numN k m = y at hn ⊢
 have d0 : (#[.int .u64 (a : Int), .int .u64 (b : Int)] : Array Value)[0]? = some (.int .u64 (a : Int)) := rfl
 have d1 : (#[.int .u64 (a : Int), .int .u64 (b : Int)] : Array Value)[1]? = some (.int .u64 (b : Int)) := rfl
 generalize (#[.int .u64 (a : Int), .int .u64 (b : Int)] : Array Value) = G at d0 d1 ⊢
 go_enter func50, ntmps50
 go_wp2_with (first
  | (with_reducible refine qcz rfl 36 _ rfl G rfl ?_; intro B2 W2 hN2 hB2 hk; replace d0 := (hB2.cell 0).trans d0; replace d1 := (hB2.cell 1).trans d1)
  | (go_at_call 84; (with_reducible refine (hn _).mono ?_); rintro e w1 ⟨rfl, rfl⟩)
  | ((with_reducible refine qgz (by with_unfolding_all rfl) .geq _ _ _ _ rfl (.int .u64 (m : Int)) _ rfl rfl (wuz _ _ _ _ _ _) ?_ ?_) <;> intro hq1)
  | ((with_reducible refine qgz (by with_unfolding_all rfl) .leq _ _ _ _ rfl (.int .u64 (m : Int)) _ rfl rfl (wfz _ _ _ _ _ _) ?_ ?_) <;> intro hq2)
  | ((with_reducible refine qgz (by with_unfolding_all rfl) .geq _ _ _ _ rfl (.int .u64 (y : Int)) _ rfl rfl (wuz _ _ _ _ _ _) ?_ ?_) <;> intro hq3)
  | ((with_reducible refine qgz (by with_unfolding_all rfl) .lss _ _ _ _ rfl (.int .u64 (y : Int)) _ rfl rfl (wez _ _ _ _ _ _) ?_ ?_) <;> intro hq4))
 all_goals
  go_ret
  refine ⟨congrArg (fun z => Ending.returned (.bool z)) ?_, hk⟩
  clear hr
  simp only [Hid] at *
  first
   | (refine Eq.symm ?_; simp only [Bool.and_eq_true, decide_eq_true_eq]; omega)
   | (refine Eq.symm ?_; rw [Bool.eq_false_iff]; simp only [ne_eq, Bool.and_eq_true, decide_eq_true_eq]; omega)
theorem y5z (a b c d : Nat) (w : World) :
  Calls prog 51 #[.agg #[.int .u64 (a : Int), .int .u64 (b : Int)], .agg #[.int .u64 (c : Int), .int .u64 (d : Int)]] w fun e w' => e = .returned (.bool (rapB a b c d)) ∧ Below w.heap.size w w' := by
 have hr : Hid (rapB a b c d = (decide (a = b) || (decide (c = d) || (decide (b ≤ c) || decide (d ≤ a))))) := rfl
 rw [hr.out]
 have d0 : (#[.int .u64 (a : Int), .int .u64 (b : Int)] : Array Value)[0]? = some (.int .u64 (a : Int)) := rfl
 have d1 : (#[.int .u64 (a : Int), .int .u64 (b : Int)] : Array Value)[1]? = some (.int .u64 (b : Int)) := rfl
 have e0 : (#[.int .u64 (c : Int), .int .u64 (d : Int)] : Array Value)[0]? = some (.int .u64 (c : Int)) := rfl
 have e1 : (#[.int .u64 (c : Int), .int .u64 (d : Int)] : Array Value)[1]? = some (.int .u64 (d : Int)) := rfl
 generalize (#[.int .u64 (a : Int), .int .u64 (b : Int)] : Array Value) = G at d0 d1 ⊢
 generalize (#[.int .u64 (c : Int), .int .u64 (d : Int)] : Array Value) = H at e0 e1 ⊢
 go_enter func51, ntmps51
 go_wp2_with (first
  | (with_reducible refine qcz rfl 36 _ rfl G rfl ?_; intro B2 W2 hN2 hB2 hk)
  | (with_reducible refine qcz rfl 36 _ rfl H rfl ?_; intro B3 W3 hN3 hB3 hk3; replace hB2 := hB2.next hk3; replace hk := btz hk hk3; replace d0 := (hB2.cell 0).trans d0; replace d1 := (hB2.cell 1).trans d1; replace e0 := (hB3.cell 0).trans e0; replace e1 := (hB3.cell 1).trans e1)
  | ((with_reducible refine qgz (by with_unfolding_all rfl) .eql _ _ _ _ rfl (.int .u64 (a : Int)) _ rfl rfl (quz _ _ _ _ _ _) ?_ ?_) <;> intro hq1)
  | ((with_reducible refine qgz (by with_unfolding_all rfl) .eql _ _ _ _ rfl (.int .u64 (c : Int)) _ rfl rfl (quz _ _ _ _ _ _) ?_ ?_) <;> intro hq2)
  | ((with_reducible refine qgz (by with_unfolding_all rfl) .leq _ _ _ _ rfl (.int .u64 (b : Int)) _ rfl rfl (wfz _ _ _ _ _ _) ?_ ?_) <;> intro hq3)
  | ((with_reducible refine qgz (by with_unfolding_all rfl) .leq _ _ _ _ rfl (.int .u64 (d : Int)) _ rfl rfl (wfz _ _ _ _ _ _) ?_ ?_) <;> intro hq4))
 all_goals
  go_ret
  refine ⟨congrArg (fun z => Ending.returned (.bool z)) ?_, hk⟩
  clear hr
  simp only [Hid] at *
  first
   | (refine Eq.symm ?_; simp only [Bool.or_eq_true, decide_eq_true_eq]; omega)
   | (refine Eq.symm ?_; rw [Bool.eq_false_iff]; simp only [ne_eq, Bool.or_eq_true, decide_eq_true_eq]; omega)
variable {X : List Ob} {key : Nat}
theorem uFz : spaB key X = true ↔ ∀ i, i < X.length → (oat X i).kind = 4 → ∀ k, k < X.length → rowB key X i k = true := by
 unfold spaB
 rw [List.all_eq_true]
 refine forall_congr' fun i => ?_
 rw [List.mem_range]
 refine imp_congr_right fun _ => ?_
 by_cases h : (oat X i).kind = 4
 ·rw [decide_eq_true h, Bool.not_true, Bool.false_or, List.all_eq_true]
  simp only [List.mem_range]
  exact ⟨fun q _ => q, fun q => q h⟩
 ·rw [decide_eq_false h]
  exact ⟨fun _ q => absurd q h, fun _ => rfl⟩
theorem vGz {key n i : Nat} (h : ∀ j, j < i → (oat X j).kind = 4 → ∀ m, m < n → rowB key X j m = true) (h1 : (oat X i).kind = 4 → ∀ m, m < n → rowB key X i m = true) : ∀ j, j < i + 1 → (oat X j).kind = 4 → ∀ m, m < n → rowB key X j m = true := by
 intro j hj
 rcases Nat.lt_or_ge j i with c | c
 ·exact h j c
 ·obtain rfl : j = i := by omega
  exact h1
variable {ao : Option Addr} {n cap : Nat} {w : World}
theorem rspans_w {t ro : Int} (h : Obs w ao n cap X) (hw : ∀ x ∈ X, WdO x) : Calls prog 21 #[.agg #[.int .i64 t, .int .u64 (key : Int), .int .u64 ro, .slice ao n cap]] w fun e w' => e = .returned (.bool (spaB key X)) ∧ Below w.heap.size w w' := by
 have hn : Hid (X.length = n) := h.1
 have hnc := h.2.1
 have hcm := h.2.2.1.1
 have ga1 := isAgg22
 have ga3 := isAgg23
 have gai := isAgg3
 have c1 : (#[.int .i64 t, .int .u64 (key : Int), .int .u64 ro, .slice ao n cap] : Array Value)[1]? = some (.int .u64 (key : Int)) := rfl
 have c3 : (#[.int .i64 t, .int .u64 (key : Int), .int .u64 ro, .slice ao n cap] : Array Value)[3]? = some (.slice ao n cap) := rfl
 have hyes : Hid ((∀ i, i < n → (oat X i).kind = 4 → ∀ k, k < n → rowB key X i k = true) → spaB key X = true) := by
  refine (?_ : (∀ i, i < n → (oat X i).kind = 4 → ∀ k, k < n → rowB key X i k = true) → spaB key X = true)
  intro q
  rw [uFz, hn.out]
  exact q
 have hno : Hid (∀ i k, i < n → k < n → (oat X i).kind = 4 → rowB key X i k = false → spaB key X = false) := by
  refine (?_ : ∀ i k, i < n → k < n → (oat X i).kind = 4 → rowB key X i k = false → spaB key X = false)
  intro i k hi hk h4 q
  rw [Bool.eq_false_iff]
  intro e
  rw [uFz, hn.out] at e
  have := e i hi h4 k hk
  rw [q] at this
  cases this
 have hwd : Hid (∀ i, i < n → WdO (oat X i)) := fun i hi => hw _ (wbz (by rw [hn.out]; exact hi))
 generalize spaB key X = res at hyes hno ⊢
 obtain ⟨G, hG⟩ : ∃ G : Array Value, G = #[.int .i64 t, .int .u64 (key : Int), .int .u64 ro, .slice ao n cap] := ⟨_, rfl⟩
 rw [← hG] at c1 c3
 rw [← hG]
 clear hG
 go_enter func21, ntmps21
 go_wp2_with (first
  | (with_reducible refine qcz rfl 25 _ rfl G rfl ?_; intro B W2 hN2 hB hk))
 clear hN2
 go_loopw [3] (fun j wr => ∃ k : Nat, k ≤ n ∧ j = .int .i64 k ∧ Hid (∀ i, i < k → (oat X i).kind = 4 → ∀ m, m < n → rowB key X i m = true) ∧ Blk wr B G 25 ∧ Below w.heap.size w wr) (fun j _ => n - (intOf j).toNat)
 case atStart => exact ⟨0, Nat.zero_le _, rfl, fun i hi => absurd hi (by omega), hB, hk⟩
 case round =>
  clear hB hk
  obtain ⟨i, hin, rfl, hal, hB, hk⟩ := hrel
  by_cases hkn : i < n
  ·obtain ⟨b, off, C, rfl, hbb, hC, hr⟩ := wHz (qqz h hk) hkn
   have hkn' : (i : Int) < n := by omega
   have hz := hC.size
   have h1c := hC.one
   have k1 := hC.kind
   have hwi := hwd.out i hkn
   have el : ((oat X i).th.lo.toNat : Int) = (oat X i).th.lo := Int.toNat_of_nonneg hwi.2.1.1
   have eh : ((oat X i).th.hi.toNat : Int) = (oat X i).th.hi := Int.toNat_of_nonneg hwi.2.2.1
   have hV : C.extract 37 (37 + 2) = #[.int .u64 ((oat X i).th.lo.toNat : Int), .int .u64 ((oat X i).th.hi.toNat : Int)] := by rw [el, eh]; exact ext2 hC.th.lo hC.th.hi
   go_wp2_with (first
    | (with_reducible refine qaz (by kernel_rfl) _ _ rfl B _ rfl _ _ hB _ c3 ga3 ?_)
    | (with_reducible refine qGz (by kernel_rfl) 43 _ rfl b _ rfl C hr _ underlying43 (by kernel_rfl) (qez hz) ?_)
    | ((with_reducible refine qfz rfl _ rfl zC qzz ?_); intro R W3 hB3 hR3 hk3)
    | ((with_reducible refine qbz rfl _ _ _ rfl R rfl C rfl zC hR3 (qez hz) (qoz.trans hz.symm) h1c ?_); intro W4 hR4 o4; have k4 := o4.below wr.heap.size wr (by have := hB3.out.1; omega) hk3; replace hB := hB.next k4; replace hk := btz hk k4))
   have hal2 : Hid ((oat X i).kind = 4 → ∀ q, q < 0 → rowB key X i q = true) := fun _ q hq => absurd hq (by omega)
   go_loopw [5] (fun j wr => ∃ k : Nat, k ≤ n ∧ j = .int .i64 k ∧ Hid ((oat X i).kind = 4 → ∀ q, q < k → rowB key X i q = true) ∧ Blk wr B G 25 ∧ Blk wr R C 43 ∧ Below w.heap.size w wr) (fun j _ => n - (intOf j).toNat)
   case atStart => exact ⟨0, Nat.zero_le _, rfl, hal2, hB, hR4, hk⟩
   case round =>
    rename_i wq _
    clear hB hk hR4 k4 hal2
    obtain ⟨m, hmn1, rfl, hrw, hB, hR4, hk⟩ := hrel
    by_cases h4 : (oat X i).kind = 4
    ·have h4b : ((oat X i).kind == 4) = true := by simpa using h4
     by_cases hmn : m < n
     ·obtain ⟨b2, off2, C2, e2, hbb2, hC2, hr2⟩ := wHz (qqz h hk) hmn
      cases e2
      have hmn' : (m : Int) < n := by omega
      have hz2 := hC2.size
      have h1c2 := hC2.one
      have k2 := hC2.kind
      have i2 := hC2.id
      have hwm := hwd.out m hmn
      have el2 : ((oat X m).th.lo.toNat : Int) = (oat X m).th.lo := Int.toNat_of_nonneg hwm.2.1.1
      have eh2 : ((oat X m).th.hi.toNat : Int) = (oat X m).th.hi := Int.toNat_of_nonneg hwm.2.2.1
      have ei2 : ((oat X m).id.toNat : Int) = (oat X m).id := Int.toNat_of_nonneg hwm.1.1
      have hV2 : C2.extract 37 (37 + 2) = #[.int .u64 ((oat X m).th.lo.toNat : Int), .int .u64 ((oat X m).th.hi.toNat : Int)] := by rw [el2, eh2]; exact ext2 hC2.th.lo hC2.th.hi
      rw [← ei2] at i2
      have hid64 : (oat X m).id.toNat < 18446744073709551616 := by have := hwm.1.2; omega
      have hrow : Hid (rowB key X i m = !(SrM.hasK key (oat X i).th.lo.toNat (oat X i).th.hi.toNat (oat X m).id.toNat || (decide ((oat X m).kind = 4) && (decide (m ≠ i) && !rapB (oat X i).th.lo.toNat (oat X i).th.hi.toNat (oat X m).th.lo.toNat (oat X m).th.hi.toNat)))) := rfl
      have hhas := fun W => rHas_any (k := key) (a := (oat X i).th.lo.toNat) (b := (oat X i).th.hi.toNat) hid64 W
      have hap := fun W => y5z (oat X i).th.lo.toNat (oat X i).th.hi.toNat (oat X m).th.lo.toNat (oat X m).th.hi.toNat W
      clear hwm el2 eh2 ei2 hid64 hwi el eh hC hC2 hr hbb2
      generalize SrM.hasK key (oat X i).th.lo.toNat (oat X i).th.hi.toNat (oat X m).id.toNat = hb0 at hhas hrow
      generalize rapB (oat X i).th.lo.toNat (oat X i).th.hi.toNat (oat X m).th.lo.toNat (oat X m).th.hi.toNat = ap0 at hap hrow
      generalize (oat X i).th.lo.toNat = lo at hV hhas hap
      generalize (oat X i).th.hi.toNat = hi at hV hhas hap
      generalize (oat X m).th.lo.toNat = lo2 at hV2 hap
      generalize (oat X m).th.hi.toNat = hi2 at hV2 hap
      generalize (oat X m).id.toNat = id2 at i2 hhas
      generalize (oat X m).kind = kd2 at k2 hrow
      have hnx : Hid (rowB key X i m = true → (oat X i).kind = 4 → ∀ q, q < m + 1 → rowB key X i q = true) := by
       refine (?_ : rowB key X i m = true → (oat X i).kind = 4 → ∀ q, q < m + 1 → rowB key X i q = true)
       intro e q4 q hq
       rcases Nat.lt_or_ge q m with c | c
       ·exact hrw.out q4 q c
       ·obtain rfl : q = m := by omega
        exact e
      cases hb0 with
      | true =>
       go_wp2_with (first
        | (with_reducible refine qaz (by kernel_rfl) _ _ rfl B _ rfl _ _ hB _ c3 ga3 ?_)
        | (with_reducible refine qaz (by kernel_rfl) _ _ rfl R _ rfl _ _ hR4 _ k1 gai ?_)
        | (with_reducible refine qGz (by kernel_rfl) 43 _ rfl b _ rfl C2 hr2 _ underlying43 (by kernel_rfl) (qez hz2) ?_)
        | ((with_reducible refine qfz rfl _ rfl zC qzz ?_); intro R2 W5 hN5 hR5 hk5)
        | ((with_reducible refine qbz rfl _ _ _ rfl R2 rfl C2 rfl zC hR5 (qez hz2) (qoz.trans hz2.symm) h1c2 ?_); intro W6 hR6 o6; have k6 := o6.below wr.heap.size wr (by have := hN5.out.1; omega) hk5; replace hB := hB.next k6; replace hR4 := hR4.next k6; replace hk := btz hk k6; clear hN5 hR5 hk5 o6 k6)
        | (with_reducible refine qaz (by kernel_rfl) _ _ rfl B _ rfl _ _ hB _ c1 ga1 ?_)
        | (with_reducible refine qaz (by kernel_rfl) _ _ rfl R2 _ rfl _ _ hR6 _ i2 ga1 ?_)
        | (with_reducible refine qaz (by kernel_rfl) _ _ rfl R2 _ rfl _ _ hR6 _ k2 gai ?_)
        | (with_reducible refine qpz (by kernel_rfl) _ _ rfl R 37 rfl 2 C _ hR4 #[.int .u64 (lo : Int), .int .u64 (hi : Int)] hV (by omega) _ underlying36 (by kernel_rfl) (by kernel_rfl) ?_)
        | (with_reducible refine qpz (by kernel_rfl) _ _ rfl R2 37 rfl 2 C2 _ hR6 #[.int .u64 (lo2 : Int), .int .u64 (hi2 : Int)] hV2 (by omega) _ underlying36 (by kernel_rfl) (by kernel_rfl) ?_)
        | (go_at_call 50; (with_reducible refine (hhas _).mono ?_); rintro e w7 ⟨rfl, hb7⟩; replace hB := hB.next hb7; replace hR4 := hR4.next hb7; replace hR6 := hR6.next hb7; replace hk := btz hk hb7; clear hb7)
        | (go_at_call 51; (with_reducible refine (hap _).mono ?_); rintro e w8 ⟨rfl, hb8⟩; replace hB := hB.next hb8; replace hR4 := hR4.next hb8; replace hR6 := hR6.next hb8; replace hk := btz hk hb8; clear hb8)
        | ((with_reducible refine qgz (by kernel_rfl) .eql 3 _ _ _ rfl (.int .i64 kd2) (.int .i64 4) rfl rfl (quz _ _ _ _ _ _) ?_ ?_) <;> intro hq2)
        | ((with_reducible refine qgz (by kernel_rfl) .neq 3 _ _ _ rfl (.int .i64 (m : Int)) (.int .i64 (i : Int)) rfl rfl (q2z _ _ _ _ _ _) ?_ ?_) <;> intro hq3))
       go_ret
       exact ⟨by rw [hno.out i m hkn hmn h4 (by rw [hrow.out]; rfl)]; rfl, hk⟩
      | false =>
       cases ap0 with
       | true =>
        go_wp2_with (first
         | (with_reducible refine qaz (by kernel_rfl) _ _ rfl B _ rfl _ _ hB _ c3 ga3 ?_)
         | (with_reducible refine qaz (by kernel_rfl) _ _ rfl R _ rfl _ _ hR4 _ k1 gai ?_)
         | (with_reducible refine qGz (by kernel_rfl) 43 _ rfl b _ rfl C2 hr2 _ underlying43 (by kernel_rfl) (qez hz2) ?_)
         | ((with_reducible refine qfz rfl _ rfl zC qzz ?_); intro R2 W5 hN5 hR5 hk5)
         | ((with_reducible refine qbz rfl _ _ _ rfl R2 rfl C2 rfl zC hR5 (qez hz2) (qoz.trans hz2.symm) h1c2 ?_); intro W6 hR6 o6; have k6 := o6.below wr.heap.size wr (by have := hN5.out.1; omega) hk5; replace hB := hB.next k6; replace hR4 := hR4.next k6; replace hk := btz hk k6; clear hN5 hR5 hk5 o6 k6)
         | (with_reducible refine qaz (by kernel_rfl) _ _ rfl B _ rfl _ _ hB _ c1 ga1 ?_)
         | (with_reducible refine qaz (by kernel_rfl) _ _ rfl R2 _ rfl _ _ hR6 _ i2 ga1 ?_)
         | (with_reducible refine qaz (by kernel_rfl) _ _ rfl R2 _ rfl _ _ hR6 _ k2 gai ?_)
         | (with_reducible refine qpz (by kernel_rfl) _ _ rfl R 37 rfl 2 C _ hR4 #[.int .u64 (lo : Int), .int .u64 (hi : Int)] hV (by omega) _ underlying36 (by kernel_rfl) (by kernel_rfl) ?_)
         | (with_reducible refine qpz (by kernel_rfl) _ _ rfl R2 37 rfl 2 C2 _ hR6 #[.int .u64 (lo2 : Int), .int .u64 (hi2 : Int)] hV2 (by omega) _ underlying36 (by kernel_rfl) (by kernel_rfl) ?_)
         | (go_at_call 50; (with_reducible refine (hhas _).mono ?_); rintro e w7 ⟨rfl, hb7⟩; replace hB := hB.next hb7; replace hR4 := hR4.next hb7; replace hR6 := hR6.next hb7; replace hk := btz hk hb7; clear hb7)
         | (go_at_call 51; (with_reducible refine (hap _).mono ?_); rintro e w8 ⟨rfl, hb8⟩; replace hB := hB.next hb8; replace hR4 := hR4.next hb8; replace hR6 := hR6.next hb8; replace hk := btz hk hb8; clear hb8)
         | ((with_reducible refine qgz (by kernel_rfl) .eql 3 _ _ _ rfl (.int .i64 kd2) (.int .i64 4) rfl rfl (quz _ _ _ _ _ _) ?_ ?_) <;> intro hq2)
         | ((with_reducible refine qgz (by kernel_rfl) .neq 3 _ _ _ rfl (.int .i64 (m : Int)) (.int .i64 (i : Int)) rfl rfl (q2z _ _ _ _ _ _) ?_ ?_) <;> intro hq3))
        all_goals
         go_roundw
         case rel => exact ⟨m + 1, by omega, by go_num, hnx.out (by rw [hrow.out]; simp), hB, hR4, hk⟩
         case measure => simp [intOf]; omega
       | false =>
        go_wp2_with (first
         | (with_reducible refine qaz (by kernel_rfl) _ _ rfl B _ rfl _ _ hB _ c3 ga3 ?_)
         | (with_reducible refine qaz (by kernel_rfl) _ _ rfl R _ rfl _ _ hR4 _ k1 gai ?_)
         | (with_reducible refine qGz (by kernel_rfl) 43 _ rfl b _ rfl C2 hr2 _ underlying43 (by kernel_rfl) (qez hz2) ?_)
         | ((with_reducible refine qfz rfl _ rfl zC qzz ?_); intro R2 W5 hN5 hR5 hk5)
         | ((with_reducible refine qbz rfl _ _ _ rfl R2 rfl C2 rfl zC hR5 (qez hz2) (qoz.trans hz2.symm) h1c2 ?_); intro W6 hR6 o6; have k6 := o6.below wr.heap.size wr (by have := hN5.out.1; omega) hk5; replace hB := hB.next k6; replace hR4 := hR4.next k6; replace hk := btz hk k6; clear hN5 hR5 hk5 o6 k6)
         | (with_reducible refine qaz (by kernel_rfl) _ _ rfl B _ rfl _ _ hB _ c1 ga1 ?_)
         | (with_reducible refine qaz (by kernel_rfl) _ _ rfl R2 _ rfl _ _ hR6 _ i2 ga1 ?_)
         | (with_reducible refine qaz (by kernel_rfl) _ _ rfl R2 _ rfl _ _ hR6 _ k2 gai ?_)
         | (with_reducible refine qpz (by kernel_rfl) _ _ rfl R 37 rfl 2 C _ hR4 #[.int .u64 (lo : Int), .int .u64 (hi : Int)] hV (by omega) _ underlying36 (by kernel_rfl) (by kernel_rfl) ?_)
         | (with_reducible refine qpz (by kernel_rfl) _ _ rfl R2 37 rfl 2 C2 _ hR6 #[.int .u64 (lo2 : Int), .int .u64 (hi2 : Int)] hV2 (by omega) _ underlying36 (by kernel_rfl) (by kernel_rfl) ?_)
         | (go_at_call 50; (with_reducible refine (hhas _).mono ?_); rintro e w7 ⟨rfl, hb7⟩; replace hB := hB.next hb7; replace hR4 := hR4.next hb7; replace hR6 := hR6.next hb7; replace hk := btz hk hb7; clear hb7)
         | (go_at_call 51; (with_reducible refine (hap _).mono ?_); rintro e w8 ⟨rfl, hb8⟩; replace hB := hB.next hb8; replace hR4 := hR4.next hb8; replace hR6 := hR6.next hb8; replace hk := btz hk hb8; clear hb8)
         | ((with_reducible refine qgz (by kernel_rfl) .eql 3 _ _ _ rfl (.int .i64 kd2) (.int .i64 4) rfl rfl (quz _ _ _ _ _ _) ?_ ?_) <;> intro hq2)
         | ((with_reducible refine qgz (by kernel_rfl) .neq 3 _ _ _ rfl (.int .i64 (m : Int)) (.int .i64 (i : Int)) rfl rfl (q2z _ _ _ _ _ _) ?_ ?_) <;> intro hq3))
        ·go_ret
         exact ⟨by rw [hno.out i m hkn hmn h4 (by rw [hrow.out, decide_eq_true hq2.out, decide_eq_true (show m ≠ i by have := hq3.out; omega)]; rfl)]; rfl, hk⟩
        ·go_roundw
         case rel => exact ⟨m + 1, by omega, by go_num, hnx.out (by rw [hrow.out, decide_eq_false (show ¬ m ≠ i by have := hq3.out; omega)]; simp), hB, hR4, hk⟩
         case measure => simp [intOf]; omega
        ·go_roundw
         case rel => exact ⟨m + 1, by omega, by go_num, hnx.out (by rw [hrow.out, decide_eq_false hq2.out]; simp), hB, hR4, hk⟩
         case measure => simp [intOf]; omega
     ·obtain rfl : m = n := by omega
      go_wp2_with (first
       | (with_reducible refine qaz (by kernel_rfl) _ _ rfl B _ rfl _ _ hB _ c3 ga3 ?_)
       | (with_reducible refine qaz (by kernel_rfl) _ _ rfl R _ rfl _ _ hR4 _ k1 gai ?_))
      go_roundw
      case rel => exact ⟨i + 1, by omega, by go_num, vGz hal.out hrw.out, hB, hk⟩
      case measure => simp [intOf]; omega
    ·have h4b : ((oat X i).kind == 4) = false := by simpa using h4
     by_cases hmn : m < n
     ·have hmn' : (m : Int) < n := by omega
      go_wp2_with (first
       | (with_reducible refine qaz (by kernel_rfl) _ _ rfl B _ rfl _ _ hB _ c3 ga3 ?_)
       | (with_reducible refine qaz (by kernel_rfl) _ _ rfl R _ rfl _ _ hR4 _ k1 gai ?_))
      go_roundw
      case rel => exact ⟨i + 1, by omega, by go_num, vGz hal.out (fun q => absurd q h4), hB, hk⟩
      case measure => simp [intOf]; omega
     ·obtain rfl : m = n := by omega
      go_wp2_with (first
       | (with_reducible refine qaz (by kernel_rfl) _ _ rfl B _ rfl _ _ hB _ c3 ga3 ?_)
       | (with_reducible refine qaz (by kernel_rfl) _ _ rfl R _ rfl _ _ hR4 _ k1 gai ?_))
      go_roundw
      case rel => exact ⟨i + 1, by omega, by go_num, vGz hal.out (fun q => absurd q h4), hB, hk⟩
      case measure => simp [intOf]; omega
  ·obtain rfl : i = n := by omega
   go_wp2_with (first
    | (with_reducible refine qaz (by kernel_rfl) _ _ rfl B _ rfl _ _ hB _ c3 ga3 ?_))
   go_ret
   exact ⟨by rw [hyes.out hal.out]; rfl, hk⟩
theorem uVz {t ke ro : Int} {C : Array Value} {o : Ob} (h : Obs w ao n cap X) (hn16 : n ≤ 4096) (ho : ObD (LtN w) w C o) : Calls prog 20 #[.agg #[.int .i64 t, .int .u64 ke, .int .u64 ro, .slice ao n cap], .agg C] w fun e w' => e = .returned (.bool (plaB X ro o)) ∧ Below w.heap.size w w' := by
 have g2 : (#[.int .i64 t, .int .u64 ke, .int .u64 ro, .slice ao n cap] : Array Value)[2]? = some (.int .u64 ro) := rfl
 have hzw : (prog.info? 25).map (·.size) = some (#[.int .i64 t, .int .u64 ke, .int .u64 ro, .slice ao n cap] : Array Value).size := by kernel_rfl
 have hho := fun (W : World) (hk : Below w.heap.size w W) => x8z (t := t) (ke := ke) (ro := ro) (i := o.id) (qqz h hk) hn16
 have hup := fun (W : World) (hk : Below w.heap.size w W) => rup_w (t := t) (ke := ke) (ro := ro) (i := o.id) (qqz h hk) hn16
 have c0 := ho.id
 have c1 := ho.kind
 have c3 := ho.quota
 have c4 := ho.fixed
 have hP : Hid (plaB X ro o = if o.id = ro then decide ((holL X o.id).length = 0) && (decide (o.kind = 2) && decide (o.quota ≤ 1024)) else (decide (1 ≤ (holL X o.id).length) && !(decide (1 < (holL X o.id).length) && (!o.fixed || (decide (o.kind = 2) || decide (o.kind = 4))))) && (!decide (o.kind = 2) || upB X ro o.id)) := rfl
 rw [hP.out]
 clear hP
 obtain ⟨G, hG⟩ : ∃ G : Array Value, G = #[.int .i64 t, .int .u64 ke, .int .u64 ro, .slice ao n cap] := ⟨_, rfl⟩
 rw [← hG] at g2 hzw hho hup
 rw [← hG]
 clear hG ho
 obtain ⟨m, hm⟩ : ∃ m, Hid ((holL X o.id).length = m) := ⟨_, rfl⟩
 rw [hm.out]
 generalize holL X o.id = L at hho hm
 generalize upB X ro o.id = ub at hup ⊢
 generalize o.id = i at c0 hho hup ⊢
 generalize o.kind = kd at c1 ⊢
 generalize o.quota = qt at c3 ⊢
 generalize o.fixed = fx at c4 ⊢
 by_cases hi : i = ro
 ·subst hi
  rw [if_pos rfl]
  go_enter func20, ntmps20
  go_wp2_with (first
   | (with_reducible refine qcz rfl 25 _ rfl G rfl ?_; intro B2 W2 hN2 hB2 hk)
   | (with_reducible refine qcz rfl 43 _ rfl C rfl ?_; intro B3 W3 hN3 hB3 hk3; replace hB2 := hB2.next hk3; replace hk := btz hk hk3)
   | (with_reducible refine qdz (by with_unfolding_all rfl) _ _ rfl B2 rfl G hB2 _ underlying25 (by kernel_rfl) hzw ?_)
   | (with_reducible refine qaz (by with_unfolding_all rfl) _ _ rfl B3 _ rfl _ _ hB3 _ c0 isAgg22 ?_)
   | (with_reducible refine qaz (by with_unfolding_all rfl) _ _ rfl B3 _ rfl _ _ hB3 _ c1 isAgg3 ?_)
   | (with_reducible refine qaz (by with_unfolding_all rfl) _ _ rfl B3 _ rfl _ _ hB3 _ c3 isAgg3 ?_)
   | (with_reducible refine qaz (by with_unfolding_all rfl) _ _ rfl B3 _ rfl _ _ hB3 _ c4 isAgg4 ?_)
   | (with_reducible refine qaz (by with_unfolding_all rfl) _ _ rfl B2 _ rfl _ _ hB2 _ g2 isAgg22 ?_)
   | (go_at_call 48; (with_reducible refine (hho _ hk).mono ?_); rintro e w1 ⟨v, rfl, hown, hb1⟩; replace hB2 := hB2.next hb1; replace hB3 := hB3.next hb1; replace hk := btz hk hb1; obtain ⟨al, cl, he, hct⟩ := x9z hown; rw [hm.out] at he; subst he; clear hct hown)
   | (go_at_call 49; (with_reducible refine (hup _ hk).mono ?_); rintro e w2 ⟨rfl, hb2⟩; replace hk := btz hk hb2)
   | ((with_reducible refine qgz (by with_unfolding_all rfl) .eql 3 _ _ _ rfl (.int .i64 (m : Int)) _ rfl rfl (quz _ _ _ _ _ _) ?_ ?_) <;> intro hq1)
   | ((with_reducible refine qgz (by with_unfolding_all rfl) .lss 3 _ _ _ rfl (.int .i64 (m : Int)) _ rfl rfl (wez _ _ _ _ _ _) ?_ ?_) <;> intro hq4)
   | ((with_reducible refine qgz (by with_unfolding_all rfl) .gtr 3 _ _ _ rfl (.int .i64 (m : Int)) _ rfl rfl (qxz _ _ _ _ _ _) ?_ ?_) <;> intro hq5)
   | ((with_reducible refine qgz (by with_unfolding_all rfl) .eql 3 _ _ _ rfl (.int .i64 kd) (.int .i64 2) rfl rfl (quz _ _ _ _ _ _) ?_ ?_) <;> intro hq2)
   | ((with_reducible refine qgz (by with_unfolding_all rfl) .eql 3 _ _ _ rfl (.int .i64 kd) (.int .i64 4) rfl rfl (quz _ _ _ _ _ _) ?_ ?_) <;> intro hq6)
   | ((with_reducible refine qgz (by with_unfolding_all rfl) .neq 3 _ _ _ rfl (.int .i64 kd) (.int .i64 2) rfl rfl (q2z _ _ _ _ _ _) ?_ ?_) <;> intro hq7)
   | ((with_reducible refine qgz (by with_unfolding_all rfl) .leq 3 _ _ _ rfl _ _ rfl rfl (wfz _ _ _ _ _ _) ?_ ?_) <;> intro hq3))
  all_goals
   go_ret
   refine ⟨congrArg (fun z => Ending.returned (.bool z)) ?_, hk⟩
   clear hho hup hzw
   simp only [Hid] at *
   first
    | (refine Eq.symm ?_; simp only [Bool.and_eq_true, decide_eq_true_eq, decide_eq_false_iff_not, Bool.and_eq_false_iff]; omega)
    | (refine Eq.symm ?_; rw [Bool.eq_false_iff]; simp only [ne_eq, Bool.and_eq_true, Bool.or_eq_true, Bool.not_eq_true', decide_eq_true_eq, decide_eq_false_iff_not, Bool.and_eq_false_iff, Bool.or_eq_false_iff, reduceCtorEq, or_true, true_or, and_true, true_and, or_false, false_or, and_false, false_and, Bool.not_true, Bool.not_false]; omega)
 ·have hib : (i == ro) = false := by simpa using hi
  rw [if_neg hi]
  cases fx <;> cases ub
  all_goals
   go_enter func20, ntmps20
   go_wp2_with (first
    | (with_reducible refine qcz rfl 25 _ rfl G rfl ?_; intro B2 W2 hN2 hB2 hk)
    | (with_reducible refine qcz rfl 43 _ rfl C rfl ?_; intro B3 W3 hN3 hB3 hk3; replace hB2 := hB2.next hk3; replace hk := btz hk hk3)
    | (with_reducible refine qdz (by with_unfolding_all rfl) _ _ rfl B2 rfl G hB2 _ underlying25 (by kernel_rfl) hzw ?_)
    | (with_reducible refine qaz (by with_unfolding_all rfl) _ _ rfl B3 _ rfl _ _ hB3 _ c0 isAgg22 ?_)
    | (with_reducible refine qaz (by with_unfolding_all rfl) _ _ rfl B3 _ rfl _ _ hB3 _ c1 isAgg3 ?_)
    | (with_reducible refine qaz (by with_unfolding_all rfl) _ _ rfl B3 _ rfl _ _ hB3 _ c3 isAgg3 ?_)
    | (with_reducible refine qaz (by with_unfolding_all rfl) _ _ rfl B3 _ rfl _ _ hB3 _ c4 isAgg4 ?_)
    | (with_reducible refine qaz (by with_unfolding_all rfl) _ _ rfl B2 _ rfl _ _ hB2 _ g2 isAgg22 ?_)
    | (go_at_call 48; (with_reducible refine (hho _ hk).mono ?_); rintro e w1 ⟨v, rfl, hown, hb1⟩; replace hB2 := hB2.next hb1; replace hB3 := hB3.next hb1; replace hk := btz hk hb1; obtain ⟨al, cl, he, hct⟩ := x9z hown; rw [hm.out] at he; subst he; clear hct hown)
    | (go_at_call 49; (with_reducible refine (hup _ hk).mono ?_); rintro e w2 ⟨rfl, hb2⟩; replace hk := btz hk hb2)
    | ((with_reducible refine qgz (by with_unfolding_all rfl) .eql 3 _ _ _ rfl (.int .i64 (m : Int)) _ rfl rfl (quz _ _ _ _ _ _) ?_ ?_) <;> intro hq1)
    | ((with_reducible refine qgz (by with_unfolding_all rfl) .lss 3 _ _ _ rfl (.int .i64 (m : Int)) _ rfl rfl (wez _ _ _ _ _ _) ?_ ?_) <;> intro hq4)
    | ((with_reducible refine qgz (by with_unfolding_all rfl) .gtr 3 _ _ _ rfl (.int .i64 (m : Int)) _ rfl rfl (qxz _ _ _ _ _ _) ?_ ?_) <;> intro hq5)
    | ((with_reducible refine qgz (by with_unfolding_all rfl) .eql 3 _ _ _ rfl (.int .i64 kd) (.int .i64 2) rfl rfl (quz _ _ _ _ _ _) ?_ ?_) <;> intro hq2)
    | ((with_reducible refine qgz (by with_unfolding_all rfl) .eql 3 _ _ _ rfl (.int .i64 kd) (.int .i64 4) rfl rfl (quz _ _ _ _ _ _) ?_ ?_) <;> intro hq6)
    | ((with_reducible refine qgz (by with_unfolding_all rfl) .neq 3 _ _ _ rfl (.int .i64 kd) (.int .i64 2) rfl rfl (q2z _ _ _ _ _ _) ?_ ?_) <;> intro hq7)
    | ((with_reducible refine qgz (by with_unfolding_all rfl) .leq 3 _ _ _ rfl _ _ rfl rfl (wfz _ _ _ _ _ _) ?_ ?_) <;> intro hq3))
   all_goals
    go_ret
    refine ⟨congrArg (fun z => Ending.returned (.bool z)) ?_, hk⟩
    clear hho hup hzw
    simp only [Hid] at *
    first
     | (refine Eq.symm ?_; simp only [Bool.and_eq_true, Bool.or_eq_true, Bool.not_eq_true', decide_eq_true_eq, decide_eq_false_iff_not, Bool.and_eq_false_iff, Bool.or_eq_false_iff, reduceCtorEq, or_true, and_true, true_and, or_false, and_false, false_and, Bool.not_true, Bool.not_false]; omega)
     | (refine Eq.symm ?_; rw [Bool.eq_false_iff]; simp only [ne_eq, Bool.and_eq_true, Bool.or_eq_true, Bool.not_eq_true', decide_eq_true_eq, decide_eq_false_iff_not, Bool.and_eq_false_iff, Bool.or_eq_false_iff, reduceCtorEq, true_and, or_false, false_and, Bool.not_true, Bool.not_false]; omega)
theorem xEz {x : Ob} (h : qUz x = true) : LbF x.label := by
 have hk := qFz.1 (qSz.1 (qtz.1 h).1).2.2.2.1
 exact ⟨wAz hk.2.1, by have := hk.1; omega⟩
theorem rfit_v0 {t ke ro : Int} (h : Obs w ao n cap X) : Calls prog 18 #[.agg #[.int .i64 t, .int .u64 ke, .int .u64 ro, .slice ao n cap]] w fun e w' => e = .returned (.bool (fitW ⟨t, ke, ro, X⟩)) ∧ Below w.heap.size w w' :=
 (rfit_w (t := t) (ke := ke) (ro := ro) h).on (fun w' hq hb => ⟨by rw [hq.out], hb⟩) (fun w' hq hb => ⟨by rw [Bool.eq_false_iff.2 hq.out], hb⟩)
theorem rtfit_w {t ro : Int} (h : Obs w ao n cap X) (hsm : fitW ⟨t, key, ro, X⟩ = true → wtz X) (hw : ∀ x ∈ X, WdO x) : Calls prog 5 #[.agg #[.int .i64 t, .int .u64 (key : Int), .int .u64 ro, .slice ao n cap]] w fun e w' => e = .returned (.bool (fitD t key ro X)) ∧ Below w.heap.size w w' := by
 have hmx : prog.follows .mixedOrders = true := by kernel_rfl
 have hn : Hid (X.length = n) := h.1
 have hnc := h.2.1
 have hcm := h.2.2.1.1
 have c2 : (#[.int .i64 t, .int .u64 (key : Int), .int .u64 ro, .slice ao n cap] : Array Value)[2]? = some (.int .u64 ro) := rfl
 have c3 : (#[.int .i64 t, .int .u64 (key : Int), .int .u64 ro, .slice ao n cap] : Array Value)[3]? = some (.slice ao n cap) := rfl
 have hzw : (prog.info? 25).map (·.size) = some (#[.int .i64 t, .int .u64 (key : Int), .int .u64 ro, .slice ao n cap] : Array Value).size := by kernel_rfl
 have hfd := fun {W : World} (hk : Below w.heap.size w W) => qsz (t := t) (ke := (key : Int)) (ro := ro) (i := ro) h hk
 have hft := fun (W : World) (hk : Below w.heap.size w W) => rfit_v0 (t := t) (ke := (key : Int)) (ro := ro) (qqz h hk)
 have hsp := fun (W : World) (hk : Below w.heap.size w W) => rspans_w (t := t) (key := key) (ro := ro) (qqz h hk) hw
 have hR : Hid (fitD t key ro X = ((fitW ⟨t, key, ro, X⟩ && (fnd X ro).isSome) && (((List.range n).all fun j => lnkB X (oat X j) && plaB X ro (oat X j)) && spaB key X))) := by show fitD t key ro X = _; unfold fitD; rw [hn.out]
 rw [hR.out]
 clear hR
 cases hf : fitW ⟨t, key, ro, X⟩
 rw [hf] at hft
 obtain ⟨G, hG⟩ : ∃ G : Array Value, G = #[.int .i64 t, .int .u64 (key : Int), .int .u64 ro, .slice ao n cap] := ⟨_, rfl⟩
 rw [← hG] at c2 c3 hzw hfd hft hsp
 rw [← hG]
 clear hG
 rw [Bool.false_and, Bool.false_and]
 generalize (fnd X ro).isSome = bf at hfd
 rotate_left
 replace hsm := hsm hf
 obtain ⟨hs, hso, hlen⟩ := vZz hf
 have hn16 : n ≤ 4096 := by rw [← hn.out]; omega
 have hq : ∀ x ∈ X, 0 ≤ x.quota ∧ x.quota ≤ 4096 := fun x hx => (vHz (hso x hx)).1
 have hlb : ∀ x ∈ X, LbF x.label := fun x hx => xEz (hso x hx)
 have hli := fun {W : World} {C : Array Value} {j : Nat} (hk : Below w.heap.size w W) (hj : j < n) (hC : ObD (LtN W) W C (oat X j)) => rlinks_w (t := t) (ke := (key : Int)) (ro := ro) (qqz h hk) hq hlb hC (hsm _ (wbz (by rw [hn.out]; exact hj))) (hlb _ (wbz (by rw [hn.out]; exact hj)))
 have hpl := fun {W : World} {C : Array Value} {j : Nat} (hk : Below w.heap.size w W) (hC : ObD (LtN W) W C (oat X j)) => uVz (t := t) (ke := (key : Int)) (ro := ro) (qqz h hk) hn16 hC
 obtain ⟨p, hp⟩ : ∃ p : Nat → Bool, Hid (p = fun j => lnkB X (oat X j) && plaB X ro (oat X j)) := ⟨_, rfl⟩
 rw [hf] at hft
 obtain ⟨G, hG⟩ : ∃ G : Array Value, G = #[.int .i64 t, .int .u64 (key : Int), .int .u64 ro, .slice ao n cap] := ⟨_, rfl⟩
 rw [← hG] at c2 c3 hzw hfd hft hsp hli hpl
 rw [← hG, ← hp.out]
 clear hG hf hs hso hlen hq hlb
 have hal0 : Hid (∀ (k : Nat), k ≤ n → (∀ j, j < k → p j = true) → k = n → (List.range n).all p = true) := by
  refine (?_ : ∀ (k : Nat), k ≤ n → (∀ j, j < k → p j = true) → k = n → (List.range n).all p = true)
  intro k _ hj e
  rw [List.all_eq_true]
  intro j q
  exact hj j (by rw [e]; exact List.mem_range.1 q)
 have hno0 : Hid (∀ (k : Nat), k < n → p k = false → (List.range n).all p = false) := by
  refine (?_ : ∀ (k : Nat), k < n → p k = false → (List.range n).all p = false)
  intro k q e
  rw [List.all_eq_false]
  exact ⟨k, List.mem_range.2 q, by rw [e]; decide⟩
 generalize (List.range n).all p = pa at hal0 hno0 ⊢
 generalize spaB key X = sp at hsp ⊢
 rw [Bool.true_and]
 cases hb : (fnd X ro).isSome
 rw [hb] at hfd
 rw [Bool.false_and]
 rotate_left
 rw [hb] at hfd
 rw [Bool.true_and]
 rotate_left
 all_goals go_enter func5, ntmps5
 all_goals go_wp2_with (first
  | go_skip
  | (with_reducible refine qcz rfl 25 _ rfl G rfl ?_; intro B W2 hN2 hB hk)
  | (with_reducible refine qdz (by kernel_rfl) 25 _ rfl B rfl G hB _ underlying25 (by kernel_rfl) hzw ?_)
  | (with_reducible refine qaz (by kernel_rfl) _ _ rfl B _ rfl _ _ hB _ c2 isAgg22 ?_)
  | (go_at_call 17; (with_reducible refine (hfd hk).mono ?_); rintro e w3 ⟨C3, rfl, o3, hb3⟩; replace hB := hB.next hb3; replace hk := btz hk hb3)
  | ((with_reducible refine qfz rfl _ rfl zC qzz ?_); intro R W4 hN4 hR4 hk4)
  | ((with_reducible refine qbz rfl _ _ _ rfl R rfl C3 rfl zC hR4 (qez o3.size) (qoz.trans o3.size.symm) o3.one ?_); intro W5 hR5 o5; have k5 := o5.below w3.heap.size w3 (by have := hN4.out.1; omega) hk4; replace hB := hB.next k5; replace hk := btz hk k5)
  | (go_at_call 18; (with_reducible refine (hft _ hk).mono ?_); rintro e w6 ⟨rfl, hb6⟩; replace hB := hB.next hb6; replace hk := btz hk hb6))
 ·go_ret
  exact ⟨rfl, hk⟩
 ·go_ret
  exact ⟨rfl, hk⟩
 ·clear hN2 hN4 hR4 hk4 o5 k5 hR5
  go_loopw [5] (fun j wr => ∃ k : Nat, k ≤ n ∧ j = .int .i64 k ∧ Hid (∀ j, j < k → p j = true) ∧ Blk wr B G 25 ∧ Below w.heap.size w wr) (fun j _ => n - (intOf j).toNat)
  case atStart => exact ⟨0, Nat.zero_le _, rfl, fun i hi => absurd hi (by omega), hB, hk⟩
  case round =>
   clear hB hk
   obtain ⟨k, hkn1, rfl, hal, hB, hk⟩ := hrel
   by_cases hkn : k < n
   ·obtain ⟨b, off, C, rfl, hbb, hC, hr⟩ := wHz h hkn
    have hkn' : (k : Int) < n := by omega
    have hz := hC.size
    have hpk : Hid (p k = (lnkB X (oat X k) && plaB X ro (oat X k))) := by show p k = _; rw [hp.out]
    have hnx : Hid (p k = true → ∀ j, j < k + 1 → p j = true) := by
     refine (?_ : p k = true → ∀ j, j < k + 1 → p j = true)
     intro e j hj
     rcases Nat.lt_or_ge j k with q | q
     ·exact hal.out j q
     ·obtain rfl : j = k := by omega
      exact e
    replace hli := fun {W : World} {C : Array Value} (hk : Below w.heap.size w W) (hC : ObD (LtN W) W C (oat X k)) => hli hk hkn hC
    replace hpl := fun {W : World} {C : Array Value} (hk : Below w.heap.size w W) (hC : ObD (LtN W) W C (oat X k)) => hpl hk hC
    generalize lnkB X (oat X k) = bl at hli hpk
    generalize plaB X ro (oat X k) = bp at hpl hpk
    go_wp2_with (first
     | (with_reducible refine qaz (by kernel_rfl) _ _ rfl B _ rfl _ _ hB _ c3 isAgg23 ?_))
    refine PgM.region_out (S := fun W => Blk W B G 25 ∧ Below w.heap.size w W) hmx ⟨hB.next (brz _ _).drew, hk.trans ((brz _ _).drew.mono hk.size)⟩ (fun hS => ?_)
    generalize wr.drew = v6 at hS ⊢
    clear hB hk
    refine qvz (by kernel_rfl) (fun _ _ _ _ _ h => h) hS [(0, some (.agg G)), (1, none), (2, some (.slice (some ⟨b, off, none⟩) n cap)), (3, none), (4, some (.pointer (some ⟨b, off + k * 51, none⟩))), (5, some (.agg C))] (obs := [.load 25 B 0 (.agg G), .load 23 B 3 (.slice (some ⟨b, off, none⟩) n cap), .ia 23 (.slice (some ⟨b, off, none⟩) n cap) (.int .i64 k) (.pointer (some ⟨b, off + k * 51, none⟩)), .load 43 b (off + k * 51) (.agg C)]) (n := 12) (by kernel_rfl) (by kernel_rfl) ⟨qyz (fun _ h => h.1) underlying25 (by kernel_rfl) hzw, qhz (fun _ h => h.1) c3 isAgg23, wDz hkn, wnz (fun _ h => qmz hr (h.2.block b hbb)) underlying43 (by kernel_rfl) (qez hz), trivial⟩ ?_
    cases bl with
    | false =>
     refine qnz (i := 6) (fuel := 11) (f := 19) (vs := [.agg G, .agg C]) (d := some 33) (by kernel_rfl) (by kernel_rfl) (by kernel_rfl) call19 (hli hS.2 (hC.next hS.2)) ?_
     rintro e v7 ⟨rfl, hb7⟩
     have hS7 : Blk v7 B G 25 ∧ Below w.heap.size w v7 := ⟨hS.1.next hb7, hS.2.trans (hb7.mono hS.2.size)⟩
     refine ⟨_, rfl, hS7, ?_⟩
     refine qjz (by kernel_rfl) (fun _ _ _ _ _ h => h) hS7 [(7, none), (8, none), (9, none), (10, none), (11, none), (12, none), (13, none), (14, none), (15, none), (16, none), (17, none)] (l' := #[tt, tt, tt, tt, tt, tt, tt, tt, tt, tt, tt, tt, tt, tt, tt, tt, tt, tt]) (a' := { tmps := #[.agg G, .pointer (some ⟨B, 0, none⟩), u2, .pointer (some ⟨R, 0, none⟩), .bool true, .int .i64 k, .tuple #[.agg C3, .bool true], .agg G, .pointer (some ⟨B, 2, none⟩), .int .u64 ro, .tuple #[.agg C3, .bool true], .agg C3, .bool true, .agg G, .bool true, .bool false, .bool false, .bool true, .bool false, .bool false, .int .i64 k, .pointer (some ⟨B, 3, none⟩), .slice (some ⟨b, off, none⟩) n cap, .int .i64 n, .bool true, u25, u26, .agg G, .pointer (some ⟨B, 3, none⟩), .slice (some ⟨b, off, none⟩) n cap, .int .i64 k, .pointer (some ⟨b, off + k * 51, none⟩), .agg C, .bool false, .bool true, .bool true, undef, undef, undef, undef, undef, undef, undef, undef, .bool true, undef, undef], defers := [] }) (obs := []) (n := 0) (by kernel_rfl) (by kernel_rfl) trivial ?_
     refine wpAnyH_done (by kernel_rfl) ?_ _
     have hz0 := hno0.out k hkn (by rw [hpk.out]; rfl)
     go_wp2
     go_ret
     exact ⟨by rw [hz0]; rfl, hS7.2⟩
    | true =>
     refine qnz (i := 6) (fuel := 11) (f := 19) (vs := [.agg G, .agg C]) (d := some 33) (by kernel_rfl) (by kernel_rfl) (by kernel_rfl) call19 (hli hS.2 (hC.next hS.2)) ?_
     rintro e v7 ⟨rfl, hb7⟩
     have hS7 : Blk v7 B G 25 ∧ Below w.heap.size w v7 := ⟨hS.1.next hb7, hS.2.trans (hb7.mono hS.2.size)⟩
     refine ⟨_, rfl, hS7, ?_⟩
     refine qvz (by kernel_rfl) (fun _ _ _ _ _ h => h) hS7 [(7, none), (8, none), (9, some (.agg G)), (10, none), (11, some (.slice (some ⟨b, off, none⟩) n cap)), (12, none), (13, some (.pointer (some ⟨b, off + k * 51, none⟩))), (14, some (.agg C))] (obs := [.load 25 B 0 (.agg G), .load 23 B 3 (.slice (some ⟨b, off, none⟩) n cap), .ia 23 (.slice (some ⟨b, off, none⟩) n cap) (.int .i64 k) (.pointer (some ⟨b, off + k * 51, none⟩)), .load 43 b (off + k * 51) (.agg C)]) (n := 3) (by kernel_rfl) (by kernel_rfl) ⟨qyz (fun _ h => h.1) underlying25 (by kernel_rfl) hzw, qhz (fun _ h => h.1) c3 isAgg23, wDz hkn, wnz (fun _ h => qmz hr (h.2.block b hbb)) underlying43 (by kernel_rfl) (qez hz), trivial⟩ ?_
     cases bp with
     | false =>
      refine qnz (i := 15) (fuel := 2) (f := 20) (vs := [.agg G, .agg C]) (d := some 42) (by kernel_rfl) (by kernel_rfl) (by kernel_rfl) call20 (hpl hS7.2 (hC.next hS7.2)) ?_
      rintro e v8 ⟨rfl, hb8⟩
      have hS8 : Blk v8 B G 25 ∧ Below w.heap.size w v8 := ⟨hS7.1.next hb8, hS7.2.trans (hb8.mono hS7.2.size)⟩
      refine ⟨_, rfl, hS8, ?_⟩
      refine qjz (by kernel_rfl) (fun _ _ _ _ _ h => h) hS8 [(16, none), (17, none)] (l' := #[tt, tt, tt, tt, tt, tt, tt, tt, tt, tt, tt, tt, tt, tt, tt, tt, tt, tt]) (a' := { tmps := #[.agg G, .pointer (some ⟨B, 0, none⟩), u2, .pointer (some ⟨R, 0, none⟩), .bool true, .int .i64 k, .tuple #[.agg C3, .bool true], .agg G, .pointer (some ⟨B, 2, none⟩), .int .u64 ro, .tuple #[.agg C3, .bool true], .agg C3, .bool true, .agg G, .bool true, .bool false, .bool false, .bool true, .bool false, .bool false, .int .i64 k, .pointer (some ⟨B, 3, none⟩), .slice (some ⟨b, off, none⟩) n cap, .int .i64 n, .bool true, u25, u26, .agg G, .pointer (some ⟨B, 3, none⟩), .slice (some ⟨b, off, none⟩) n cap, .int .i64 k, .pointer (some ⟨b, off + k * 51, none⟩), .agg C, .bool true, .bool false, .bool false, .agg G, .pointer (some ⟨B, 3, none⟩), .slice (some ⟨b, off, none⟩) n cap, .int .i64 k, .pointer (some ⟨b, off + k * 51, none⟩), .agg C, .bool false, .bool true, .bool true, undef, undef], defers := [] }) (obs := []) (n := 0) (by kernel_rfl) (by kernel_rfl) trivial ?_
      refine wpAnyH_done (by kernel_rfl) ?_ _
      have hz0 := hno0.out k hkn (by rw [hpk.out]; rfl)
      go_wp2
      go_ret
      exact ⟨by rw [hz0]; rfl, hS8.2⟩
     | true =>
      refine qnz (i := 15) (fuel := 2) (f := 20) (vs := [.agg G, .agg C]) (d := some 42) (by kernel_rfl) (by kernel_rfl) (by kernel_rfl) call20 (hpl hS7.2 (hC.next hS7.2)) ?_
      rintro e v8 ⟨rfl, hb8⟩
      have hS8 : Blk v8 B G 25 ∧ Below w.heap.size w v8 := ⟨hS7.1.next hb8, hS7.2.trans (hb8.mono hS7.2.size)⟩
      refine ⟨_, rfl, hS8, ?_⟩
      refine qjz (by kernel_rfl) (fun _ _ _ _ _ h => h) hS8 [(16, none), (17, none)] (l' := #[tt, tt, tt, tt, tt, tt, tt, tt, tt, tt, tt, tt, tt, tt, tt, tt, tt, tt]) (a' := { tmps := #[.agg G, .pointer (some ⟨B, 0, none⟩), u2, .pointer (some ⟨R, 0, none⟩), .bool true, .int .i64 k, .tuple #[.agg C3, .bool true], .agg G, .pointer (some ⟨B, 2, none⟩), .int .u64 ro, .tuple #[.agg C3, .bool true], .agg C3, .bool true, .agg G, .bool true, .bool false, .bool false, .bool true, .bool false, .bool false, .int .i64 k, .pointer (some ⟨B, 3, none⟩), .slice (some ⟨b, off, none⟩) n cap, .int .i64 n, .bool true, u25, u26, .agg G, .pointer (some ⟨B, 3, none⟩), .slice (some ⟨b, off, none⟩) n cap, .int .i64 k, .pointer (some ⟨b, off + k * 51, none⟩), .agg C, .bool true, .bool false, .bool false, .agg G, .pointer (some ⟨B, 3, none⟩), .slice (some ⟨b, off, none⟩) n cap, .int .i64 k, .pointer (some ⟨b, off + k * 51, none⟩), .agg C, .bool true, .bool false, .bool false, undef, undef], defers := [] }) (obs := []) (n := 0) (by kernel_rfl) (by kernel_rfl) trivial ?_
      refine wpAnyH_done (by kernel_rfl) ?_ _
      have hy := hnx.out (by rw [hpk.out]; rfl)
      go_wp2
      go_roundw
      case rel => exact ⟨k + 1, by omega, by go_num, hy, hS8.1, hS8.2⟩
      case measure => simp [intOf]; omega
   ·obtain rfl : k = n := by omega
    have hpa := hal0.out k (lrz _) hal.out rfl
    go_wp2_with (first
     | (with_reducible refine qaz (by kernel_rfl) _ _ rfl B _ rfl _ _ hB _ c3 isAgg23 ?_)
     | (with_reducible refine qdz (by kernel_rfl) 25 _ rfl B rfl G hB _ underlying25 (by kernel_rfl) hzw ?_)
     | (go_at_call 21; (with_reducible refine (hsp _ hk).mono ?_); rintro e w8 ⟨rfl, hb8⟩; replace hk := btz hk hb8))
    go_ret
    exact ⟨by rw [hpa]; rfl, hk⟩
end
section
open Go.RowKit Go.Shelf
theorem alo_maps {x : Ob} (h : aloO x = x) (hk : ¬ x.kind = 3) : x.maps = [] := by
 have e : (aloO x).maps = [] := by
  unfold aloO
  by_cases h1 : x.kind = 1
  ·rw [if_pos h1]
  rw [if_neg h1]
  by_cases h2 : x.kind = 2
  ·rw [if_pos h2]
  rw [if_neg h2, if_neg hk]
  by_cases h4 : x.kind = 4
  ·rw [if_pos h4]
  rw [if_neg h4]
  by_cases h5 : x.kind = 5
  ·rw [if_pos h5]
  rw [if_neg h5]
  by_cases h6 : x.kind = 6
  ·rw [if_pos h6]
  rw [if_neg h6]; rfl
 rw [h] at e; exact e
theorem w9z {x : Ob} (hs : qUz x = true) : Small x := by
 obtain ⟨hc, ho, hw⟩ := qtz.1 hs
 have ha := (q8z x).1 hw
 have hq := (qSz.1 hc).2.2.1
 refine ktz hs ⟨?_, ?_, ?_⟩
 ·by_cases k2 : x.kind = 2
  ·unfold ownB at ho
   rw [if_neg (by rw [k2]; decide), if_pos k2] at ho
   simp only [Bool.and_eq_true, decide_eq_true_eq] at ho
   omega
  ·rw [kEz hs k2]; decide
 ·by_cases k1 : x.kind = 1
  ·unfold ownB at ho
   rw [if_pos k1] at ho
   simp only [decide_eq_true_eq] at ho
   omega
  ·rw [yNz ha k1]; decide
 ·by_cases k3 : x.kind = 3
  ·unfold ownB at ho
   rw [if_neg (by rw [k3]; decide), if_neg (by rw [k3]; decide), if_pos k3] at ho
   unfold PgM.Pg.fitB at ho
   simp only [Bool.and_eq_true, decide_eq_true_eq] at ho
   omega
  ·rw [alo_maps ha k3]; decide
end
section
open Go.RowKit Go.Shelf
attribute [local go_sem] Oper.semAt_some
variable {w : World} {x : Ob}
theorem ob_set4 {D : Nat → Prop} {C : Array Value} (h : ObD D w C x) (v : Bool) : ObD D w (C.setIfInBounds 4 (.bool v)) { x with fixed := v } := by
 have e : ∀ i, (C.setIfInBounds 4 (.bool v))[i]? = if 4 = i then some (.bool v) else C[i]? := fun i => qHz (by rw [h.size]; omega)
 exact ⟨by simp [h.size], q5z h.one rfl, nxz (e _) (by omega) h.id, nxz (e _) (by omega) h.kind, by rw [e, if_neg (by omega)]; exact h.label, nxz (e _) (by omega) h.quota, by rw [e, if_pos rfl], by rw [e, if_neg (by omega)]; exact h.links, by rw [e, if_neg (by omega)]; exact h.data, by rw [e, if_neg (by omega)]; exact h.maps, h.th.congr fun i hi => by rw [e, if_neg (by omega)], h.gt.congr fun i hi => by rw [e, if_neg (by omega)], by rw [e, if_neg (by omega)]; exact h.inn, by rw [e, if_neg (by omega)]; exact h.out⟩
theorem ob_set3 {D : Nat → Prop} {C : Array Value} (h : ObD D w C x) (v : Int) : ObD D w (C.setIfInBounds 3 (.int .i64 v)) { x with quota := v } := by
 have e : ∀ i, (C.setIfInBounds 3 (.int .i64 v))[i]? = if 3 = i then some (.int .i64 v) else C[i]? := fun i => qHz (by rw [h.size]; omega)
 exact ⟨by simp [h.size], q5z h.one rfl, nxz (e _) (by omega) h.id, nxz (e _) (by omega) h.kind, by rw [e, if_neg (by omega)]; exact h.label, by rw [e, if_pos rfl], nxz (e _) (by omega) h.fixed, by rw [e, if_neg (by omega)]; exact h.links, by rw [e, if_neg (by omega)]; exact h.data, by rw [e, if_neg (by omega)]; exact h.maps, h.th.congr fun i hi => by rw [e, if_neg (by omega)], h.gt.congr fun i hi => by rw [e, if_neg (by omega)], by rw [e, if_neg (by omega)]; exact h.inn, by rw [e, if_neg (by omega)]; exact h.out⟩
theorem uIz (h : Small x) (b : Bool) : Small { x with fixed := b } := ⟨h.c2, h.c5, h.c6, h.c7, h.c25, h.c36, h.c39, h.c40, h.c41, h.c42, h.c43, h.c44, h.c49, h.c50⟩
theorem uHz (h : Small x) (q : Int) : Small { x with quota := q } := ⟨h.c2, h.c5, h.c6, h.c7, h.c25, h.c36, h.c39, h.c40, h.c41, h.c42, h.c43, h.c44, h.c49, h.c50⟩
theorem sizeB : (prog.info? 4).map (·.size) = some 1 := by kernel_rfl
def fixE (X : List Ob) (i : Int) : Int := if (fnd X i).isSome = false then 1 else if sngO (fO X i) = true then 3 else 0
def fixX (X : List Ob) (i : Int) : List Ob := if (fnd X i).isSome = false then X else if sngO (fO X i) = true then X else puR X { fO X i with fixed := true }
variable {Cf : Nat → Array Value} {D0 : Nat → Prop} {ao : Option Addr} {n cap : Nat} {X : List Ob}
theorem fix_v {t ke ro i : Int} (hD : ∀ b, D0 b → b < w.heap.size) (h : ObsF (LtN w) D0 w ao n cap X Cf) (hL : Lays X) (hn16 : n < 1022) :
  Calls prog 12 #[.agg #[.int .i64 t, .int .u64 ke, .int .u64 ro, .slice ao n cap], .int .u64 i] w fun e w' => ∃ ao2 n2 cap2, e = .returned (.tuple #[.agg #[.int .i64 t, .int .u64 ke, .int .u64 ro, .slice ao2 n2 cap2], .int .i64 (fixE X i)]) ∧ ObsN w D0 w' ao2 n2 cap2 (fixX X i) ∧ Below w.heap.size w w' := by
 have hO : ObsD (LtN w) D0 w ao n cap X := h.obs
 have hF : ObsF (LtN w) (LtN w) w ao n cap X Cf := h.wide hD (fun _ hb => hb)
 have hzw : (prog.info? 25).map (·.size) = some (#[.int .i64 t, .int .u64 ke, .int .u64 ro, .slice ao n cap] : Array Value).size := by kernel_rfl
 have hzv : (prog.info? 72).map (·.size) = some (#[.int .i64 t, .int .u64 ke, .int .u64 ro, .slice ao n cap] : Array Value).size := by kernel_rfl
 have hbt : prog.built 72 [(0, .agg #[.int .i64 t, .int .u64 ke, .int .u64 ro, .slice ao n cap])] = some #[.int .i64 t, .int .u64 ke, .int .u64 ro, .slice ao n cap] := by kernel_rfl
 have hz4 : (#[.int .i64 0, .int .u64 0, .int .u64 0, .slice none 0 0] : Array Value).size = (#[.int .i64 t, .int .u64 ke, .int .u64 ro, .slice ao n cap] : Array Value).size := rfl
 have h14 : (#[.int .i64 t, .int .u64 ke, .int .u64 ro, .slice ao n cap] : Array Value).all (·.oneCell') = true := by simp [Value.oneCell']
 have hz2 : ∀ v, (prog.info? 25).map (·.size) = some (#[.int .i64 t, .int .u64 ke, .int .u64 ro, v] : Array Value).size := fun _ => wcz
 have hs2 : ∀ v, zW.size = (#[.int .i64 t, .int .u64 ke, .int .u64 ro, v] : Array Value).size := fun _ => rfl
 have h12 : ∀ ao n cap, (#[.int .i64 t, .int .u64 ke, .int .u64 ro, .slice ao n cap] : Array Value).all (·.oneCell') = true := fun _ _ _ => by kernel_rfl
 have hrf := fun {er : Int} (W : World) (hk : Below w.heap.size w W) => xdz (t := t) (ke := ke) (ro := ro) (er := er) (D0 := D0) (fun b hb => ltz (hD b hb) hk.size) (q1z hO hD hk) hL.srt (by omega) hL.sms hL.nul
 have hf1 := fun (W : World) (hk : Below w.heap.size w W) => xLz (t := t) (ke := ke) (ro := ro) (i := i) (hF.next hk) hL.srt (by omega)
 have hdo := vqz h hL.srt i
 have hz1 := hdo.size
 have h1c := hdo.one
 have hsn := fun (W : World) (hk : Below w.heap.size w W) => xPz (hdo.laterK fun b hb => hk.block b (hD b hb))
 have hpu := fun (W : World) (hk : Below w.heap.size w W) => put_w (t := t) (ke := ke) (ro := ro) (D0 := D0) (fun b hb => ltz (hD b hb) hk.size) (q1z hO hD hk) hL.srt (by omega) hL.sms (ob_set4 (hdo.laterK fun b hb => hk.block b (hD b hb)) true) (uIz (hL.at i).1 true)
 obtain ⟨ER, hER⟩ : ∃ ER, Hid (fixE X i = ER) := ⟨_, rfl⟩
 obtain ⟨YR, hYR⟩ : ∃ YR, Hid (fixX X i = YR) := ⟨_, rfl⟩
 rw [hER.out, hYR.out]
 have hzn : ((fC X Cf i).setIfInBounds 4 (.bool true)).size = 51 := by rw [Array.size_setIfInBounds]; exact hz1
 generalize fC X Cf i = C1 at hf1 hz1 h1c hsn hpu hzn
 clear hdo
 obtain ⟨Cn, hCn⟩ : ∃ Cn, Hid (C1.setIfInBounds 4 (.bool true) = Cn) := ⟨_, rfl⟩
 rw [hCn.out] at hzn
 simp only [hCn.out] at hpu
 obtain ⟨G, hG⟩ : ∃ G : Array Value, G = #[.int .i64 t, .int .u64 ke, .int .u64 ro, .slice ao n cap] := ⟨_, rfl⟩
 simp only [← hG] at hrf hf1 hpu
 rw [← hG] at hzw hzv hbt hz4 h14
 rw [← hG]
 clear hG
 cases hb1 : (fnd X i).isSome
 rw [hb1] at hf1
 rotate_left
 rw [hb1] at hf1
 cases hb2 : sngO (fO X i)
 rw [hb2] at hsn
 rotate_left
 rw [hb2] at hsn
 rotate_left
 all_goals go_enter func12, ntmps12
 all_goals go_wp2_with (first
  | go_skip
  | (with_reducible refine qcz rfl 25 _ rfl G rfl ?_; intro B3 W3 hN3 hB3 hk)
  | ((with_reducible refine qfz rfl 25 rfl zW q0z ?_); intro R W6 hN6 hR hk6; have hRw : Hid (w.heap.size ≤ R) := (by have := hN6.out; have := hk.size; refine (?_ : w.heap.size ≤ R); omega); replace hB3 := hB3.next hk6; replace hk := btz hk hk6; clear hN3 hN6)
  | (with_reducible refine qdz (by kernel_rfl) 25 _ rfl B3 rfl G hB3 _ underlying25 (by kernel_rfl) hzw ?_)
  | ((with_reducible refine qRz (by kernel_rfl) _ [(0, .tmp 9)] rfl G ?hf ?_); (case hf => exact hbt))
  | ((with_reducible refine qfz rfl 72 rfl #[.int .i64 0, .int .u64 0, .int .u64 0, .slice none 0 0] Tryz.zeroValue72 ?_); intro B8 W8 hN8 hR8 hk8)
  | ((with_reducible refine qbz rfl _ _ _ rfl B8 rfl G rfl _ hR8 hzv hz4 h14 ?_); intro V8 hB8 o8; have hb8 : Below W6.heap.size W6 V8 := o8.below W6.heap.size W6 (by have := hN8.out; omega) hk8; replace hB3 := hB3.next hb8; replace hR := hR.next hb8; replace hk := btz hk hb8; clear hN8 hR8 hk8 o8 hb8)
  | (with_reducible refine qdz (by kernel_rfl) 72 _ rfl B8 rfl G hB8 _ underlying72 (by kernel_rfl) hzv ?_)
  | (go_at_call 32; (with_reducible refine (hf1 _ hk).mono ?_); rintro e w9 ⟨rfl, hb8⟩; replace hB3 := hB3.next hb8; replace hR := hR.next hb8; replace hB8 := hB8.next hb8; replace hk := btz hk hb8; clear hb8)
  | ((with_reducible refine qfz rfl 43 rfl zC qzz ?_); intro P9 W9 hN9 hP9a hk9; have hPw : Hid (w.heap.size ≤ P9 ∧ B3 ≠ P9 ∧ R ≠ P9) := (by have := hN9.out; have := hk.size; have := hB3.lt; have := hR.lt; refine (⟨?_, ?_, ?_⟩ : _ ∧ _ ∧ _) <;> omega))
  | ((with_reducible refine qbz rfl _ _ _ rfl P9 rfl C1 rfl zC hP9a (qez hz1) (qoz.trans hz1.symm) h1c ?_); intro V9 hP9 q9; have hb8 : Below w9.heap.size w9 V9 := q9.below w9.heap.size w9 (by have := hN9.out; omega) hk9; replace hB3 := hB3.next hb8; replace hR := hR.next hb8; replace hB8 := hB8.next hb8; replace hk := btz hk hb8; clear hN9 hP9a hk9 q9 hb8)
  | (go_at_call 33; (with_reducible refine (hrf _ hk).mono ?_); rintro e w12 ⟨aX, nX, cX, rfl, oX, hb9⟩; have hR9 := hR.next hb9)
  | (with_reducible refine qdz (by kernel_rfl) 43 _ rfl P9 rfl C1 hP9 _ underlying43 (by kernel_rfl) (qez hz1) ?_)
  | (go_at_call 37; (with_reducible refine (hsn _ hk).mono ?_); rintro e w10 ⟨rfl, hb8⟩; replace hB3 := hB3.next hb8; replace hR := hR.next hb8; replace hB8 := hB8.next hb8; replace hP9 := hP9.next hb8; replace hk := btz hk hb8; clear hb8)
  | ((with_reducible refine qiz rfl _ _ _ rfl P9 4 rfl (.bool true) rfl rfl C1 _ hP9 sizeB (by rw [hz1]; omega) rfl ?_); intro V10 hP9n q10; rw [hCn.out] at hP9n; replace hB3 := hB3.other q10 hPw.out.2.1; replace hR := hR.other q10 hPw.out.2.2; replace hk := q10.below _ _ hPw.out.1 hk; clear hP9; have hQ9 := hP9n)
  | (with_reducible refine qdz (by kernel_rfl) 43 _ rfl P9 rfl Cn hQ9 _ underlying43 (by kernel_rfl) (qez hzn) ?_)
  | (go_at_call 41; (with_reducible refine (hpu _ hk).mono ?_); rintro e w12 ⟨aX, nX, cX, rfl, oX, hb9⟩; have hR9 := hR.next hb9)
  | ((with_reducible refine qbz rfl _ _ _ rfl R rfl _ rfl zW hR9 (hz2 _) (hs2 _) (h12 aX nX cX) ?_); intro W13 hR13 q13))
 ·refine bodyPost_ret (qAz results12 rfl rfl hR13 rfl) rfl ?_
  have hE : ER = 1 := by rw [← hER.out]; unfold fixE; rw [if_pos hb1]
  have hY : YR = X := by rw [← hYR.out]; unfold fixX; rw [if_pos hb1]
  rw [hE, hY]
  exact ⟨aX, nX, cX, rfl, (ObsN.store oX q13 hR.lt (fun b hb => by have := hD b hb; have := hRw.out; omega)).low hk.size, q13.below _ _ hRw.out (btz hk hb9)⟩
 ·refine bodyPost_ret (qAz results12 rfl rfl hR13 rfl) rfl ?_
  have hE : ER = 0 := by rw [← hER.out]; unfold fixE; rw [if_neg (by rw [hb1]; decide), if_neg (by rw [hb2]; decide)]
  have hY : YR = puR X { fO X i with fixed := true } := by rw [← hYR.out]; unfold fixX; rw [if_neg (by rw [hb1]; decide), if_neg (by rw [hb2]; decide)]
  rw [hE, hY]
  exact ⟨aX, nX, cX, rfl, (ObsN.store oX q13 hR.lt (fun b hb => by have := hD b hb; have := hRw.out; omega)).low hk.size, q13.below _ _ hRw.out (btz hk hb9)⟩
 ·refine bodyPost_ret (qAz results12 rfl rfl hR13 rfl) rfl ?_
  have hE : ER = 3 := by rw [← hER.out]; unfold fixE; rw [if_neg (by rw [hb1]; decide), if_pos hb2]
  have hY : YR = X := by rw [← hYR.out]; unfold fixX; rw [if_neg (by rw [hb1]; decide), if_pos hb2]
  rw [hE, hY]
  exact ⟨aX, nX, cX, rfl, (ObsN.store oX q13 hR.lt (fun b hb => by have := hD b hb; have := hRw.out; omega)).low hk.size, q13.below _ _ hRw.out (btz hk hb9)⟩
def linE (X : List Ob) (i j : Int) : Int := if ((fnd X i).isSome && (fnd X j).isSome) = false then 1 else if (decide ((fO X i).kind = 2) && !sngO (fO X j)) = false then 3 else if (fO X j).fixed = false then 8 else if j ∈ (fO X i).links then 12 else layE X (fO X i) (fO X j)
def linX (X : List Ob) (i j : Int) : List Ob := if ((fnd X i).isSome && (fnd X j).isSome) = false then X else if (decide ((fO X i).kind = 2) && !sngO (fO X j)) = false then X else if (fO X j).fixed = false then X else if j ∈ (fO X i).links then X else layX X (fO X i) (fO X j)
theorem link_v {t ke ro i j : Int} (hD : ∀ b, D0 b → b < w.heap.size) (h : ObsF (LtN w) D0 w ao n cap X Cf) (hL : Lays X) (hn16 : n < 1022) :
  Calls prog 10 #[.agg #[.int .i64 t, .int .u64 ke, .int .u64 ro, .slice ao n cap], .int .u64 i, .int .u64 j] w fun e w' => ∃ ao2 n2 cap2, e = .returned (.tuple #[.agg #[.int .i64 t, .int .u64 ke, .int .u64 ro, .slice ao2 n2 cap2], .int .i64 (linE X i j)]) ∧ ObsN w D0 w' ao2 n2 cap2 (linX X i j) ∧ Below w.heap.size w w' := by
 have hO : ObsD (LtN w) D0 w ao n cap X := h.obs
 have hF : ObsF (LtN w) (LtN w) w ao n cap X Cf := h.wide hD (fun _ hb => hb)
 have hzw : (prog.info? 25).map (·.size) = some (#[.int .i64 t, .int .u64 ke, .int .u64 ro, .slice ao n cap] : Array Value).size := by kernel_rfl
 have hzv : (prog.info? 72).map (·.size) = some (#[.int .i64 t, .int .u64 ke, .int .u64 ro, .slice ao n cap] : Array Value).size := by kernel_rfl
 have hbt : prog.built 72 [(0, .agg #[.int .i64 t, .int .u64 ke, .int .u64 ro, .slice ao n cap])] = some #[.int .i64 t, .int .u64 ke, .int .u64 ro, .slice ao n cap] := by kernel_rfl
 have hz4 : (#[.int .i64 0, .int .u64 0, .int .u64 0, .slice none 0 0] : Array Value).size = (#[.int .i64 t, .int .u64 ke, .int .u64 ro, .slice ao n cap] : Array Value).size := rfl
 have h14 : (#[.int .i64 t, .int .u64 ke, .int .u64 ro, .slice ao n cap] : Array Value).all (·.oneCell') = true := by simp [Value.oneCell']
 have hz2 : ∀ v, (prog.info? 25).map (·.size) = some (#[.int .i64 t, .int .u64 ke, .int .u64 ro, v] : Array Value).size := fun _ => wcz
 have hs2 : ∀ v, zW.size = (#[.int .i64 t, .int .u64 ke, .int .u64 ro, v] : Array Value).size := fun _ => rfl
 have h12 : ∀ ao n cap, (#[.int .i64 t, .int .u64 ke, .int .u64 ro, .slice ao n cap] : Array Value).all (·.oneCell') = true := fun _ _ _ => by kernel_rfl
 have hrf := fun {er : Int} (W : World) (hk : Below w.heap.size w W) => xdz (t := t) (ke := ke) (ro := ro) (er := er) (D0 := D0) (fun b hb => ltz (hD b hb) hk.size) (q1z hO hD hk) hL.srt (by omega) hL.sms hL.nul
 have hf1 := fun (W : World) (hk : Below w.heap.size w W) => xLz (t := t) (ke := ke) (ro := ro) (i := i) (hF.next hk) hL.srt (by omega)
 have hdo := vqz h hL.srt i
 have hz1 := hdo.size
 have h1c := hdo.one
 have hf2 := fun (W : World) (hk : Below w.heap.size w W) => xLz (t := t) (ke := ke) (ro := ro) (i := j) (hF.next hk) hL.srt (by omega)
 have hdo2 := vqz h hL.srt j
 have hsn := fun (W : World) (hk : Below w.heap.size w W) => xPz (hdo2.laterK fun b hb => hk.block b (hD b hb))
 have hla := fun (W : World) (hk : Below w.heap.size w W) => laid_v (t := t) (ke := ke) (ro := ro) (D0 := D0) (fun b hb => ltz (hD b hb) hk.size) (vgz h hD hk) hL.srt hn16 hL.sms hL.nul hL.quo (hdo.laterK fun b hb => hk.block b (hD b hb)) (hL.at i).1 (hL.at i).2.1 (hL.at i).2.2.1 (hL.at i).2.2.2.1 (hL.at i).2.2.2.2 (hdo2.laterK fun b hb => hk.block b (hD b hb)) (hL.at j).1 (hL.at j).2.2.1
 obtain ⟨al, nl, cl, d5, hLk⟩ := hdo.links
 have hct := fun (W : World) (hk : Below w.heap.size w W) => vtz (i := j) ((hLk.laterK fun b hb => hk.block b (hD b hb)).wide fun b hb => ltz (hD b hb) hk.size)
 have d1 := hdo.kind
 have z4 := hdo2.fixed
 have hz3 := hdo2.size
 have h3c := hdo2.one
 obtain ⟨ER, hER⟩ : ∃ ER, Hid (linE X i j = ER) := ⟨_, rfl⟩
 obtain ⟨YR, hYR⟩ : ∃ YR, Hid (linX X i j = YR) := ⟨_, rfl⟩
 rw [hER.out, hYR.out]
 generalize fC X Cf i = C1 at hf1 hz1 h1c d1 hla d5
 generalize fC X Cf j = C2 at hf2 hz3 h3c hla hsn z4
 clear hdo hdo2 hLk
 obtain ⟨LE, hLE⟩ : ∃ LE, Hid (layE X (fO X i) (fO X j) = LE) := ⟨_, rfl⟩
 obtain ⟨LX, hLX⟩ : ∃ LX, Hid (layX X (fO X i) (fO X j) = LX) := ⟨_, rfl⟩
 simp only [hLE.out, hLX.out] at hla
 obtain ⟨kd, hkd⟩ : ∃ kd, Hid ((fO X i).kind = kd) := ⟨_, rfl⟩
 rw [hkd.out] at d1
 obtain ⟨G, hG⟩ : ∃ G : Array Value, G = #[.int .i64 t, .int .u64 ke, .int .u64 ro, .slice ao n cap] := ⟨_, rfl⟩
 simp only [← hG] at hrf hf1 hf2 hla
 rw [← hG] at hzw hzv hbt hz4 h14
 rw [← hG]
 clear hG
 cases hb1 : (fnd X i).isSome
 rw [hb1] at hf1
 generalize (fnd X j).isSome = b2 at hf2
 rotate_left
 rw [hb1] at hf1
 cases hb2 : (fnd X j).isSome
 rw [hb2] at hf2
 rotate_left
 rw [hb2] at hf2
 by_cases k2 : kd = 2
 subst k2
 cases hb3 : sngO (fO X j)
 rw [hb3] at hsn
 cases hb4 : (fO X j).fixed
 rw [hb4] at z4
 rotate_left
 rw [hb4] at z4
 by_cases hj : j ∈ (fO X i).links
 replace hct := fun W hk => (hct W hk).yes hj
 rotate_left
 replace hct := fun W hk => (hct W hk).no hj
 rotate_left
 rw [hb3] at hsn
 rotate_left
 have k2b : (kd == 2) = false := by simpa using k2
 have kf : decide ((fO X i).kind = 2) = false := decide_eq_false (by rw [hkd.out]; exact k2)
 rotate_left
 all_goals go_enter func10, ntmps10
 all_goals go_wp2_with (first
  | go_skip
  | go_skip
  | (with_reducible refine qcz rfl 25 _ rfl G rfl ?_; intro B3 W3 hN3 hB3 hk)
  | ((with_reducible refine qfz rfl 25 rfl zW q0z ?_); intro R W6 hN6 hR hk6; have hRw : Hid (w.heap.size ≤ R) := (by have := hN6.out; have := hk.size; refine (?_ : w.heap.size ≤ R); omega); replace hB3 := hB3.next hk6; replace hk := btz hk hk6; clear hN3 hN6)
  | (with_reducible refine qdz (by kernel_rfl) 25 _ rfl B3 rfl G hB3 _ underlying25 (by kernel_rfl) hzw ?_)
  | ((with_reducible refine qRz (by kernel_rfl) _ [(0, .tmp 13)] rfl G ?hf ?_); (case hf => exact hbt))
  | ((with_reducible refine qfz rfl 72 rfl #[.int .i64 0, .int .u64 0, .int .u64 0, .slice none 0 0] Tryz.zeroValue72 ?_); intro B8 W8 hN8 hR8 hk8)
  | ((with_reducible refine qbz rfl _ _ _ rfl B8 rfl G rfl _ hR8 hzv hz4 h14 ?_); intro V8 hB8 o8; have hb8 : Below W6.heap.size W6 V8 := o8.below W6.heap.size W6 (by have := hN8.out; omega) hk8; replace hB3 := hB3.next hb8; replace hR := hR.next hb8; replace hk := btz hk hb8; clear hN8 hR8 hk8 o8 hb8)
  | (with_reducible refine qdz (by kernel_rfl) 72 _ rfl B8 rfl G hB8 _ underlying72 (by kernel_rfl) hzv ?_)
  | (go_at_call 32; have hx := hP9; (with_reducible refine (hf2 _ hk).mono ?_); rintro e w11 ⟨rfl, hb8⟩; replace hB3 := hB3.next hb8; replace hR := hR.next hb8; replace hB8 := hB8.next hb8; replace hP9 := hP9.next hb8; replace hk := btz hk hb8; clear hb8 hx)
  | (go_at_call 32; (with_reducible refine (hf1 _ hk).mono ?_); rintro e w9 ⟨rfl, hb8⟩; replace hB3 := hB3.next hb8; replace hR := hR.next hb8; replace hB8 := hB8.next hb8; replace hk := btz hk hb8; clear hb8)
  | ((with_reducible refine qfz rfl 43 rfl zC qzz ?_); have hx := hP9; intro P11 W11 hN11 hP11a hk11; clear hx)
  | ((with_reducible refine qfz rfl 43 rfl zC qzz ?_); intro P9 W9 hN9 hP9a hk9; have hPw : Hid (w.heap.size ≤ P9 ∧ B3 ≠ P9 ∧ R ≠ P9) := (by have := hN9.out; have := hk.size; have := hB3.lt; have := hR.lt; refine (⟨?_, ?_, ?_⟩ : _ ∧ _ ∧ _) <;> omega))
  | ((with_reducible refine qbz rfl _ _ _ rfl P9 rfl C1 rfl zC hP9a (qez hz1) (qoz.trans hz1.symm) h1c ?_); intro V9 hP9 q9; have hb8 : Below w9.heap.size w9 V9 := q9.below w9.heap.size w9 (by have := hN9.out; omega) hk9; replace hB3 := hB3.next hb8; replace hR := hR.next hb8; replace hB8 := hB8.next hb8; replace hk := btz hk hb8; clear hN9 hP9a hk9 q9 hb8)
  | ((with_reducible refine qbz rfl _ _ _ rfl P11 rfl C2 rfl zC hP11a (qez hz3) (qoz.trans hz3.symm) h3c ?_); intro V11 hP11 q11; have hb8 : Below w11.heap.size w11 V11 := q11.below w11.heap.size w11 (by have := hN11.out; omega) hk11; replace hB3 := hB3.next hb8; replace hR := hR.next hb8; replace hB8 := hB8.next hb8; replace hP9 := hP9.next hb8; replace hk := btz hk hb8; clear hN11 hP11a hk11 q11 hb8)
  | (go_at_call 33; (with_reducible refine (hrf _ hk).mono ?_); rintro e w12 ⟨aX, nX, cX, rfl, oX, hb9⟩; have hR9 := hR.next hb9)
  | (with_reducible refine qaz (by kernel_rfl) _ _ rfl P9 _ rfl _ _ hP9 _ d1 isAgg3 ?_)
  | (go_at_call 37; (with_reducible refine (hsn _ hk).mono ?_); rintro e w10 ⟨rfl, hb8⟩; replace hB3 := hB3.next hb8; replace hR := hR.next hb8; replace hB8 := hB8.next hb8; replace hP9 := hP9.next hb8; replace hP11 := hP11.next hb8; replace hk := btz hk hb8; clear hb8)
  | (with_reducible refine qaz (by with_unfolding_all rfl) _ _ rfl P11 _ rfl _ _ hP11 _ z4 isAgg4 ?_)
  | (with_reducible refine qaz (by kernel_rfl) _ _ rfl P9 _ rfl _ _ hP9 _ d5 isAgg28 ?_)
  | (go_at_call 38; (with_reducible refine (hct _ hk).mono ?_); rintro e w14 ⟨rfl, hb8⟩; replace hB3 := hB3.next hb8; replace hR := hR.next hb8; replace hB8 := hB8.next hb8; replace hP9 := hP9.next hb8; replace hP11 := hP11.next hb8; replace hk := btz hk hb8; clear hb8)
  | (with_reducible refine qdz (by kernel_rfl) 43 _ rfl P9 rfl C1 hP9 _ underlying43 (by kernel_rfl) (qez hz1) ?_)
  | (with_reducible refine qdz (by with_unfolding_all rfl) 43 _ rfl P11 rfl C2 hP11 _ underlying43 (by kernel_rfl) (qez hz3) ?_)
  | (go_at_call 34; (with_reducible refine (hla _ hk).mono ?_); rintro e w12 ⟨aX, nX, cX, rfl, oX, hb9⟩; have hR9 := hR.next hb9)
  | ((with_reducible refine qbz rfl _ _ _ rfl R rfl _ rfl zW hR9 (hz2 _) (hs2 _) (h12 aX nX cX) ?_); intro W13 hR13 q13))
 ·refine bodyPost_ret (qAz results10 rfl rfl hR13 rfl) rfl ?_
  have hE : ER = 1 := by rw [← hER.out]; unfold linE; rw [if_pos (by rw [hb1]; rfl)]
  have hY : YR = X := by rw [← hYR.out]; unfold linX; rw [if_pos (by rw [hb1]; rfl)]
  rw [hE, hY]
  exact ⟨aX, nX, cX, rfl, (ObsN.store oX q13 hR.lt (fun b hb => by have := hD b hb; have := hRw.out; omega)).low hk.size, q13.below _ _ hRw.out (btz hk hb9)⟩
 ·refine bodyPost_ret (qAz results10 rfl rfl hR13 rfl) rfl ?_
  have hE : ER = 1 := by rw [← hER.out]; unfold linE; rw [if_pos (by rw [hb1, hb2]; rfl)]
  have hY : YR = X := by rw [← hYR.out]; unfold linX; rw [if_pos (by rw [hb1, hb2]; rfl)]
  rw [hE, hY]
  exact ⟨aX, nX, cX, rfl, (ObsN.store oX q13 hR.lt (fun b hb => by have := hD b hb; have := hRw.out; omega)).low hk.size, q13.below _ _ hRw.out (btz hk hb9)⟩
 ·refine bodyPost_ret (qAz results10 rfl rfl hR13 rfl) rfl ?_
  have hE : ER = 8 := by rw [← hER.out]; unfold linE; rw [if_neg (by rw [hb1, hb2]; decide), if_neg (by rw [hkd.out, hb3]; decide), if_pos hb4]
  have hY : YR = X := by rw [← hYR.out]; unfold linX; rw [if_neg (by rw [hb1, hb2]; decide), if_neg (by rw [hkd.out, hb3]; decide), if_pos hb4]
  rw [hE, hY]
  exact ⟨aX, nX, cX, rfl, (ObsN.store oX q13 hR.lt (fun b hb => by have := hD b hb; have := hRw.out; omega)).low hk.size, q13.below _ _ hRw.out (btz hk hb9)⟩
 ·refine bodyPost_ret (qAz results10 rfl rfl hR13 rfl) rfl ?_
  have hE : ER = 12 := by rw [← hER.out]; unfold linE; rw [if_neg (by rw [hb1, hb2]; decide), if_neg (by rw [hkd.out, hb3]; decide), if_neg (by rw [hb4]; decide), if_pos hj]
  have hY : YR = X := by rw [← hYR.out]; unfold linX; rw [if_neg (by rw [hb1, hb2]; decide), if_neg (by rw [hkd.out, hb3]; decide), if_neg (by rw [hb4]; decide), if_pos hj]
  rw [hE, hY]
  exact ⟨aX, nX, cX, rfl, (ObsN.store oX q13 hR.lt (fun b hb => by have := hD b hb; have := hRw.out; omega)).low hk.size, q13.below _ _ hRw.out (btz hk hb9)⟩
 ·refine bodyPost_ret (qAz results10 rfl rfl hR13 rfl) rfl ?_
  have hE : ER = LE := by rw [← hER.out]; unfold linE; rw [if_neg (by rw [hb1, hb2]; decide), if_neg (by rw [hkd.out, hb3]; decide), if_neg (by rw [hb4]; decide), if_neg hj, hLE.out]
  have hY : YR = LX := by rw [← hYR.out]; unfold linX; rw [if_neg (by rw [hb1, hb2]; decide), if_neg (by rw [hkd.out, hb3]; decide), if_neg (by rw [hb4]; decide), if_neg hj, hLX.out]
  rw [hE, hY]
  exact ⟨aX, nX, cX, rfl, (ObsN.store oX q13 hR.lt (fun b hb => by have := hD b hb; have := hRw.out; omega)).low hk.size, q13.below _ _ hRw.out (btz hk hb9)⟩
 ·refine bodyPost_ret (qAz results10 rfl rfl hR13 rfl) rfl ?_
  have hE : ER = 3 := by rw [← hER.out]; unfold linE; rw [if_neg (by rw [hb1, hb2]; decide), if_pos (by rw [hkd.out, hb3]; rfl)]
  have hY : YR = X := by rw [← hYR.out]; unfold linX; rw [if_neg (by rw [hb1, hb2]; decide), if_pos (by rw [hkd.out, hb3]; rfl)]
  rw [hE, hY]
  exact ⟨aX, nX, cX, rfl, (ObsN.store oX q13 hR.lt (fun b hb => by have := hD b hb; have := hRw.out; omega)).low hk.size, q13.below _ _ hRw.out (btz hk hb9)⟩
 ·refine bodyPost_ret (qAz results10 rfl rfl hR13 rfl) rfl ?_
  have hE : ER = 3 := by rw [← hER.out]; unfold linE; rw [if_neg (by rw [hb1, hb2]; decide), if_pos (by rw [kf]; rfl)]
  have hY : YR = X := by rw [← hYR.out]; unfold linX; rw [if_neg (by rw [hb1, hb2]; decide), if_pos (by rw [kf]; rfl)]
  rw [hE, hY]
  exact ⟨aX, nX, cX, rfl, (ObsN.store oX q13 hR.lt (fun b hb => by have := hD b hb; have := hRw.out; omega)).low hk.size, q13.below _ _ hRw.out (btz hk hb9)⟩
theorem sizeN : (prog.info? 3).map (·.size) = some 1 := by kernel_rfl
def useV (X : List Ob) (o : Ob) : Int := pagO o + (o.links.map (qOf X)).sum
def movE (X : List Ob) (i j m : Int) : Int := if ((fnd X i).isSome && (fnd X j).isSome) = false then 1 else if ¬ j ∈ (fO X i).links then 1 else if (fO X j).fixed = true then 8 else if m < -4096 ∨ 4096 < m then 4 else if j6z X (fO X i) < m ∨ ((fO X j).quota + m < useV X (fO X j) ∨ (fO X j).quota + m < 1) ∨ 4096 < (fO X j).quota + m then 5 else 0
def movX (X : List Ob) (i j m : Int) : List Ob := if movE X i j m = 0 then puR X { fO X j with quota := (fO X j).quota + m } else X
theorem move_v {t ke ro i j m : Int} (hD : ∀ b, D0 b → b < w.heap.size) (h : ObsF (LtN w) D0 w ao n cap X Cf) (hL : Lays X) (hn16 : n < 1022) :
  Calls prog 14 #[.agg #[.int .i64 t, .int .u64 ke, .int .u64 ro, .slice ao n cap], .int .u64 i, .int .u64 j, .int .i64 m] w fun e w' => ∃ ao2 n2 cap2, e = .returned (.tuple #[.agg #[.int .i64 t, .int .u64 ke, .int .u64 ro, .slice ao2 n2 cap2], .int .i64 (movE X i j m)]) ∧ ObsN w D0 w' ao2 n2 cap2 (movX X i j m) ∧ Below w.heap.size w w' := by
 have hmx : prog.follows .mixedOrders = true := by kernel_rfl
 have hO : ObsD (LtN w) D0 w ao n cap X := h.obs
 have hF : ObsF (LtN w) (LtN w) w ao n cap X Cf := h.wide hD (fun _ hb => hb)
 have hzw : (prog.info? 25).map (·.size) = some (#[.int .i64 t, .int .u64 ke, .int .u64 ro, .slice ao n cap] : Array Value).size := by kernel_rfl
 have hzv : (prog.info? 72).map (·.size) = some (#[.int .i64 t, .int .u64 ke, .int .u64 ro, .slice ao n cap] : Array Value).size := by kernel_rfl
 have hbt : prog.built 72 [(0, .agg #[.int .i64 t, .int .u64 ke, .int .u64 ro, .slice ao n cap])] = some #[.int .i64 t, .int .u64 ke, .int .u64 ro, .slice ao n cap] := by kernel_rfl
 have hz4 : (#[.int .i64 0, .int .u64 0, .int .u64 0, .slice none 0 0] : Array Value).size = (#[.int .i64 t, .int .u64 ke, .int .u64 ro, .slice ao n cap] : Array Value).size := rfl
 have h14 : (#[.int .i64 t, .int .u64 ke, .int .u64 ro, .slice ao n cap] : Array Value).all (·.oneCell') = true := by simp [Value.oneCell']
 have hz2 : ∀ v, (prog.info? 25).map (·.size) = some (#[.int .i64 t, .int .u64 ke, .int .u64 ro, v] : Array Value).size := fun _ => wcz
 have hs2 : ∀ v, zW.size = (#[.int .i64 t, .int .u64 ke, .int .u64 ro, v] : Array Value).size := fun _ => rfl
 have h12 : ∀ ao n cap, (#[.int .i64 t, .int .u64 ke, .int .u64 ro, .slice ao n cap] : Array Value).all (·.oneCell') = true := fun _ _ _ => by kernel_rfl
 have hrf := fun {er : Int} (W : World) (hk : Below w.heap.size w W) => xdz (t := t) (ke := ke) (ro := ro) (er := er) (D0 := D0) (fun b hb => ltz (hD b hb) hk.size) (q1z hO hD hk) hL.srt (by omega) hL.sms hL.nul
 have hf1 := fun (W : World) (hk : Below w.heap.size w W) => xLz (t := t) (ke := ke) (ro := ro) (i := i) (hF.next hk) hL.srt (by omega)
 have hdo := vqz h hL.srt i
 have hz1 := hdo.size
 have h1c := hdo.one
 have hf2 := fun (W : World) (hk : Below w.heap.size w W) => xLz (t := t) (ke := ke) (ro := ro) (i := j) (hF.next hk) hL.srt (by omega)
 have hdo2 := vqz h hL.srt j
 have hdL : ObD (LtN w) w (fC X Cf i) (fO X i) := hdo.wide hD
 have hoL : ObD (LtN w) w (fC X Cf j) (fO X j) := hdo2.wide hD
 have hrm := fun (W : World) (hk : Below w.heap.size w W) => ygz (t := t) (ke := ke) (ro := ro) (hF.next hk) hL.srt (by omega) hL.quo (hdL.next hk) (hL.at i).1 (hL.at i).2.1
 have hus := fun (W : World) (hk : Below w.heap.size w W) => uses_v (t := t) (ke := ke) (ro := ro) (hF.next hk) hL.srt (by omega) hL.quo (hoL.next hk) (hL.at j).1
 change ∀ (W : World), Below w.heap.size w W → Calls prog _ _ W fun e w' => e = .returned (.int .i64 (j6z X (fO X i))) ∧ _ at hrm
 change ∀ (W : World), Below w.heap.size w W → Calls prog _ _ W fun e w' => e = .returned (.int .i64 (useV X (fO X j))) ∧ _ at hus
 have hpu := fun (W : World) (hk : Below w.heap.size w W) => put_w (t := t) (ke := ke) (ro := ro) (D0 := D0) (fun b hb => ltz (hD b hb) hk.size) (q1z hO hD hk) hL.srt (by omega) hL.sms (ob_set3 (hdo2.laterK fun b hb => hk.block b (hD b hb)) ((fO X j).quota + m)) (uHz (hL.at j).1 ((fO X j).quota + m))
 obtain ⟨al, nl, cl, d5, hLk⟩ := hdo.links
 have hct := fun (W : World) (hk : Below w.heap.size w W) => vtz (i := j) ((hLk.laterK fun b hb => hk.block b (hD b hb)).wide fun b hb => ltz (hD b hb) hk.size)
 have z4 := hdo2.fixed
 have z3 := hdo2.quota
 have hz3 := hdo2.size
 have h3c := hdo2.one
 have hqj := (hL.at j).2.1
 have hzn : ((fC X Cf j).setIfInBounds 3 (.int .i64 ((fO X j).quota + m))).size = 51 := by rw [Array.size_setIfInBounds]; exact hz3
 have hn3 : ((fC X Cf j).setIfInBounds 3 (.int .i64 ((fO X j).quota + m)))[3]? = some (.int .i64 ((fO X j).quota + m)) := by rw [qHz (by rw [hz3]; omega), if_pos rfl]
 obtain ⟨ER, hER⟩ : ∃ ER, Hid (movE X i j m = ER) := ⟨_, rfl⟩
 obtain ⟨YR, hYR⟩ : ∃ YR, Hid (movX X i j m = YR) := ⟨_, rfl⟩
 rw [hER.out, hYR.out]
 generalize fC X Cf i = C1 at hf1 hz1 h1c hrm d5
 generalize fC X Cf j = C2 at hf2 hz3 h3c hus hpu z4 z3 hzn hn3
 clear hdo hdo2 hLk hdL hoL
 obtain ⟨Cn, hCn⟩ : ∃ Cn, Hid (C2.setIfInBounds 3 (.int .i64 ((fO X j).quota + m)) = Cn) := ⟨_, rfl⟩
 rw [hCn.out] at hzn hn3
 simp only [hCn.out] at hpu
 obtain ⟨rm, hrme⟩ : ∃ rm, Hid (j6z X (fO X i) = rm) := ⟨_, rfl⟩
 simp only [hrme.out] at hrm
 obtain ⟨us, huse⟩ : ∃ us, Hid (useV X (fO X j) = us) := ⟨_, rfl⟩
 simp only [huse.out] at hus
 obtain ⟨q, hqe⟩ : ∃ q, Hid ((fO X j).quota = q) := ⟨_, rfl⟩
 rw [hqe.out] at z3 hqj hn3
 obtain ⟨G, hG⟩ : ∃ G : Array Value, G = #[.int .i64 t, .int .u64 ke, .int .u64 ro, .slice ao n cap] := ⟨_, rfl⟩
 simp only [← hG] at hrf hf1 hf2 hrm hus hpu
 rw [← hG] at hzw hzv hbt hz4 h14
 rw [← hG]
 clear hG
 cases hb1 : (fnd X i).isSome
 rw [hb1] at hf1
 generalize (fnd X j).isSome = b2 at hf2
 rotate_left
 rw [hb1] at hf1
 cases hb2 : (fnd X j).isSome
 rw [hb2] at hf2
 rotate_left
 rw [hb2] at hf2
 by_cases hj : j ∈ (fO X i).links
 replace hct := fun W hk => (hct W hk).yes hj
 cases hb4 : (fO X j).fixed
 rw [hb4] at z4
 by_cases hm1 : m < -4096
 have hm : Hid (m < -4096) := hm1
 rotate_left
 by_cases hm2 : 4096 < m
 have hm : Hid (4096 < m) := hm2
 rotate_left
 have hm : Hid (-4096 ≤ m ∧ m ≤ 4096) := by refine (⟨?_, ?_⟩ : _ ∧ _) <;> omega
 have hwr : IntKind.i64.wrap (q + m) = q + m := by rw [IntKind.wrap_i64]; omega
 rotate_left
 rw [hb4] at z4
 rotate_left
 replace hct := fun W hk => (hct W hk).no hj
 rotate_left
 all_goals go_enter func14, ntmps14
 all_goals go_wp2_with (first
  | go_skip
  | (with_reducible refine qcz rfl 25 _ rfl G rfl ?_; intro B3 W3 hN3 hB3 hk)
  | ((with_reducible refine qfz rfl 25 rfl zW q0z ?_); intro R W6 hN6 hR hk6; have hRw : Hid (w.heap.size ≤ R) := (by have := hN6.out; have := hk.size; refine (?_ : w.heap.size ≤ R); omega); replace hB3 := hB3.next hk6; replace hk := btz hk hk6; clear hN3 hN6)
  | (with_reducible refine qdz (by kernel_rfl) 25 _ rfl B3 rfl G hB3 _ underlying25 (by kernel_rfl) hzw ?_)
  | ((with_reducible refine qRz (by kernel_rfl) _ [(0, .tmp 17)] rfl G ?hf ?_); (case hf => exact hbt))
  | ((with_reducible refine qfz rfl 72 rfl #[.int .i64 0, .int .u64 0, .int .u64 0, .slice none 0 0] Tryz.zeroValue72 ?_); intro B8 W8 hN8 hR8 hk8)
  | ((with_reducible refine qbz rfl _ _ _ rfl B8 rfl G rfl _ hR8 hzv hz4 h14 ?_); intro V8 hB8 o8; have hb8 : Below W6.heap.size W6 V8 := o8.below W6.heap.size W6 (by have := hN8.out; omega) hk8; replace hB3 := hB3.next hb8; replace hR := hR.next hb8; replace hk := btz hk hb8; clear hN8 hR8 hk8 o8 hb8)
  | (with_reducible refine qdz (by kernel_rfl) 72 _ rfl B8 rfl G hB8 _ underlying72 (by kernel_rfl) hzv ?_)
  | (go_at_call 32; have hx := hP9; (with_reducible refine (hf2 _ hk).mono ?_); rintro e w11 ⟨rfl, hb8⟩; replace hB3 := hB3.next hb8; replace hR := hR.next hb8; replace hB8 := hB8.next hb8; replace hP9 := hP9.next hb8; replace hk := btz hk hb8; clear hb8 hx)
  | (go_at_call 32; (with_reducible refine (hf1 _ hk).mono ?_); rintro e w9 ⟨rfl, hb8⟩; replace hB3 := hB3.next hb8; replace hR := hR.next hb8; replace hB8 := hB8.next hb8; replace hk := btz hk hb8; clear hb8)
  | ((with_reducible refine qfz rfl 43 rfl zC qzz ?_); have hx := hP9; intro P11 W11 hN11 hP11a hk11; have hPw2 : Hid (w.heap.size ≤ P11 ∧ B3 ≠ P11 ∧ R ≠ P11 ∧ B8 ≠ P11 ∧ P9 ≠ P11) := (by have := hN11.out; have := hk.size; have := hB3.lt; have := hR.lt; have := hB8.lt; have := hP9.lt; refine (⟨?_, ?_, ?_, ?_, ?_⟩ : _ ∧ _ ∧ _ ∧ _ ∧ _) <;> omega); clear hx)
  | ((with_reducible refine qfz rfl 43 rfl zC qzz ?_); intro P9 W9 hN9 hP9a hk9; have hPw : Hid (w.heap.size ≤ P9 ∧ B3 ≠ P9 ∧ R ≠ P9) := (by have := hN9.out; have := hk.size; have := hB3.lt; have := hR.lt; refine (⟨?_, ?_, ?_⟩ : _ ∧ _ ∧ _) <;> omega))
  | ((with_reducible refine qbz rfl _ _ _ rfl P9 rfl C1 rfl zC hP9a (qez hz1) (qoz.trans hz1.symm) h1c ?_); intro V9 hP9 q9; have hb8 : Below w9.heap.size w9 V9 := q9.below w9.heap.size w9 (by have := hN9.out; omega) hk9; replace hB3 := hB3.next hb8; replace hR := hR.next hb8; replace hB8 := hB8.next hb8; replace hk := btz hk hb8; clear hN9 hP9a hk9 q9 hb8)
  | ((with_reducible refine qbz rfl _ _ _ rfl P11 rfl C2 rfl zC hP11a (qez hz3) (qoz.trans hz3.symm) h3c ?_); intro V11 hP11 q11; have hb8 : Below w11.heap.size w11 V11 := q11.below w11.heap.size w11 (by have := hN11.out; omega) hk11; replace hB3 := hB3.next hb8; replace hR := hR.next hb8; replace hB8 := hB8.next hb8; replace hP9 := hP9.next hb8; replace hk := btz hk hb8; clear hN11 hP11a hk11 q11 hb8)
  | (with_reducible refine qaz (by kernel_rfl) _ _ rfl P9 _ rfl _ _ hP9 _ d5 isAgg28 ?_)
  | (go_at_call 38; (with_reducible refine (hct _ hk).mono ?_); rintro e w14 ⟨rfl, hb8⟩; replace hB3 := hB3.next hb8; replace hR := hR.next hb8; replace hB8 := hB8.next hb8; replace hP9 := hP9.next hb8; replace hP11 := hP11.next hb8; replace hk := btz hk hb8; clear hb8)
  | (with_reducible refine qaz (by kernel_rfl) _ _ rfl P11 _ rfl _ _ hP11 _ z4 isAgg4 ?_)
  | ((with_reducible refine qgz (by kernel_rfl) .lss 3 _ _ _ rfl (.int .i64 m) (.int .i64 (-4096)) rfl rfl (wez _ _ _ _ _ _) ?_ ?_) <;> first | (intro f1; exfalso; have h1 := f1.out; have h2 := hm.out; omega) | intro f1)
  | ((with_reducible refine qgz (by kernel_rfl) .gtr 3 _ _ _ rfl (.int .i64 m) (.int .i64 4096) rfl rfl (qxz _ _ _ _ _ _) ?_ ?_) <;> first | (intro f2; exfalso; have h1 := f2.out; have h2 := hm.out; omega) | intro f2)
  | (go_at_call 33; (with_reducible refine (hrf _ hk).mono ?_); rintro e w12 ⟨aX, nX, cX, rfl, oX, hb9⟩; have hR9 := hR.next hb9)
  | ((with_reducible refine qbz rfl _ _ _ rfl R rfl _ rfl zW hR9 (hz2 _) (hs2 _) (h12 aX nX cX) ?_); intro W13 hR13 q13))
 ·refine bodyPost_ret (qAz results14 rfl rfl hR13 rfl) rfl ?_
  have hE : ER = 1 := by rw [← hER.out]; unfold movE; rw [if_pos (by rw [hb1]; rfl)]
  have hY : YR = X := by rw [← hYR.out]; unfold movX; rw [hER.out, hE]; rfl
  rw [hE, hY]
  exact ⟨aX, nX, cX, rfl, (ObsN.store oX q13 hR.lt (fun b hb => by have := hD b hb; have := hRw.out; omega)).low hk.size, q13.below _ _ hRw.out (btz hk hb9)⟩
 ·refine bodyPost_ret (qAz results14 rfl rfl hR13 rfl) rfl ?_
  have hE : ER = 1 := by rw [← hER.out]; unfold movE; rw [if_pos (by rw [hb1, hb2]; rfl)]
  have hY : YR = X := by rw [← hYR.out]; unfold movX; rw [hER.out, hE]; rfl
  rw [hE, hY]
  exact ⟨aX, nX, cX, rfl, (ObsN.store oX q13 hR.lt (fun b hb => by have := hD b hb; have := hRw.out; omega)).low hk.size, q13.below _ _ hRw.out (btz hk hb9)⟩
 ·refine bodyPost_ret (qAz results14 rfl rfl hR13 rfl) rfl ?_
  have hE : ER = 4 := by rw [← hER.out]; unfold movE; rw [if_neg (by rw [hb1, hb2]; decide), if_neg (fun c => c hj), if_neg (by rw [hb4]; decide), if_pos (.inl hm1)]
  have hY : YR = X := by rw [← hYR.out]; unfold movX; rw [hER.out, hE]; rfl
  rw [hE, hY]
  exact ⟨aX, nX, cX, rfl, (ObsN.store oX q13 hR.lt (fun b hb => by have := hD b hb; have := hRw.out; omega)).low hk.size, q13.below _ _ hRw.out (btz hk hb9)⟩
 ·refine bodyPost_ret (qAz results14 rfl rfl hR13 rfl) rfl ?_
  have hE : ER = 4 := by rw [← hER.out]; unfold movE; rw [if_neg (by rw [hb1, hb2]; decide), if_neg (fun c => c hj), if_neg (by rw [hb4]; decide), if_pos (.inr hm2)]
  have hY : YR = X := by rw [← hYR.out]; unfold movX; rw [hER.out, hE]; rfl
  rw [hE, hY]
  exact ⟨aX, nX, cX, rfl, (ObsN.store oX q13 hR.lt (fun b hb => by have := hD b hb; have := hRw.out; omega)).low hk.size, q13.below _ _ hRw.out (btz hk hb9)⟩
 ·refine PgM.region_out (S := fun W => Below w14.heap.size w14 W) hmx ((brz _ _).drew) (fun hS => ?_)
  generalize w14.drew = v14 at hS ⊢
  refine qvz (by kernel_rfl) (fun _ _ _ _ _ h => h) hS [(0, some (.agg G)), (1, some (.agg C1)), (3, some (.agg G)), (4, some (.agg C2))] (obs := [.load 72 B8 0 (.agg G), .load 43 P9 0 (.agg C1), .load 72 B8 0 (.agg G), .load 43 P11 0 (.agg C2)]) (n := 4) (by kernel_rfl) (by kernel_rfl) ⟨qyz (fun _ h => hB8.next h) underlying72 (by kernel_rfl) hzv, qyz (fun _ h => hP9.next h) underlying43 (by kernel_rfl) (qez hz1), qyz (fun _ h => hB8.next h) underlying72 (by kernel_rfl) hzv, qyz (fun _ h => hP11.next h) underlying43 (by kernel_rfl) (qez hz3), trivial⟩ ?_
  refine qnz (i := 2) (fuel := 3) (f := 42) (vs := [.agg G, .agg C1]) (d := some 69) (by kernel_rfl) (by kernel_rfl) (by kernel_rfl) call42 (hrm _ (btz hk hS)) ?_
  rintro e v15 ⟨rfl, hbv15⟩
  have hSv15 : Below w14.heap.size w14 v15 := btz hS hbv15
  refine ⟨_, rfl, hSv15, ?_⟩
  refine qnz (i := 5) (fuel := 2) (f := 43) (vs := [.agg G, .agg C2]) (d := some 72) (by kernel_rfl) (by kernel_rfl) (by kernel_rfl) call43 (hus _ (btz hk hSv15)) ?_
  rintro e v16 ⟨rfl, hbv16⟩
  have hSv16 : Below w14.heap.size w14 v16 := btz hSv15 hbv16
  refine ⟨_, rfl, hSv16, ?_⟩
  refine qjz (by kernel_rfl) (fun _ _ _ _ _ h => h) hSv16 [(6, none), (7, none)] (l' := #[tt, tt, tt, tt, tt, tt, tt, tt]) (a' := { tmps := #[.agg G, .int .u64 i, .int .u64 j, .int .i64 m, .pointer (some ⟨B3, 0, none⟩), ud, ud, undef, .pointer (some ⟨R, 0, none⟩), .int .i64 0, .pointer (some ⟨B8, 0, none⟩), .pointer (some ⟨P9, 0, none⟩), .bool true, .pointer (some ⟨P11, 0, none⟩), .bool true, .int .i64 rm, .int .i64 us, .agg G, .agg G, .tuple #[.agg C1, .bool true], .agg G, .int .u64 i, .tuple #[.agg C1, .bool true], .agg C1, .bool true, .tuple #[.agg C2, .bool true], .agg G, .int .u64 j, .tuple #[.agg C2, .bool true], .agg C2, .bool true, .bool false, .bool true, .bool false, .bool false, .bool true, .bool false, .bool false, .bool false, .pointer (some ⟨P9, 5, none⟩), .slice al nl cl, .int .u64 j, .bool true, .bool false, .bool false, ud, ud, ud, undef, .bool false, .pointer (some ⟨P11, 4, none⟩), .bool false, ud, ud, ud, undef, .bool false, .int .i64 m, .bool false, .bool false, .int .i64 m, .bool false, .bool false, ud, ud, ud, undef, .agg G, .agg C1, .int .i64 rm, .agg G, .agg C2, .int .i64 us, ud, ud, ud, ud, ud, ud, ud, ud, ud, ud, ud, ud, ud, ud, ud, ud, ud, ud, ud, ud, ud, ud, ud, ud, ud, ud, undef], defers := [] }) (obs := []) (n := 0) (by kernel_rfl) (by kernel_rfl) trivial ?_
  refine wpAnyH_done (by kernel_rfl) ?_ _
  replace hB3 := hB3.next hSv16
  replace hR := hR.next hSv16
  replace hB8 := hB8.next hSv16
  replace hP9 := hP9.next hSv16
  replace hP11 := hP11.next hSv16
  replace hk := btz hk hSv16
  clear hS hSv15 hSv16 hbv15 hbv16
  by_cases c1 : rm < m
  ·have hc : Hid (rm < m) := c1
   go_wp2_with (first
    | go_skip
    | (with_reducible refine qaz (by kernel_rfl) _ _ rfl P11 _ rfl _ _ hP11 _ z3 isAgg3 ?_)
    | ((with_reducible refine qiz rfl _ _ _ rfl P11 3 rfl (.int .i64 (q + m)) rfl rfl C2 _ hP11 sizeN (by rw [hz3]; omega) rfl ?_); intro V17 hQn q17; rw [← hqe.out, hCn.out] at hQn; replace hB3 := hB3.other q17 hPw2.out.2.1; replace hR := hR.other q17 hPw2.out.2.2.1; replace hB8 := hB8.other q17 hPw2.out.2.2.2.1; replace hk := q17.below _ _ hPw2.out.1 hk; clear hP11; have hQ11 := hQn)
    | (with_reducible refine qaz (by kernel_rfl) _ _ rfl P11 _ rfl _ _ hQ11 _ hn3 isAgg3 ?_)
    | ((with_reducible refine qgz (by kernel_rfl) .gtr 3 _ _ _ rfl (.int .i64 m) _ rfl rfl (qxz _ _ _ _ _ _) ?_ ?_) <;> first | (intro g1; exfalso; have h1 := g1.out; have h2 := hc.out; omega) | intro g1)
    | ((with_reducible refine qgz (by kernel_rfl) .lss 3 _ _ _ rfl (.int .i64 (q + m)) _ rfl rfl (wez _ _ _ _ _ _) ?_ ?_) <;> first | (intro g2; exfalso; have h1 := g2.out; have h2 := hc.out; omega) | intro g2)
    | ((with_reducible refine qgz (by kernel_rfl) .gtr 3 _ _ _ rfl (.int .i64 (q + m)) _ rfl rfl (qxz _ _ _ _ _ _) ?_ ?_) <;> first | (intro g3; exfalso; have h1 := g3.out; have h2 := hc.out; omega) | intro g3)
    | (with_reducible refine qdz (by kernel_rfl) 72 _ rfl B8 rfl G hB8 _ underlying72 (by kernel_rfl) hzv ?_)
    | (go_at_call 33; (with_reducible refine (hrf _ hk).mono ?_); rintro e w12 ⟨aX, nX, cX, rfl, oX, hb9⟩; have hR9 := hR.next hb9)
    | ((with_reducible refine qbz rfl _ _ _ rfl R rfl _ rfl zW hR9 (hz2 _) (hs2 _) (h12 aX nX cX) ?_); intro W13 hR13 q13))
   all_goals
    refine bodyPost_ret (qAz results14 rfl rfl hR13 rfl) rfl ?_
    have hE : ER = 5 := by rw [← hER.out]; unfold movE; rw [if_neg (by rw [hb1, hb2]; decide), if_neg (fun c => c hj), if_neg (by rw [hb4]; decide), if_neg (by have := hm.out; omega), if_pos (by rw [hrme.out, huse.out, hqe.out]; have h2 := hc.out; omega)]
    have hY : YR = X := by rw [← hYR.out]; unfold movX; rw [hER.out, hE]; rfl
    rw [hE, hY]
    exact ⟨aX, nX, cX, rfl, (ObsN.store oX q13 hR.lt (fun b hb => by have := hD b hb; have := hRw.out; omega)).low hk.size, q13.below _ _ hRw.out (btz hk hb9)⟩
  ·by_cases c2 : q + m < max us 1
   ·have hc : Hid (¬ rm < m ∧ q + m < max us 1) := ⟨c1, c2⟩
    go_wp2_with (first
     | go_skip
     | (with_reducible refine qaz (by kernel_rfl) _ _ rfl P11 _ rfl _ _ hP11 _ z3 isAgg3 ?_)
     | ((with_reducible refine qiz rfl _ _ _ rfl P11 3 rfl (.int .i64 (q + m)) rfl rfl C2 _ hP11 sizeN (by rw [hz3]; omega) rfl ?_); intro V17 hQn q17; rw [← hqe.out, hCn.out] at hQn; replace hB3 := hB3.other q17 hPw2.out.2.1; replace hR := hR.other q17 hPw2.out.2.2.1; replace hB8 := hB8.other q17 hPw2.out.2.2.2.1; replace hk := q17.below _ _ hPw2.out.1 hk; clear hP11; have hQ11 := hQn)
     | (with_reducible refine qaz (by kernel_rfl) _ _ rfl P11 _ rfl _ _ hQ11 _ hn3 isAgg3 ?_)
     | ((with_reducible refine qgz (by kernel_rfl) .gtr 3 _ _ _ rfl (.int .i64 m) _ rfl rfl (qxz _ _ _ _ _ _) ?_ ?_) <;> first | (intro g1; exfalso; have h1 := g1.out; have h2 := hc.out; omega) | intro g1)
     | ((with_reducible refine qgz (by kernel_rfl) .lss 3 _ _ _ rfl (.int .i64 (q + m)) _ rfl rfl (wez _ _ _ _ _ _) ?_ ?_) <;> first | (intro g2; exfalso; have h1 := g2.out; have h2 := hc.out; omega) | intro g2)
     | ((with_reducible refine qgz (by kernel_rfl) .gtr 3 _ _ _ rfl (.int .i64 (q + m)) _ rfl rfl (qxz _ _ _ _ _ _) ?_ ?_) <;> first | (intro g3; exfalso; have h1 := g3.out; have h2 := hc.out; omega) | intro g3)
     | (with_reducible refine qdz (by kernel_rfl) 72 _ rfl B8 rfl G hB8 _ underlying72 (by kernel_rfl) hzv ?_)
     | (go_at_call 33; (with_reducible refine (hrf _ hk).mono ?_); rintro e w12 ⟨aX, nX, cX, rfl, oX, hb9⟩; have hR9 := hR.next hb9)
     | ((with_reducible refine qbz rfl _ _ _ rfl R rfl _ rfl zW hR9 (hz2 _) (hs2 _) (h12 aX nX cX) ?_); intro W13 hR13 q13))
    all_goals
     refine bodyPost_ret (qAz results14 rfl rfl hR13 rfl) rfl ?_
     have hE : ER = 5 := by rw [← hER.out]; unfold movE; rw [if_neg (by rw [hb1, hb2]; decide), if_neg (fun c => c hj), if_neg (by rw [hb4]; decide), if_neg (by have := hm.out; omega), if_pos (by rw [hrme.out, huse.out, hqe.out]; have h2 := hc.out; omega)]
     have hY : YR = X := by rw [← hYR.out]; unfold movX; rw [hER.out, hE]; rfl
     rw [hE, hY]
     exact ⟨aX, nX, cX, rfl, (ObsN.store oX q13 hR.lt (fun b hb => by have := hD b hb; have := hRw.out; omega)).low hk.size, q13.below _ _ hRw.out (btz hk hb9)⟩
   ·by_cases c3 : 4096 < q + m
    ·have hc : Hid (¬ rm < m ∧ ¬ q + m < max us 1 ∧ 4096 < q + m) := ⟨c1, c2, c3⟩
     go_wp2_with (first
      | go_skip
      | (with_reducible refine qaz (by kernel_rfl) _ _ rfl P11 _ rfl _ _ hP11 _ z3 isAgg3 ?_)
      | ((with_reducible refine qiz rfl _ _ _ rfl P11 3 rfl (.int .i64 (q + m)) rfl rfl C2 _ hP11 sizeN (by rw [hz3]; omega) rfl ?_); intro V17 hQn q17; rw [← hqe.out, hCn.out] at hQn; replace hB3 := hB3.other q17 hPw2.out.2.1; replace hR := hR.other q17 hPw2.out.2.2.1; replace hB8 := hB8.other q17 hPw2.out.2.2.2.1; replace hk := q17.below _ _ hPw2.out.1 hk; clear hP11; have hQ11 := hQn)
      | (with_reducible refine qaz (by kernel_rfl) _ _ rfl P11 _ rfl _ _ hQ11 _ hn3 isAgg3 ?_)
      | ((with_reducible refine qgz (by kernel_rfl) .gtr 3 _ _ _ rfl (.int .i64 m) _ rfl rfl (qxz _ _ _ _ _ _) ?_ ?_) <;> first | (intro g1; exfalso; have h1 := g1.out; have h2 := hc.out; omega) | intro g1)
      | ((with_reducible refine qgz (by kernel_rfl) .lss 3 _ _ _ rfl (.int .i64 (q + m)) _ rfl rfl (wez _ _ _ _ _ _) ?_ ?_) <;> first | (intro g2; exfalso; have h1 := g2.out; have h2 := hc.out; omega) | intro g2)
      | ((with_reducible refine qgz (by kernel_rfl) .gtr 3 _ _ _ rfl (.int .i64 (q + m)) _ rfl rfl (qxz _ _ _ _ _ _) ?_ ?_) <;> first | (intro g3; exfalso; have h1 := g3.out; have h2 := hc.out; omega) | intro g3)
      | (with_reducible refine qdz (by kernel_rfl) 72 _ rfl B8 rfl G hB8 _ underlying72 (by kernel_rfl) hzv ?_)
      | (go_at_call 33; (with_reducible refine (hrf _ hk).mono ?_); rintro e w12 ⟨aX, nX, cX, rfl, oX, hb9⟩; have hR9 := hR.next hb9)
      | ((with_reducible refine qbz rfl _ _ _ rfl R rfl _ rfl zW hR9 (hz2 _) (hs2 _) (h12 aX nX cX) ?_); intro W13 hR13 q13))
     all_goals
      refine bodyPost_ret (qAz results14 rfl rfl hR13 rfl) rfl ?_
      have hE : ER = 5 := by rw [← hER.out]; unfold movE; rw [if_neg (by rw [hb1, hb2]; decide), if_neg (fun c => c hj), if_neg (by rw [hb4]; decide), if_neg (by have := hm.out; omega), if_pos (by rw [hrme.out, huse.out, hqe.out]; have h2 := hc.out; omega)]
      have hY : YR = X := by rw [← hYR.out]; unfold movX; rw [hER.out, hE]; rfl
      rw [hE, hY]
      exact ⟨aX, nX, cX, rfl, (ObsN.store oX q13 hR.lt (fun b hb => by have := hD b hb; have := hRw.out; omega)).low hk.size, q13.below _ _ hRw.out (btz hk hb9)⟩
    ·have hc : Hid (¬ rm < m ∧ ¬ q + m < max us 1 ∧ ¬ 4096 < q + m) := ⟨c1, c2, c3⟩
     go_wp2_with (first
      | go_skip
      | (with_reducible refine qaz (by kernel_rfl) _ _ rfl P11 _ rfl _ _ hP11 _ z3 isAgg3 ?_)
      | ((with_reducible refine qiz rfl _ _ _ rfl P11 3 rfl (.int .i64 (q + m)) rfl rfl C2 _ hP11 sizeN (by rw [hz3]; omega) rfl ?_); intro V17 hQn q17; rw [← hqe.out, hCn.out] at hQn; replace hB3 := hB3.other q17 hPw2.out.2.1; replace hR := hR.other q17 hPw2.out.2.2.1; replace hB8 := hB8.other q17 hPw2.out.2.2.2.1; replace hk := q17.below _ _ hPw2.out.1 hk; clear hP11; have hQ11 := hQn)
      | (with_reducible refine qaz (by kernel_rfl) _ _ rfl P11 _ rfl _ _ hQ11 _ hn3 isAgg3 ?_)
      | ((with_reducible refine qgz (by kernel_rfl) .gtr 3 _ _ _ rfl (.int .i64 m) _ rfl rfl (qxz _ _ _ _ _ _) ?_ ?_) <;> first | (intro g1; exfalso; have h1 := g1.out; have h2 := hc.out; omega) | intro g1)
      | ((with_reducible refine qgz (by kernel_rfl) .lss 3 _ _ _ rfl (.int .i64 (q + m)) _ rfl rfl (wez _ _ _ _ _ _) ?_ ?_) <;> first | (intro g2; exfalso; have h1 := g2.out; have h2 := hc.out; omega) | intro g2)
      | ((with_reducible refine qgz (by kernel_rfl) .gtr 3 _ _ _ rfl (.int .i64 (q + m)) _ rfl rfl (qxz _ _ _ _ _ _) ?_ ?_) <;> first | (intro g3; exfalso; have h1 := g3.out; have h2 := hc.out; omega) | intro g3)
      | (with_reducible refine qdz (by kernel_rfl) 25 _ rfl B3 rfl G hB3 _ underlying25 (by kernel_rfl) hzw ?_)
      | (with_reducible refine qdz (by kernel_rfl) 43 _ rfl P11 rfl Cn hQ11 _ underlying43 (by kernel_rfl) (qez hzn) ?_)
      | (go_at_call 41; (with_reducible refine (hpu _ hk).mono ?_); rintro e w12 ⟨aX, nX, cX, rfl, oX, hb9⟩; have hR9 := hR.next hb9)
      | ((with_reducible refine qbz rfl _ _ _ rfl R rfl _ rfl zW hR9 (hz2 _) (hs2 _) (h12 aX nX cX) ?_); intro W13 hR13 q13))
     all_goals
      refine bodyPost_ret (qAz results14 rfl rfl hR13 rfl) rfl ?_
      have hE : ER = 0 := by rw [← hER.out]; unfold movE; rw [if_neg (by rw [hb1, hb2]; decide), if_neg (fun c => c hj), if_neg (by rw [hb4]; decide), if_neg (by have := hm.out; omega), if_neg (by rw [hrme.out, huse.out, hqe.out]; have h2 := hc.out; omega)]
      have hY : YR = puR X { fO X j with quota := (fO X j).quota + m } := by rw [← hYR.out]; unfold movX; rw [hER.out, hE]; rfl
      rw [hE, hY]
      exact ⟨aX, nX, cX, rfl, (ObsN.store oX q13 hR.lt (fun b hb => by have := hD b hb; have := hRw.out; omega)).low hk.size, q13.below _ _ hRw.out (btz hk hb9)⟩
 ·refine bodyPost_ret (qAz results14 rfl rfl hR13 rfl) rfl ?_
  have hE : ER = 8 := by rw [← hER.out]; unfold movE; rw [if_neg (by rw [hb1, hb2]; decide), if_neg (fun c => c hj), if_pos hb4]
  have hY : YR = X := by rw [← hYR.out]; unfold movX; rw [hER.out, hE]; rfl
  rw [hE, hY]
  exact ⟨aX, nX, cX, rfl, (ObsN.store oX q13 hR.lt (fun b hb => by have := hD b hb; have := hRw.out; omega)).low hk.size, q13.below _ _ hRw.out (btz hk hb9)⟩
 ·refine bodyPost_ret (qAz results14 rfl rfl hR13 rfl) rfl ?_
  have hE : ER = 1 := by rw [← hER.out]; unfold movE; rw [if_neg (by rw [hb1, hb2]; decide), if_pos hj]
  have hY : YR = X := by rw [← hYR.out]; unfold movX; rw [hER.out, hE]; rfl
  rw [hE, hY]
  exact ⟨aX, nX, cX, rfl, (ObsN.store oX q13 hR.lt (fun b hb => by have := hD b hb; have := hRw.out; omega)).low hk.size, q13.below _ _ hRw.out (btz hk hb9)⟩
end
section
theorem tre_lays {X : List Ob} {ro : Int} (h : Tre X ro) : Lays X := by
 have hc := fun (x : Ob) (hx : x ∈ X) => qSz.1 (qtz.1 (h.snd x hx)).1
 refine ⟨h.srt, fun x hx => w9z (h.snd x hx), ?_, fun x hx => ⟨by have := (hc x hx).2.1; omega, (hc x hx).2.2.1⟩, fun x hx => ?_, fun x hx => ?_⟩
 ·rw [klz]
  intro x hx e
  have h1 := (hc x hx).1
  rw [e] at h1
  exact absurd h1 (by decide)
 ·have := (qFz.1 (hc x hx).2.2.2.1).1
  omega
 ·by_cases k2 : x.kind = 2
  ·have ho := (qtz.1 (h.snd x hx)).2.1
   unfold ownB at ho
   rw [if_neg (by rw [k2]; decide), if_pos k2] at ho
   simp only [Bool.and_eq_true, decide_eq_true_eq] at ho
   refine ⟨?_, by omega⟩
   have h3 := ho.2.2
   unfold risB at h3
   exact of_decide_eq_true h3
  ·rw [kEz (h.snd x hx) k2]; exact ⟨List.Pairwise.nil, by decide⟩
end
section
open Go.RowKit Go.Shelf
def Wr (W : World) (V : Array Value) (t ke ro : Int) (X : List Ob) : Prop := ∃ ao n cap, V = #[.int .i64 t, .int .u64 ke, .int .u64 ro, .slice ao n cap] ∧ Obs W ao n cap X
section
variable {W W' : World} {V : Array Value} {t ke ro : Int} {X : List Ob}
theorem Wr.next (h : Wr W V t ke ro X) (k : Below W.heap.size W W') : Wr W' V t ke ro X := by
 obtain ⟨ao, n, cap, e, h⟩ := h
 exact ⟨ao, n, cap, e, qqz h k⟩
theorem Wr.size (h : Wr W V t ke ro X) : (prog.info? 25).map (·.size) = some V.size := by
 obtain ⟨ao, n, cap, rfl, _⟩ := h
 exact wcz
theorem Wr.old (h : Wr W V t ke ro X) : zW.size = V.size := by
 obtain ⟨ao, n, cap, rfl, _⟩ := h
 rfl
theorem Wr.one (h : Wr W V t ke ro X) : V.all (·.oneCell') = true := by
 obtain ⟨ao, n, cap, rfl, _⟩ := h
 kernel_rfl
theorem attach_r (h : Wr W V t ke ro X) (hL : Lays X) (hl : X.length < 1022) {Co : Array Value} {o : Ob} (ho : ObD (LtN W) W Co o) (hos : Small o) (hol : o.label.length < 1048576) {i : Int} :
  Calls prog 8 #[.agg V, .int .u64 i, .agg Co] W fun e w' => ∃ V', e = .returned (.tuple #[.agg V', .int .i64 (attE X i o)]) ∧ Wr w' V' t ke ro (attX X i o) ∧ Below W.heap.size W w' := by
 obtain ⟨ao, n, cap, rfl, h⟩ := h
 obtain ⟨Cf, hF⟩ := h.fam
 refine (jNz (D0 := LtN W) (fun _ hb => hb) hF hL (by rw [← h.1]; exact hl) ho hos hol).mono ?_
 rintro e w' ⟨a, m, c, rfl, hO, hk⟩
 exact ⟨_, rfl, ⟨a, m, c, rfl, yuz hO hk⟩, hk⟩
theorem link_r (h : Wr W V t ke ro X) (hL : Lays X) (hl : X.length < 1022) {i j : Int} :
  Calls prog 10 #[.agg V, .int .u64 i, .int .u64 j] W fun e w' => ∃ V', e = .returned (.tuple #[.agg V', .int .i64 (linE X i j)]) ∧ Wr w' V' t ke ro (linX X i j) ∧ Below W.heap.size W w' := by
 obtain ⟨ao, n, cap, rfl, h⟩ := h
 obtain ⟨Cf, hF⟩ := h.fam
 refine (link_v (D0 := LtN W) (fun _ hb => hb) hF hL (by rw [← h.1]; exact hl)).mono ?_
 rintro e w' ⟨a, m, c, rfl, hO, hk⟩
 exact ⟨_, rfl, ⟨a, m, c, rfl, yuz hO hk⟩, hk⟩
theorem move_r (h : Wr W V t ke ro X) (hL : Lays X) (hl : X.length < 1022) {i j m : Int} :
  Calls prog 14 #[.agg V, .int .u64 i, .int .u64 j, .int .i64 m] W fun e w' => ∃ V', e = .returned (.tuple #[.agg V', .int .i64 (movE X i j m)]) ∧ Wr w' V' t ke ro (movX X i j m) ∧ Below W.heap.size W w' := by
 obtain ⟨ao, n, cap, rfl, h⟩ := h
 obtain ⟨Cf, hF⟩ := h.fam
 refine (move_v (D0 := LtN W) (fun _ hb => hb) hF hL (by rw [← h.1]; exact hl)).mono ?_
 rintro e w' ⟨a, m, c, rfl, hO, hk⟩
 exact ⟨_, rfl, ⟨a, m, c, rfl, yuz hO hk⟩, hk⟩
end
theorem fix_r {W : World} {V : Array Value} {t ke ro : Int} {X : List Ob} (h : Wr W V t ke ro X) (hL : Lays X) (hl : X.length < 1022) {i : Int} :
  Calls prog 12 #[.agg V, .int .u64 i] W fun e w' => ∃ V', e = .returned (.tuple #[.agg V', .int .i64 (fixE X i)]) ∧ Wr w' V' t ke ro (fixX X i) ∧ Below W.heap.size W w' := by
 obtain ⟨ao, n, cap, rfl, h⟩ := h
 obtain ⟨Cf, hF⟩ := h.fam
 refine (fix_v (D0 := LtN W) (fun _ hb => hb) hF hL (by rw [← h.1]; exact hl)).mono ?_
 rintro e w' ⟨a, m, c, rfl, hO, hk⟩
 exact ⟨_, rfl, ⟨a, m, c, rfl, yuz hO hk⟩, hk⟩
end
section
open Go.ChangeShapes Go.WideShapes Go.ChangeAt Go.RowKit
def wtl (x : Int) : Bool → List Int → List Int
 | d, [] => if d then [] else [x]
 | d, c :: r => (if !d && decide (x < c) then [x] else []) ++ (c :: wtl x (d || decide (x < c)) r)
variable {C : List Int}
theorem wtl_drop {k : Nat} {y : Int} (h : k < C.length) (e : C.getD k 0 = y) (x : Int) (d : Bool) :
  wtl x d (C.drop k) = (if !d && decide (x < y) then [x] else []) ++ (y :: wtl x (d || decide (x < y)) (C.drop (k + 1))) := by
 have e' : C[k] = y := by simpa [List.getD_eq_getElem?_getD, List.getElem?_eq_getElem h] using e
 rw [List.drop_eq_getElem_cons h, e']
 rfl
theorem v3z (x : Int) : ∀ C : List Int, wtl x true C = C
 | [] => rfl
 | c :: r => by simp [wtl, v3z x r]
variable {x : Int}
theorem jQz : ∀ {C : List Int}, (∀ c ∈ C, x < c) → wtl x false C = x :: C
 | [], _ => rfl
 | c :: r, h => by
  have hc : x < c := h c (by simp)
  simp [wtl, hc, v3z]
theorem ah_zero (h : ∀ c ∈ C, x ≤ c) : ahW C x = 0 := by
 unfold ahW
 rw [List.length_eq_zero_iff, List.filter_eq_nil_iff]
 intro c hc
 have := h c hc
 simp
 omega
theorem utz : ∀ {C : List Int}, C.Pairwise (· < ·) → wtl x false C = insW C x
 | [], _ => rfl
 | c :: r, h => by
  obtain ⟨h1, h2⟩ := List.pairwise_cons.1 h
  by_cases hx : x ≤ c
  ·have e : ahW (c :: r) x = 0 := ah_zero fun d hd => by
    rcases List.mem_cons.1 hd with rfl | hd
    ·exact hx
    ·have := h1 d hd; omega
   unfold insW
   rw [e]
   by_cases hc : x < c
   ·rw [jQz fun d hd => ?_]
    ·rfl
    ·rcases List.mem_cons.1 hd with rfl | hd
     ·exact hc
     ·have := h1 d hd; omega
   ·obtain rfl : x = c := by omega
    have : wtl x false (x :: r) = x :: wtl x false r := by simp [wtl]
    rw [this, jQz h1]
    rfl
  ·have hc : ¬ x < c := by omega
   have e1 : wtl x false (c :: r) = c :: wtl x false r := by simp [wtl, hc]
   have e2 : ahW (c :: r) x = ahW r x + 1 := by
    unfold ahW
    rw [List.filter_cons_of_pos (by simp; omega)]
    rfl
   rw [e1, utz h2]
   unfold insW
   rw [e2]
   rfl
theorem rwith_v {w : World} {ao : Option Addr} {n cap : Nat} (hC : CtD (LtN w) w ao n cap C) (hs : C.Pairwise (· < ·)) (hn : n ≤ 4096) :
  Calls prog 68 #[.slice ao n cap, .int .u64 x] w fun e w' => ∃ v, e = .returned v ∧ w'.ownsRow w.heap.size 22 1 v (insW C x).length (qNz (insW C x)) ∧ Below w.heap.size w w' := by
 obtain ⟨i0, hi, hz0, hz1, hz2⟩ := info_parts vXz
 have hll := hC.1
 have hnc := hC.2.1
 have hcm := hC.2.2.1.1
 have hI : Hid (insW C x = wtl x false C) := (utz hs).symm
 obtain ⟨R, hR⟩ : ∃ R, Hid (insW C x = R) := ⟨_, rfl⟩
 rw [hR.out] at hI ⊢
 clear hs
 go_enter func68, ntmps68
 go_wp2
 go_loopw [5, 6, 7] (fun v dv i wr => ∃ (k : Nat) (d : Bool) (O : List Int) (ao1 : Option Addr) (cap1 : Nat), k ≤ n ∧ i = .int .i64 k ∧ dv = .bool d ∧ v = .slice ao1 O.length cap1 ∧ Hid (R = O ++ wtl x d (C.drop k)) ∧ O.length ≤ 2 * k ∧ wr.ownsRow w.heap.size 22 1 (.slice ao1 O.length cap1) O.length (O.map (Value.int .u64)) ∧ Below w.heap.size w wr) (fun _ _ i _ => n - (intOf i).toNat)
 case atStart => exact ⟨0, _, [], none, 0, Nat.zero_le _, rfl, rfl, rfl, hI.out, lrz _, World.ownsRow_nil _ _ _ _, brz _ _⟩
 case round =>
  obtain ⟨k, d, O, ao1, cap1, hk, rfl, rfl, rfl, hO, hOl, hrow, hb⟩ := hrel
  have hbs := hb.size
  by_cases hkn : k < n
  ·obtain ⟨b, off, hao, hbb, hc⟩ := kWz hC hkn
   subst hao
   have hbB : b < w.heap.size := hbb
   obtain ⟨y, hy⟩ : ∃ y, Hid (C.getD k 0 = y) := ⟨_, rfl⟩
   rw [hy.out] at hc
   have d0 := (hb.cell (p := ⟨b, off + k, none⟩) hbB).trans hc
   have HW : Hid (wtl x d (C.drop k) = _) := wtl_drop (by omega) hy.out x d
   have hbw : b < wr.heap.size := by omega
   clear hC
   cases d with
   | true =>
    go_wp2_with (at_builtin; refine wpList_append_own _ rfl (.tmp 28) (.tmp 33) 28 rfl w.heap.size 22 i0 (.int .u64 0) 1 8 underlying28 hi hz0 hz1 hz2 rfl (by decide) _ _ _ rfl (hrow.alloc _) ⟨wr.heap.size, 0, none⟩ 1 1 [.int .u64 y] rfl rfl (cell_one_new _ _ _) (by simp [Value.oneCell']) (by unfold maxLen; omega) (by omega) (by simp; omega) ?_; intro v1 w1 hown1 hgrow1 _; obtain ⟨g1, cp1, rfl⟩ := qOz hown1; have hb1 := q7z hb hrow hgrow1 hbs)
    go_roundw
    case rel => exact ⟨k + 1, true, O ++ [y], some ⟨g1, 0, none⟩, cp1, by omega, by go_num, rfl, by simp, hO.out.trans (by rw [HW.out]; simp), by simp; omega, by simpa using hown1, hb1⟩
    case measure => simp [intOf]; omega
   | false =>
    by_cases hxy : x < y
    ·have hxb : decide (x < y) = true := by simpa using hxy
     go_wp2_with (first | (at_builtin; refine wpList_append_own _ rfl (.tmp 24) (.tmp 26) 28 rfl w.heap.size 22 i0 (.int .u64 0) 1 8 underlying28 hi hz0 hz1 hz2 rfl (by decide) _ _ _ rfl (hrow.alloc _) ⟨wr.heap.size, 0, none⟩ 1 1 [.int .u64 x] rfl rfl (cell_one_new _ _ _) (by simp [Value.oneCell']) (by unfold maxLen; omega) (by omega) (by simp; omega) ?_; intro v1 w1 hown1 hgrow1 _; obtain ⟨g1, cp1, rfl⟩ := qOz hown1; have hb1 := q7z hb hrow hgrow1 hbs; have hbs1 := hb1.size; have d2 := (hb1.cell (p := ⟨b, off + k, none⟩) hbB).trans hc) | (at_builtin; refine wpList_append_own _ rfl (.tmp 28) (.tmp 33) 28 rfl w.heap.size 22 i0 (.int .u64 0) 1 8 underlying28 hi hz0 hz1 hz2 rfl (by decide) _ _ _ rfl (hown1.alloc _) ⟨w1.heap.size, 0, none⟩ 1 1 [.int .u64 y] rfl rfl (cell_one_new _ _ _) (by simp [Value.oneCell']) (by unfold maxLen; omega) (by omega) (by simp; omega) ?_; intro v2 w2 hown2 hgrow2 _; obtain ⟨g2, cp2, rfl⟩ := qOz hown2; have hb2 := q7z hb1 hown1 hgrow2 hbs1))
     go_roundw
     case rel => exact ⟨k + 1, true, O ++ [x] ++ [y], some ⟨g2, 0, none⟩, cp2, by omega, by go_num, rfl, by simp, hO.out.trans (by rw [HW.out]; simp [hxy]), by simp; omega, by simpa using hown2, hb2⟩
     case measure => simp [intOf]; omega
    ·have hxb : decide (x < y) = false := by simpa using hxy
     go_wp2_with (at_builtin; refine wpList_append_own _ rfl (.tmp 28) (.tmp 33) 28 rfl w.heap.size 22 i0 (.int .u64 0) 1 8 underlying28 hi hz0 hz1 hz2 rfl (by decide) _ _ _ rfl (hrow.alloc _) ⟨wr.heap.size, 0, none⟩ 1 1 [.int .u64 y] rfl rfl (cell_one_new _ _ _) (by simp [Value.oneCell']) (by unfold maxLen; omega) (by omega) (by simp; omega) ?_; intro v1 w1 hown1 hgrow1 _; obtain ⟨g1, cp1, rfl⟩ := qOz hown1; have hb1 := q7z hb hrow hgrow1 hbs)
     go_roundw
     case rel => exact ⟨k + 1, false, O ++ [y], some ⟨g1, 0, none⟩, cp1, by omega, by go_num, rfl, by simp, hO.out.trans (by rw [HW.out]; simp [hxy]), by simp; omega, by simpa using hown1, hb1⟩
     case measure => simp [intOf]; omega
  ·have hO' : Hid (R = O ++ wtl x d []) := by
    have h2 : C.drop k = [] := List.drop_eq_nil_of_le (by omega)
    have h3 := hO.out
    rw [h2] at h3
    exact h3
   clear hC hO hI
   cases d with
   | true =>
    have hO2 : Hid (R = O) := by have := hO'.out; show R = O; simpa [wtl] using this
    go_wp2
    go_ret
    exact ⟨_, rfl, by rw [hO2.out]; exact hrow, hb⟩
   | false =>
    have hO2 : Hid (R = O ++ [x]) := hO'.out
    go_wp2_with (at_builtin; refine wpList_append_own _ rfl (.tmp 37) (.tmp 39) 28 rfl w.heap.size 22 i0 (.int .u64 0) 1 8 underlying28 hi hz0 hz1 hz2 rfl (by decide) _ _ _ rfl (hrow.alloc _) ⟨wr.heap.size, 0, none⟩ 1 1 [.int .u64 x] rfl rfl (cell_one_new _ _ _) (by simp [Value.oneCell']) (by unfold maxLen; omega) (by omega) (by simp; omega) ?_; intro v1 w1 hown1 hgrow1 _; obtain ⟨g1, cp1, rfl⟩ := qOz hown1; have hb1 := q7z hb hrow hgrow1 hbs)
    go_ret
    exact ⟨_, rfl, by rw [hO2.out]; unfold qNz; simpa using hown1, hb1⟩
end
section
open Go.RowKit Go.Shelf
attribute [local go_sem] Oper.semAt_some
def layD (X : List Ob) (d o : Ob) : Int := if plcB d.label o.label = false then 2 else if 64 ≤ d.links.length then 6 else if wwz X d < o.quota ∨ 0 < o.links.length then 5 else 0
def ladO (X : List Ob) (d o : Ob) : Ob := if layD X d o = 0 then { d with links := insW d.links o.id } else d
variable {X : List Ob} {d o : Ob}
theorem lay_2 (h : plcB d.label o.label = false) : layD X d o = 2 := by unfold layD; rw [if_pos h]
theorem lay_6 (h : plcB d.label o.label = true) (k : 64 ≤ d.links.length) : layD X d o = 6 := by unfold layD; rw [if_neg (by rw [h]; decide), if_pos k]
theorem lay_5 (h : plcB d.label o.label = true) (k : ¬ 64 ≤ d.links.length) (m : wwz X d < o.quota ∨ 0 < o.links.length) : layD X d o = 5 := by unfold layD; rw [if_neg (by rw [h]; decide), if_neg k, if_pos m]
theorem lay_0 (h : plcB d.label o.label = true) (k : ¬ 64 ≤ d.links.length) (m : ¬ (wwz X d < o.quota ∨ 0 < o.links.length)) : layD X d o = 0 := by unfold layD; rw [if_neg (by rw [h]; decide), if_neg k, if_neg m]
variable {k : Int}
theorem ywz (h : layD X d o = k) (hk : k ≠ 0) : ladO X d o = d := by unfold ladO; rw [h, if_neg hk]
theorem gsz (h : layD X d o = 0) : ladO X d o = { d with links := insW d.links o.id } := by unfold ladO; rw [if_pos h]
variable {ao : Option Addr} {n cap : Nat} {t ke ro : Int} {w : World} {D0 : Nat → Prop} {C K : Array Value}
theorem rlaid_a (h : Obs w ao n cap X) (hq : ∀ x ∈ X, 0 ≤ x.quota ∧ x.quota ≤ 4096) (hD : ∀ b, D0 b → b < w.heap.size) (hd0 : ObD D0 w C d) (ho : ObD (LtN w) w K o) (sd : Small d) (fd : LbF d.label) (fo : LbF o.label) (hdq : 0 ≤ d.quota ∧ d.quota ≤ 4096) (hp : d.links.Pairwise (· < ·)) (hdl : d.links.length ≤ 4096) (hP : plcB d.label o.label = false) (hE : layD X d o = 2) : Calls prog 35 #[.agg #[.int .i64 t, .int .u64 ke, .int .u64 ro, .slice ao n cap], .agg C, .agg K] w fun e w' => ∃ C', e = .returned (.tuple #[.agg C', .int .i64 (layD X d o)]) ∧ ObD (fun b => D0 b ∨ New w w' b) w' C' (ladO X d o) ∧ Below w.heap.size w w' := by
 have hL := ywz hE (by decide)
 rw [hE, hL]
 clear hE hL
 have hd := hd0.wide hD
 have hmx : prog.follows .mixedOrders = true := by kernel_rfl
 have hz := hd.size
 have hz2 := ho.size
 obtain ⟨a2, n2, c2, e2, l2⟩ := hd.label
 obtain ⟨f2, m2, g2, j2, k2⟩ := ho.label
 obtain ⟨a5, n5, c5, e5, l5⟩ := hd.links
 obtain ⟨f5, m5, g5, j5, k5⟩ := ho.links
 have hn2 : n2 < 1048576 := by rw [← l2.1]; exact fd.2
 have hm2 : m2 < 1048576 := by rw [← k2.1]; exact fo.2
 have h5 : Hid (d.links.length = n5) := l5.1
 have h5o : Hid (o.links.length = m5) := k5.1
 have i0 := ho.id
 have q3 := ho.quota
 have ga0 := isAgg27
 have ga1 := isAgg22
 have ga2 := isAgg3
 have ga4 := isAgg28
 have hpl := fun (W : World) (hk : Below w.heap.size w W) => wLz (LabD.lab' l2 hk) (LabD.lab' k2 hk) hn2 hm2 fd.1 fo.1
 change ∀ (W : World) (hk : Below w.heap.size w W), Calls prog _ _ W fun e w' => e = .returned (.bool (plcB d.label o.label)) ∧ _ at hpl
 rw [hP] at hpl
 have hro := fun (W : World) (hk : Below w.heap.size w W) => wQz (t := t) (ke := ke) (ro := ro) (qqz h hk) hq (hd.next hk) sd hdq
 generalize wwz X d = rm at hro
 have hzg : (prog.info? 25).map (·.size) = some (#[.int .i64 t, .int .u64 ke, .int .u64 ro, .slice ao n cap] : Array Value).size := by kernel_rfl
 obtain ⟨G, hG⟩ : ∃ G : Array Value, G = #[.int .i64 t, .int .u64 ke, .int .u64 ro, .slice ao n cap] := ⟨_, rfl⟩
 rw [← hG] at hzg hro
 rw [← hG]
 clear hG hP
 go_enter func35, ntmps35
 go_wp2_with (first
  | (with_reducible refine qcz rfl 25 (.tmp 0) rfl G rfl ?_; intro B W1 hN1 hB hk)
  | (with_reducible refine qcz rfl 43 (.tmp 1) rfl C rfl ?_; intro T W2 hN2 hT hk2; replace hB := hB.next hk2; replace hk := btz hk hk2; clear hk2)
  | (with_reducible refine qcz rfl 43 (.tmp 2) rfl K rfl ?_; intro O W3 hN3 hO hk3; replace hB := hB.next hk3; replace hT := hT.next hk3; replace hk := btz hk hk3; clear hk3)
  | ((with_reducible refine qfz rfl 43 rfl zC qzz ?_); intro R W4 hN4 hR hk4; replace hB := hB.next hk4; replace hT := hT.next hk4; replace hO := hO.next hk4; replace hk := btz hk hk4; clear hk4)
  | (with_reducible refine qaz (by kernel_rfl) _ _ rfl T 2 rfl _ _ hT _ e2 ga0 ?_)
  | (with_reducible refine qaz (by kernel_rfl) _ _ rfl O 2 rfl _ _ hO _ j2 ga0 ?_)
  | (with_reducible refine qaz (by kernel_rfl) _ _ rfl T 5 rfl _ _ hT _ e5 ga4 ?_)
  | (go_at_call 47; (with_reducible refine (hpl _ hk).mono ?_); rintro e w5 ⟨rfl, hb5⟩; replace hB := hB.next hb5; replace hT := hT.next hb5; replace hO := hO.next hb5; replace hR := hR.next hb5; replace hk := btz hk hb5; clear hb5)
  | (with_reducible refine qdz (by kernel_rfl) 43 _ rfl T rfl C hT _ underlying43 (by kernel_rfl) (qez hz) ?_)
  | ((with_reducible refine qbz rfl _ _ _ rfl R rfl C rfl zC hR (qez hz) (qoz.trans hz.symm) hd.one ?_); intro V5 hR5 q5))
 have hwR : w.heap.size ≤ R := (by have := hN1.out; have := hN2.out; have := hN3.out; have := hN4.out; omega)
 refine bodyPost_ret (v := .tuple #[.agg C, .int .i64 2]) (xGz results35 rfl rfl hR5 hz) rfl ⟨C, rfl, ?_, q5.below _ _ hwR hk⟩
 exact (hd0.laterK fun b hb => (q5.block b (by have := hD b hb; omega)).trans (hk.block b (hD b hb))).wide fun b hb => .inl hb
theorem rlaid_b (h : Obs w ao n cap X) (hq : ∀ x ∈ X, 0 ≤ x.quota ∧ x.quota ≤ 4096) (hD : ∀ b, D0 b → b < w.heap.size) (hd0 : ObD D0 w C d) (ho : ObD (LtN w) w K o) (sd : Small d) (fd : LbF d.label) (fo : LbF o.label) (hdq : 0 ≤ d.quota ∧ d.quota ≤ 4096) (hp : d.links.Pairwise (· < ·)) (hdl : d.links.length ≤ 4096) (hP : plcB d.label o.label = true) (hF : 64 ≤ d.links.length) (hE : layD X d o = 6) : Calls prog 35 #[.agg #[.int .i64 t, .int .u64 ke, .int .u64 ro, .slice ao n cap], .agg C, .agg K] w fun e w' => ∃ C', e = .returned (.tuple #[.agg C', .int .i64 (layD X d o)]) ∧ ObD (fun b => D0 b ∨ New w w' b) w' C' (ladO X d o) ∧ Below w.heap.size w w' := by
 have hL := ywz hE (by decide)
 rw [hE, hL]
 clear hE hL
 have hd := hd0.wide hD
 have hmx : prog.follows .mixedOrders = true := by kernel_rfl
 have hz := hd.size
 have hz2 := ho.size
 obtain ⟨a2, n2, c2, e2, l2⟩ := hd.label
 obtain ⟨f2, m2, g2, j2, k2⟩ := ho.label
 obtain ⟨a5, n5, c5, e5, l5⟩ := hd.links
 obtain ⟨f5, m5, g5, j5, k5⟩ := ho.links
 have hn2 : n2 < 1048576 := by rw [← l2.1]; exact fd.2
 have hm2 : m2 < 1048576 := by rw [← k2.1]; exact fo.2
 have h5 : Hid (d.links.length = n5) := l5.1
 have h5o : Hid (o.links.length = m5) := k5.1
 have i0 := ho.id
 have q3 := ho.quota
 have ga0 := isAgg27
 have ga1 := isAgg22
 have ga2 := isAgg3
 have ga4 := isAgg28
 have hpl := fun (W : World) (hk : Below w.heap.size w W) => wLz (LabD.lab' l2 hk) (LabD.lab' k2 hk) hn2 hm2 fd.1 fo.1
 change ∀ (W : World) (hk : Below w.heap.size w W), Calls prog _ _ W fun e w' => e = .returned (.bool (plcB d.label o.label)) ∧ _ at hpl
 rw [hP] at hpl
 have hro := fun (W : World) (hk : Below w.heap.size w W) => wQz (t := t) (ke := ke) (ro := ro) (qqz h hk) hq (hd.next hk) sd hdq
 generalize wwz X d = rm at hro
 have hzg : (prog.info? 25).map (·.size) = some (#[.int .i64 t, .int .u64 ke, .int .u64 ro, .slice ao n cap] : Array Value).size := by kernel_rfl
 obtain ⟨G, hG⟩ : ∃ G : Array Value, G = #[.int .i64 t, .int .u64 ke, .int .u64 ro, .slice ao n cap] := ⟨_, rfl⟩
 rw [← hG] at hzg hro
 rw [← hG]
 clear hG hP
 rw [h5.out] at hF
 have hF' : decide ((64 : Int) ≤ (n5 : Int)) = true := by rw [decide_eq_true_iff]; omega
 go_enter func35, ntmps35
 go_wp2_with (first
  | (with_reducible refine qcz rfl 25 (.tmp 0) rfl G rfl ?_; intro B W1 hN1 hB hk)
  | (with_reducible refine qcz rfl 43 (.tmp 1) rfl C rfl ?_; intro T W2 hN2 hT hk2; replace hB := hB.next hk2; replace hk := btz hk hk2; clear hk2)
  | (with_reducible refine qcz rfl 43 (.tmp 2) rfl K rfl ?_; intro O W3 hN3 hO hk3; replace hB := hB.next hk3; replace hT := hT.next hk3; replace hk := btz hk hk3; clear hk3)
  | ((with_reducible refine qfz rfl 43 rfl zC qzz ?_); intro R W4 hN4 hR hk4; replace hB := hB.next hk4; replace hT := hT.next hk4; replace hO := hO.next hk4; replace hk := btz hk hk4; clear hk4)
  | (with_reducible refine qaz (by kernel_rfl) _ _ rfl T 2 rfl _ _ hT _ e2 ga0 ?_)
  | (with_reducible refine qaz (by kernel_rfl) _ _ rfl O 2 rfl _ _ hO _ j2 ga0 ?_)
  | (with_reducible refine qaz (by kernel_rfl) _ _ rfl T 5 rfl _ _ hT _ e5 ga4 ?_)
  | (go_at_call 47; (with_reducible refine (hpl _ hk).mono ?_); rintro e w5 ⟨rfl, hb5⟩; replace hB := hB.next hb5; replace hT := hT.next hb5; replace hO := hO.next hb5; replace hR := hR.next hb5; replace hk := btz hk hb5; clear hb5)
  | (with_reducible refine qdz (by kernel_rfl) 43 _ rfl T rfl C hT _ underlying43 (by kernel_rfl) (qez hz) ?_)
  | ((with_reducible refine qbz rfl _ _ _ rfl R rfl C rfl zC hR (qez hz) (qoz.trans hz.symm) hd.one ?_); intro V5 hR5 q5))
 have hwR : w.heap.size ≤ R := (by have := hN1.out; have := hN2.out; have := hN3.out; have := hN4.out; omega)
 refine bodyPost_ret (v := .tuple #[.agg C, .int .i64 6]) (xGz results35 rfl rfl hR5 hz) rfl ⟨C, rfl, ?_, q5.below _ _ hwR hk⟩
 exact (hd0.laterK fun b hb => (q5.block b (by have := hD b hb; omega)).trans (hk.block b (hD b hb))).wide fun b hb => .inl hb
theorem rlaid_c (h : Obs w ao n cap X) (hq : ∀ x ∈ X, 0 ≤ x.quota ∧ x.quota ≤ 4096) (hD : ∀ b, D0 b → b < w.heap.size) (hd0 : ObD D0 w C d) (ho : ObD (LtN w) w K o) (sd : Small d) (fd : LbF d.label) (fo : LbF o.label) (hdq : 0 ≤ d.quota ∧ d.quota ≤ 4096) (hp : d.links.Pairwise (· < ·)) (hdl : d.links.length ≤ 4096) (hP : plcB d.label o.label = true) (hF : ¬ 64 ≤ d.links.length) (hM : wwz X d < o.quota) (hE : layD X d o = 5) : Calls prog 35 #[.agg #[.int .i64 t, .int .u64 ke, .int .u64 ro, .slice ao n cap], .agg C, .agg K] w fun e w' => ∃ C', e = .returned (.tuple #[.agg C', .int .i64 (layD X d o)]) ∧ ObD (fun b => D0 b ∨ New w w' b) w' C' (ladO X d o) ∧ Below w.heap.size w w' := by
 have hL := ywz hE (by decide)
 rw [hE, hL]
 clear hE hL
 have hd := hd0.wide hD
 have hmx : prog.follows .mixedOrders = true := by kernel_rfl
 have hz := hd.size
 have hz2 := ho.size
 obtain ⟨a2, n2, c2, e2, l2⟩ := hd.label
 obtain ⟨f2, m2, g2, j2, k2⟩ := ho.label
 obtain ⟨a5, n5, c5, e5, l5⟩ := hd.links
 obtain ⟨f5, m5, g5, j5, k5⟩ := ho.links
 have hn2 : n2 < 1048576 := by rw [← l2.1]; exact fd.2
 have hm2 : m2 < 1048576 := by rw [← k2.1]; exact fo.2
 have h5 : Hid (d.links.length = n5) := l5.1
 have h5o : Hid (o.links.length = m5) := k5.1
 have i0 := ho.id
 have q3 := ho.quota
 have ga0 := isAgg27
 have ga1 := isAgg22
 have ga2 := isAgg3
 have ga4 := isAgg28
 have hpl := fun (W : World) (hk : Below w.heap.size w W) => wLz (LabD.lab' l2 hk) (LabD.lab' k2 hk) hn2 hm2 fd.1 fo.1
 change ∀ (W : World) (hk : Below w.heap.size w W), Calls prog _ _ W fun e w' => e = .returned (.bool (plcB d.label o.label)) ∧ _ at hpl
 rw [hP] at hpl
 have hro := fun (W : World) (hk : Below w.heap.size w W) => wQz (t := t) (ke := ke) (ro := ro) (qqz h hk) hq (hd.next hk) sd hdq
 generalize wwz X d = rm at hro hM
 have hzg : (prog.info? 25).map (·.size) = some (#[.int .i64 t, .int .u64 ke, .int .u64 ro, .slice ao n cap] : Array Value).size := by kernel_rfl
 obtain ⟨G, hG⟩ : ∃ G : Array Value, G = #[.int .i64 t, .int .u64 ke, .int .u64 ro, .slice ao n cap] := ⟨_, rfl⟩
 rw [← hG] at hzg hro
 rw [← hG]
 clear hG hP
 rw [h5.out] at hF
 have hF' : decide ((64 : Int) ≤ (n5 : Int)) = false := by rw [decide_eq_false_iff_not]; omega
 go_enter func35, ntmps35
 go_wp2_with (first
  | (with_reducible refine qcz rfl 25 (.tmp 0) rfl G rfl ?_; intro B W1 hN1 hB hk)
  | (with_reducible refine qcz rfl 43 (.tmp 1) rfl C rfl ?_; intro T W2 hN2 hT hk2; replace hB := hB.next hk2; replace hk := btz hk hk2; clear hk2)
  | (with_reducible refine qcz rfl 43 (.tmp 2) rfl K rfl ?_; intro O W3 hN3 hO hk3; replace hB := hB.next hk3; replace hT := hT.next hk3; replace hk := btz hk hk3; clear hk3)
  | ((with_reducible refine qfz rfl 43 rfl zC qzz ?_); intro R W4 hN4 hR hk4; replace hB := hB.next hk4; replace hT := hT.next hk4; replace hO := hO.next hk4; replace hk := btz hk hk4; clear hk4)
  | (with_reducible refine qaz (by kernel_rfl) _ _ rfl T 2 rfl _ _ hT _ e2 ga0 ?_)
  | (with_reducible refine qaz (by kernel_rfl) _ _ rfl O 2 rfl _ _ hO _ j2 ga0 ?_)
  | (with_reducible refine qaz (by kernel_rfl) _ _ rfl T 5 rfl _ _ hT _ e5 ga4 ?_)
  | (go_at_call 47; (with_reducible refine (hpl _ hk).mono ?_); rintro e w5 ⟨rfl, hb5⟩; replace hB := hB.next hb5; replace hT := hT.next hb5; replace hO := hO.next hb5; replace hR := hR.next hb5; replace hk := btz hk hb5; clear hb5))
 refine PgM.region_out (S := fun U => Below w5.heap.size w5 U) hmx ((brz _ _).drew) (fun hS => ?_)
 generalize w5.drew = v5 at hS ⊢
 have hM1 : rm < o.quota := hM
 refine qvz (by kernel_rfl) (fun _ _ _ _ _ h => h) hS [(0, none), (1, some (.int .i64 o.quota)), (2, some (.agg G)), (3, some (.agg C))] (obs := [.load 3 O 3 (.int .i64 o.quota), .load 25 B 0 (.agg G), .load 43 T 0 (.agg C)]) (n := 9) (by kernel_rfl) (by kernel_rfl) ⟨qhz (fun _ h => hO.next h) q3 ga2, qyz (fun _ h => hB.next h) underlying25 (by kernel_rfl) hzg, qyz (fun _ h => hT.next h) underlying43 (by kernel_rfl) (qez hz), trivial⟩ ?_
 refine qnz (i := 4) (fuel := 8) (f := 44) (vs := [.agg G, .agg C]) (d := some 27) (by kernel_rfl) (by kernel_rfl) (by kernel_rfl) call44 (hro _ (btz hk hS)) ?_
 rintro e v7 ⟨rfl, hb7⟩
 have hS7 : Below w5.heap.size w5 v7 := btz hS hb7
 refine ⟨_, rfl, hS7, ?_⟩
 refine qjz (by kernel_rfl) (fun _ _ _ _ _ h => h) hS7 [(5, some (.bool true)), (6, none), (7, none), (8, none), (9, none), (10, none), (11, none), (12, none)] (l' := #[tt, tt, tt, tt, tt, tt, tt, tt, tt, tt, tt, tt, tt]) (a' := { tmps := #[.agg G, .agg C, .agg K, .pointer (some ⟨B, 0, none⟩), .pointer (some ⟨T, 0, none⟩), .pointer (some ⟨O, 0, none⟩), .pointer (some ⟨R, 0, none⟩), .int .i64 0, .bool false, .pointer (some ⟨T, 2, none⟩), .slice a2 n2 c2, .pointer (some ⟨O, 2, none⟩), .slice f2 m2 g2, .bool true, .bool false, undef, .bool false, .pointer (some ⟨T, 5, none⟩), .slice a5 n5 c5, .int .i64 n5, .bool false, undef, .bool true, .pointer (some ⟨O, 3, none⟩), .int .i64 o.quota, .agg G, .agg C, .int .i64 rm, .bool true, .bool true, ud, ud, ud, undef, .bool true, ud, ud, ud, ud, ud, ud, ud, undef], defers := [] }) (obs := [.test .gtr 3 (.tmp 24) (.tmp 27) (.int .i64 o.quota) (.int .i64 rm) (.bool true)]) (n := 0) (by kernel_rfl) (by kernel_rfl) ⟨qEz (fun _ => qxz _ _ _ _ _ _) (show Hid (rm < o.quota) from hM1), trivial⟩ ?_
 refine wpAnyH_done (by kernel_rfl) ?_ _
 replace hT := hT.next hS7
 replace hO := hO.next hS7
 replace hR := hR.next hS7
 replace hk := btz hk hS7
 go_wp2_with (first
  | (with_reducible refine qdz (by kernel_rfl) 43 _ rfl T rfl C hT _ underlying43 (by kernel_rfl) (qez hz) ?_)
  | ((with_reducible refine qbz rfl _ _ _ rfl R rfl C rfl zC hR (qez hz) (qoz.trans hz.symm) hd.one ?_); intro V5 hR5 q5))
 have hwR : w.heap.size ≤ R := (by have := hN1.out; have := hN2.out; have := hN3.out; have := hN4.out; omega)
 refine bodyPost_ret (v := .tuple #[.agg C, .int .i64 5]) (xGz results35 rfl rfl hR5 hz) rfl ⟨C, rfl, ?_, q5.below _ _ hwR hk⟩
 exact (hd0.laterK fun b hb => (q5.block b (by have := hD b hb; omega)).trans (hk.block b (hD b hb))).wide fun b hb => .inl hb
theorem rlaid_d (h : Obs w ao n cap X) (hq : ∀ x ∈ X, 0 ≤ x.quota ∧ x.quota ≤ 4096) (hD : ∀ b, D0 b → b < w.heap.size) (hd0 : ObD D0 w C d) (ho : ObD (LtN w) w K o) (sd : Small d) (fd : LbF d.label) (fo : LbF o.label) (hdq : 0 ≤ d.quota ∧ d.quota ≤ 4096) (hp : d.links.Pairwise (· < ·)) (hdl : d.links.length ≤ 4096) (hP : plcB d.label o.label = true) (hF : ¬ 64 ≤ d.links.length) (hM : ¬ wwz X d < o.quota ∧ 0 < o.links.length) (hE : layD X d o = 5) : Calls prog 35 #[.agg #[.int .i64 t, .int .u64 ke, .int .u64 ro, .slice ao n cap], .agg C, .agg K] w fun e w' => ∃ C', e = .returned (.tuple #[.agg C', .int .i64 (layD X d o)]) ∧ ObD (fun b => D0 b ∨ New w w' b) w' C' (ladO X d o) ∧ Below w.heap.size w w' := by
 have hL := ywz hE (by decide)
 rw [hE, hL]
 clear hE hL
 have hd := hd0.wide hD
 have hmx : prog.follows .mixedOrders = true := by kernel_rfl
 have hz := hd.size
 have hz2 := ho.size
 obtain ⟨a2, n2, c2, e2, l2⟩ := hd.label
 obtain ⟨f2, m2, g2, j2, k2⟩ := ho.label
 obtain ⟨a5, n5, c5, e5, l5⟩ := hd.links
 obtain ⟨f5, m5, g5, j5, k5⟩ := ho.links
 have hn2 : n2 < 1048576 := by rw [← l2.1]; exact fd.2
 have hm2 : m2 < 1048576 := by rw [← k2.1]; exact fo.2
 have h5 : Hid (d.links.length = n5) := l5.1
 have h5o : Hid (o.links.length = m5) := k5.1
 have i0 := ho.id
 have q3 := ho.quota
 have ga0 := isAgg27
 have ga1 := isAgg22
 have ga2 := isAgg3
 have ga4 := isAgg28
 have hpl := fun (W : World) (hk : Below w.heap.size w W) => wLz (LabD.lab' l2 hk) (LabD.lab' k2 hk) hn2 hm2 fd.1 fo.1
 change ∀ (W : World) (hk : Below w.heap.size w W), Calls prog _ _ W fun e w' => e = .returned (.bool (plcB d.label o.label)) ∧ _ at hpl
 rw [hP] at hpl
 have hro := fun (W : World) (hk : Below w.heap.size w W) => wQz (t := t) (ke := ke) (ro := ro) (qqz h hk) hq (hd.next hk) sd hdq
 generalize wwz X d = rm at hro hM
 have hzg : (prog.info? 25).map (·.size) = some (#[.int .i64 t, .int .u64 ke, .int .u64 ro, .slice ao n cap] : Array Value).size := by kernel_rfl
 obtain ⟨G, hG⟩ : ∃ G : Array Value, G = #[.int .i64 t, .int .u64 ke, .int .u64 ro, .slice ao n cap] := ⟨_, rfl⟩
 rw [← hG] at hzg hro
 rw [← hG]
 clear hG hP
 rw [h5.out] at hF
 have hF' : decide ((64 : Int) ≤ (n5 : Int)) = false := by rw [decide_eq_false_iff_not]; omega
 go_enter func35, ntmps35
 go_wp2_with (first
  | (with_reducible refine qcz rfl 25 (.tmp 0) rfl G rfl ?_; intro B W1 hN1 hB hk)
  | (with_reducible refine qcz rfl 43 (.tmp 1) rfl C rfl ?_; intro T W2 hN2 hT hk2; replace hB := hB.next hk2; replace hk := btz hk hk2; clear hk2)
  | (with_reducible refine qcz rfl 43 (.tmp 2) rfl K rfl ?_; intro O W3 hN3 hO hk3; replace hB := hB.next hk3; replace hT := hT.next hk3; replace hk := btz hk hk3; clear hk3)
  | ((with_reducible refine qfz rfl 43 rfl zC qzz ?_); intro R W4 hN4 hR hk4; replace hB := hB.next hk4; replace hT := hT.next hk4; replace hO := hO.next hk4; replace hk := btz hk hk4; clear hk4)
  | (with_reducible refine qaz (by kernel_rfl) _ _ rfl T 2 rfl _ _ hT _ e2 ga0 ?_)
  | (with_reducible refine qaz (by kernel_rfl) _ _ rfl O 2 rfl _ _ hO _ j2 ga0 ?_)
  | (with_reducible refine qaz (by kernel_rfl) _ _ rfl T 5 rfl _ _ hT _ e5 ga4 ?_)
  | (go_at_call 47; (with_reducible refine (hpl _ hk).mono ?_); rintro e w5 ⟨rfl, hb5⟩; replace hB := hB.next hb5; replace hT := hT.next hb5; replace hO := hO.next hb5; replace hR := hR.next hb5; replace hk := btz hk hb5; clear hb5))
 refine PgM.region_out (S := fun U => Below w5.heap.size w5 U) hmx ((brz _ _).drew) (fun hS => ?_)
 generalize w5.drew = v5 at hS ⊢
 have hM1 : ¬ rm < o.quota := by have := hM.1; omega
 have hM2 : (0 : Int) < m5 := by have := hM.2; rw [h5o.out] at this; omega
 refine qvz (by kernel_rfl) (fun _ _ _ _ _ h => h) hS [(0, none), (1, some (.int .i64 o.quota)), (2, some (.agg G)), (3, some (.agg C))] (obs := [.load 3 O 3 (.int .i64 o.quota), .load 25 B 0 (.agg G), .load 43 T 0 (.agg C)]) (n := 9) (by kernel_rfl) (by kernel_rfl) ⟨qhz (fun _ h => hO.next h) q3 ga2, qyz (fun _ h => hB.next h) underlying25 (by kernel_rfl) hzg, qyz (fun _ h => hT.next h) underlying43 (by kernel_rfl) (qez hz), trivial⟩ ?_
 refine qnz (i := 4) (fuel := 8) (f := 44) (vs := [.agg G, .agg C]) (d := some 27) (by kernel_rfl) (by kernel_rfl) (by kernel_rfl) call44 (hro _ (btz hk hS)) ?_
 rintro e v7 ⟨rfl, hb7⟩
 have hS7 : Below w5.heap.size w5 v7 := btz hS hb7
 refine ⟨_, rfl, hS7, ?_⟩
 refine qjz (by kernel_rfl) (fun _ _ _ _ _ h => h) hS7 [(5, some (.bool false)), (6, none), (7, none), (8, some (.slice f5 m5 g5)), (9, some (.int .i64 m5)), (10, some (.bool true)), (11, none), (12, none)] (l' := #[tt, tt, tt, tt, tt, tt, tt, tt, tt, tt, tt, tt, tt]) (a' := { tmps := #[.agg G, .agg C, .agg K, .pointer (some ⟨B, 0, none⟩), .pointer (some ⟨T, 0, none⟩), .pointer (some ⟨O, 0, none⟩), .pointer (some ⟨R, 0, none⟩), .int .i64 0, .bool false, .pointer (some ⟨T, 2, none⟩), .slice a2 n2 c2, .pointer (some ⟨O, 2, none⟩), .slice f2 m2 g2, .bool true, .bool false, undef, .bool false, .pointer (some ⟨T, 5, none⟩), .slice a5 n5 c5, .int .i64 n5, .bool false, undef, .bool true, .pointer (some ⟨O, 3, none⟩), .int .i64 o.quota, .agg G, .agg C, .int .i64 rm, .bool false, .bool false, .pointer (some ⟨O, 5, none⟩), .slice f5 m5 g5, .int .i64 m5, .bool true, .bool true, ud, ud, ud, ud, ud, ud, ud, undef], defers := [] }) (obs := [.test .gtr 3 (.tmp 24) (.tmp 27) (.int .i64 o.quota) (.int .i64 rm) (.bool false), .load 28 O 5 (.slice f5 m5 g5), .ln 28 3 (.slice f5 m5 g5) (.int .i64 m5), .test .gtr 3 (.tmp 32) (.const (.int .i64 0)) (.int .i64 m5) (.int .i64 0) (.bool true)]) (n := 0) (by kernel_rfl) (by kernel_rfl) ⟨qVz (fun _ => qxz _ _ _ _ _ _) (show Hid (¬ rm < o.quota) from hM1), qhz (fun _ h => hO.next h) j5 ga4, wIz, qEz (fun _ => qxz _ _ _ _ _ _) (show Hid ((0 : Int) < m5) from hM2), trivial⟩ ?_
 refine wpAnyH_done (by kernel_rfl) ?_ _
 replace hT := hT.next hS7
 replace hO := hO.next hS7
 replace hR := hR.next hS7
 replace hk := btz hk hS7
 go_wp2_with (first
  | (with_reducible refine qdz (by kernel_rfl) 43 _ rfl T rfl C hT _ underlying43 (by kernel_rfl) (qez hz) ?_)
  | ((with_reducible refine qbz rfl _ _ _ rfl R rfl C rfl zC hR (qez hz) (qoz.trans hz.symm) hd.one ?_); intro V5 hR5 q5))
 have hwR : w.heap.size ≤ R := (by have := hN1.out; have := hN2.out; have := hN3.out; have := hN4.out; omega)
 refine bodyPost_ret (v := .tuple #[.agg C, .int .i64 5]) (xGz results35 rfl rfl hR5 hz) rfl ⟨C, rfl, ?_, q5.below _ _ hwR hk⟩
 exact (hd0.laterK fun b hb => (q5.block b (by have := hD b hb; omega)).trans (hk.block b (hD b hb))).wide fun b hb => .inl hb
theorem rlaid_e (h : Obs w ao n cap X) (hq : ∀ x ∈ X, 0 ≤ x.quota ∧ x.quota ≤ 4096) (hD : ∀ b, D0 b → b < w.heap.size) (hd0 : ObD D0 w C d) (ho : ObD (LtN w) w K o) (sd : Small d) (fd : LbF d.label) (fo : LbF o.label) (hdq : 0 ≤ d.quota ∧ d.quota ≤ 4096) (hp : d.links.Pairwise (· < ·)) (hdl : d.links.length ≤ 4096) (hP : plcB d.label o.label = true) (hF : ¬ 64 ≤ d.links.length) (hM : ¬ (wwz X d < o.quota ∨ 0 < o.links.length)) (hE : layD X d o = 0) : Calls prog 35 #[.agg #[.int .i64 t, .int .u64 ke, .int .u64 ro, .slice ao n cap], .agg C, .agg K] w fun e w' => ∃ C', e = .returned (.tuple #[.agg C', .int .i64 (layD X d o)]) ∧ ObD (fun b => D0 b ∨ New w w' b) w' C' (ladO X d o) ∧ Below w.heap.size w w' := by
 have hL := gsz hE
 rw [hE, hL]
 clear hE hL
 have hd := hd0.wide hD
 have hmx : prog.follows .mixedOrders = true := by kernel_rfl
 have hz := hd.size
 have hz2 := ho.size
 obtain ⟨a2, n2, c2, e2, l2⟩ := hd.label
 obtain ⟨f2, m2, g2, j2, k2⟩ := ho.label
 obtain ⟨a5, n5, c5, e5, l5⟩ := hd.links
 obtain ⟨f5, m5, g5, j5, k5⟩ := ho.links
 have hn2 : n2 < 1048576 := by rw [← l2.1]; exact fd.2
 have hm2 : m2 < 1048576 := by rw [← k2.1]; exact fo.2
 have h5 : Hid (d.links.length = n5) := l5.1
 have h5o : Hid (o.links.length = m5) := k5.1
 have i0 := ho.id
 have q3 := ho.quota
 have ga0 := isAgg27
 have ga1 := isAgg22
 have ga2 := isAgg3
 have ga4 := isAgg28
 have hpl := fun (W : World) (hk : Below w.heap.size w W) => wLz (LabD.lab' l2 hk) (LabD.lab' k2 hk) hn2 hm2 fd.1 fo.1
 change ∀ (W : World) (hk : Below w.heap.size w W), Calls prog _ _ W fun e w' => e = .returned (.bool (plcB d.label o.label)) ∧ _ at hpl
 rw [hP] at hpl
 have hro := fun (W : World) (hk : Below w.heap.size w W) => wQz (t := t) (ke := ke) (ro := ro) (qqz h hk) hq (hd.next hk) sd hdq
 generalize wwz X d = rm at hro hM
 have hzg : (prog.info? 25).map (·.size) = some (#[.int .i64 t, .int .u64 ke, .int .u64 ro, .slice ao n cap] : Array Value).size := by kernel_rfl
 obtain ⟨G, hG⟩ : ∃ G : Array Value, G = #[.int .i64 t, .int .u64 ke, .int .u64 ro, .slice ao n cap] := ⟨_, rfl⟩
 rw [← hG] at hzg hro
 rw [← hG]
 clear hG hP
 rw [h5.out] at hF
 have hF' : decide ((64 : Int) ≤ (n5 : Int)) = false := by rw [decide_eq_false_iff_not]; omega
 go_enter func35, ntmps35
 go_wp2_with (first
  | (with_reducible refine qcz rfl 25 (.tmp 0) rfl G rfl ?_; intro B W1 hN1 hB hk)
  | (with_reducible refine qcz rfl 43 (.tmp 1) rfl C rfl ?_; intro T W2 hN2 hT hk2; replace hB := hB.next hk2; replace hk := btz hk hk2; clear hk2)
  | (with_reducible refine qcz rfl 43 (.tmp 2) rfl K rfl ?_; intro O W3 hN3 hO hk3; replace hB := hB.next hk3; replace hT := hT.next hk3; replace hk := btz hk hk3; clear hk3)
  | ((with_reducible refine qfz rfl 43 rfl zC qzz ?_); intro R W4 hN4 hR hk4; replace hB := hB.next hk4; replace hT := hT.next hk4; replace hO := hO.next hk4; replace hk := btz hk hk4; clear hk4)
  | (with_reducible refine qaz (by kernel_rfl) _ _ rfl T 2 rfl _ _ hT _ e2 ga0 ?_)
  | (with_reducible refine qaz (by kernel_rfl) _ _ rfl O 2 rfl _ _ hO _ j2 ga0 ?_)
  | (with_reducible refine qaz (by kernel_rfl) _ _ rfl T 5 rfl _ _ hT _ e5 ga4 ?_)
  | (go_at_call 47; (with_reducible refine (hpl _ hk).mono ?_); rintro e w5 ⟨rfl, hb5⟩; replace hB := hB.next hb5; replace hT := hT.next hb5; replace hO := hO.next hb5; replace hR := hR.next hb5; replace hk := btz hk hb5; clear hb5))
 have hTl0 : R < w5.heap.size ∧ T < w5.heap.size := ⟨hR.lt, hT.lt⟩
 refine PgM.region_out (S := fun U => Below w5.heap.size w5 U) hmx ((brz _ _).drew) (fun hS => ?_)
 generalize w5.drew = v5 at hS ⊢
 have hM1 : ¬ rm < o.quota := fun z => hM (.inl z)
 have hM2 : ¬ (0 : Int) < m5 := fun z => hM (.inr (by rw [h5o.out]; omega))
 refine qvz (by kernel_rfl) (fun _ _ _ _ _ h => h) hS [(0, none), (1, some (.int .i64 o.quota)), (2, some (.agg G)), (3, some (.agg C))] (obs := [.load 3 O 3 (.int .i64 o.quota), .load 25 B 0 (.agg G), .load 43 T 0 (.agg C)]) (n := 9) (by kernel_rfl) (by kernel_rfl) ⟨qhz (fun _ h => hO.next h) q3 ga2, qyz (fun _ h => hB.next h) underlying25 (by kernel_rfl) hzg, qyz (fun _ h => hT.next h) underlying43 (by kernel_rfl) (qez hz), trivial⟩ ?_
 refine qnz (i := 4) (fuel := 8) (f := 44) (vs := [.agg G, .agg C]) (d := some 27) (by kernel_rfl) (by kernel_rfl) (by kernel_rfl) call44 (hro _ (btz hk hS)) ?_
 rintro e v7 ⟨rfl, hb7⟩
 have hS7 : Below w5.heap.size w5 v7 := btz hS hb7
 refine ⟨_, rfl, hS7, ?_⟩
 refine qjz (by kernel_rfl) (fun _ _ _ _ _ h => h) hS7 [(5, some (.bool false)), (6, none), (7, none), (8, some (.slice f5 m5 g5)), (9, some (.int .i64 m5)), (10, some (.bool false)), (11, none), (12, none)] (l' := #[tt, tt, tt, tt, tt, tt, tt, tt, tt, tt, tt, tt, tt]) (a' := { tmps := #[.agg G, .agg C, .agg K, .pointer (some ⟨B, 0, none⟩), .pointer (some ⟨T, 0, none⟩), .pointer (some ⟨O, 0, none⟩), .pointer (some ⟨R, 0, none⟩), .int .i64 0, .bool false, .pointer (some ⟨T, 2, none⟩), .slice a2 n2 c2, .pointer (some ⟨O, 2, none⟩), .slice f2 m2 g2, .bool true, .bool false, undef, .bool false, .pointer (some ⟨T, 5, none⟩), .slice a5 n5 c5, .int .i64 n5, .bool false, undef, .bool false, .pointer (some ⟨O, 3, none⟩), .int .i64 o.quota, .agg G, .agg C, .int .i64 rm, .bool false, .bool false, .pointer (some ⟨O, 5, none⟩), .slice f5 m5 g5, .int .i64 m5, .bool false, .bool false, ud, ud, ud, ud, ud, ud, ud, undef], defers := [] }) (obs := [.test .gtr 3 (.tmp 24) (.tmp 27) (.int .i64 o.quota) (.int .i64 rm) (.bool false), .load 28 O 5 (.slice f5 m5 g5), .ln 28 3 (.slice f5 m5 g5) (.int .i64 m5), .test .gtr 3 (.tmp 32) (.const (.int .i64 0)) (.int .i64 m5) (.int .i64 0) (.bool false)]) (n := 0) (by kernel_rfl) (by kernel_rfl) ⟨qVz (fun _ => qxz _ _ _ _ _ _) (show Hid (¬ rm < o.quota) from hM1), qhz (fun _ h => hO.next h) j5 ga4, wIz, qVz (fun _ => qxz _ _ _ _ _ _) (show Hid (¬ (0 : Int) < m5) from hM2), trivial⟩ ?_
 refine wpAnyH_done (by kernel_rfl) ?_ _
 replace hT := hT.next hS7
 replace hO := hO.next hS7
 replace hR := hR.next hS7
 replace hk := btz hk hS7
 have hTlt : R < w5.heap.size ∧ T < w5.heap.size := hTl0
 have hwi := fun (W : World) (hk : Below w.heap.size w W) => rwith_v (x := o.id) ((l5.laterK fun b hb => hk.block b hb).wide fun b hb => ltz hb hk.size) hp (by omega)
 go_wp2_with (first
  | (with_reducible refine qaz (by kernel_rfl) _ _ rfl T 5 rfl _ _ hT _ e5 ga4 ?_)
  | (with_reducible refine qaz (by kernel_rfl) _ _ rfl O 0 rfl _ _ hO _ i0 ga1 ?_)
  | (go_at_call 68; (with_reducible refine (hwi _ hk).mono ?_); rintro e w8 ⟨vL, rfl, hown, hb8⟩; obtain ⟨aV, cV, rfl, hrc⟩ := RowC.of_owns hown; replace hT := hT.next hb8; replace hR := hR.next hb8; have hk8 := btz hk hb8)
  | ((with_reducible refine qiz rfl _ _ _ rfl T 5 rfl (.slice aV (insW d.links o.id).length cV) rfl rfl C _ hT wGz (by rw [hz]; omega) rfl ?_); intro V6 hT6 q6; have hTR : R ≠ T := (by have := hN1.out; have := hN2.out; have := hN3.out; have := hN4.out; omega); have hR6 := hR.other q6 hTR; have hz6 : (C.setIfInBounds 5 (.slice aV (insW d.links o.id).length cV)).size = 51 := (by simp [hz]))
  | (with_reducible refine qdz (by kernel_rfl) 43 _ rfl T rfl _ hT6 _ underlying43 (by kernel_rfl) (qez hz6) ?_)
  | ((with_reducible refine qbz rfl _ _ _ rfl R rfl (C.setIfInBounds 5 (.slice aV (insW d.links o.id).length cV)) rfl zC hR6 (qez hz6) (qoz.trans hz6.symm) (q5z hd.one rfl) ?_); intro V5 hR5 q5))
 have hwR : w.heap.size ≤ R ∧ w.heap.size ≤ T := (by have := hN1.out; have := hN2.out; have := hN3.out; have := hN4.out; refine ⟨?_, ?_⟩ <;> omega)
 refine bodyPost_ret (v := .tuple #[.agg (C.setIfInBounds 5 (.slice aV (insW d.links o.id).length cV)), .int .i64 0]) (xGz results35 rfl rfl hR5 hz6) rfl ⟨_, rfl, ?_, q5.below _ _ hwR.1 (q6.below _ _ hwR.2 hk8)⟩
 have e5' := q5.size
 have e6' := q6.size
 have hkz := hk.size
 have hb8z := hb8.size
 have hTl : R < v7.heap.size ∧ T < v7.heap.size := by have := hN1.out; have := hN2.out; have := hN3.out; have := hN4.out; have := hS7.size; have := hTlt; omega
 have hdn : ObD (fun b => D0 b ∨ New w V5 b) V5 C d := (hd0.laterK fun b hb => ((q5.block b (by have := hD b hb; omega)).trans (q6.block b (by have := hD b hb; omega))).trans (hk8.block b (hD b hb))).wide fun b hb => .inl hb
 exact hdn.set5 ⟨aV, _, cV, rfl, (hrc.ct.laterK fun b hb => (q5.block b (by have := hb.1; omega)).trans (q6.block b (by have := hb.1; omega))).wide fun b hb => .inr ⟨by have := hb.1; omega, by have := hb.2; omega⟩⟩ rfl
theorem joz (h : Obs w ao n cap X) (hq : ∀ x ∈ X, 0 ≤ x.quota ∧ x.quota ≤ 4096) (hD : ∀ b, D0 b → b < w.heap.size) (hd0 : ObD D0 w C d) (ho : ObD (LtN w) w K o) (sd : Small d) (fd : LbF d.label) (fo : LbF o.label) (hdq : 0 ≤ d.quota ∧ d.quota ≤ 4096) (hp : d.links.Pairwise (· < ·)) (hdl : d.links.length ≤ 4096) : Calls prog 35 #[.agg #[.int .i64 t, .int .u64 ke, .int .u64 ro, .slice ao n cap], .agg C, .agg K] w fun e w' => ∃ C', e = .returned (.tuple #[.agg C', .int .i64 (layD X d o)]) ∧ ObD (fun b => D0 b ∨ New w w' b) w' C' (ladO X d o) ∧ Below w.heap.size w w' := by
 cases hP : plcB d.label o.label with
 | false => exact rlaid_a h hq hD hd0 ho sd fd fo hdq hp hdl hP (lay_2 hP)
 | true =>
  by_cases hF : 64 ≤ d.links.length
  ·exact rlaid_b h hq hD hd0 ho sd fd fo hdq hp hdl hP hF (lay_6 hP hF)
  ·by_cases h1 : wwz X d < o.quota
   ·exact rlaid_c h hq hD hd0 ho sd fd fo hdq hp hdl hP hF h1 (lay_5 hP hF (.inl h1))
   ·by_cases h2 : 0 < o.links.length
    ·exact rlaid_d h hq hD hd0 ho sd fd fo hdq hp hdl hP hF ⟨h1, h2⟩ (lay_5 hP hF (.inr h2))
    ·exact rlaid_e h hq hD hd0 ho sd fd fo hdq hp hdl hP hF (fun z => z.elim h1 h2) (lay_0 hP hF fun z => z.elim h1 h2)
def atdE (X : List Ob) (i : Int) (o : Ob) : Int := if (fnd X i).isSome = false then 1 else if (fO X i).kind ≠ 2 then 3 else if (fnd X o.id).isSome = true then 12 else layD X (fO X i) o
def atdX (X : List Ob) (i : Int) (o : Ob) : List Ob := if atdE X i o = 0 then puR (puR X o) { fO X i with links := insW (fO X i).links o.id } else X
variable {i : Int}
theorem yMz {o : Ob} (h : atdE X i o = k) (hk : k ≠ 0) : atdX X i o = X := by unfold atdX; rw [h, if_neg hk]
theorem atd_ok {o : Ob} (h : atdE X i o = 0) : atdX X i o = puR (puR X o) { fO X i with links := insW (fO X i).links o.id } := by unfold atdX; rw [if_pos h]
structure Rys (X : List Ob) : Prop where
 srt : Srt X
 sml : wtz X
 quo : ∀ x ∈ X, 0 ≤ x.quota ∧ x.quota ≤ 4096
 lab : ∀ x ∈ X, LbF x.label
 ris : ∀ x ∈ X, x.links.Pairwise (· < ·) ∧ x.links.length ≤ 4096
theorem jtz {w W V : World} {R : Nat} (h : ObsD (New w W) D0 W ao n cap X) (hD : ∀ b, D0 b → b < W.heap.size ∧ b ≠ R) (hR : R < w.heap.size) (q : Oth R W V) : Obs V ao n cap X :=
 (h.laterK (fun b hb => q.block b (hD b hb).2) (fun b hb => q.block b (by have := hb.1; omega))).wide (fun b hb => by have := (hD b hb).1; have := q.size; show b < V.heap.size; omega) (fun b hb => by have := hb.2; have := q.size; show b < V.heap.size; omega)
theorem qWz {w W V : World} {R : Nat} (h : Obs w ao n cap X) (k : Below w.heap.size w W) (hR : w.heap.size ≤ R) (q : Oth R W V) : Obs V ao n cap X :=
 qqz h (q.below _ _ hR k)
theorem wVz {K : Array Value} {o : Ob} (h : Obs w ao n cap X) (hX : Rys X) (hn16 : n < 1022) (ho : ObD (LtN w) w K o) (fo : LbF o.label) (hcase : ((fnd X i).isSome = false) ∧ (atdE X i o = 1) ∨ ((fnd X i).isSome = true) ∧ (¬ (fO X i).kind = 2) ∧ (atdE X i o = 3) ∨ ((fnd X i).isSome = true) ∧ ((fO X i).kind = 2) ∧ ((fnd X o.id).isSome = true) ∧ (atdE X i o = 12) ∨ ((fnd X i).isSome = true) ∧ ((fO X i).kind = 2) ∧ ((fnd X o.id).isSome = false) ∧ (layD X (fO X i) o ≠ 0) ∧ (atdE X i o = layD X (fO X i) o) ∨ ((fnd X i).isSome = true) ∧ ((fO X i).kind = 2) ∧ ((fnd X o.id).isSome = false) ∧ (layD X (fO X i) o = 0) ∧ (atdE X i o = 0)) : Calls prog 9 #[.agg #[.int .i64 t, .int .u64 ke, .int .u64 ro, .slice ao n cap], .int .u64 i, .agg K] w fun e w' => ∃ ao2 n2 cap2, e = .returned (.tuple #[.agg #[.int .i64 t, .int .u64 ke, .int .u64 ro, .slice ao2 n2 cap2], .int .i64 (atdE X i o)]) ∧ Obs w' ao2 n2 cap2 (atdX X i o) ∧ Below w.heap.size w w' := by
 have hmx : prog.follows .mixedOrders = true := by kernel_rfl
 have hz := ho.size
 have ga1 := isAgg22
 have ga2 := isAgg3
 have hzg : (prog.info? 25).map (·.size) = some (#[.int .i64 t, .int .u64 ke, .int .u64 ro, .slice ao n cap] : Array Value).size := by kernel_rfl
 have hG1 : (#[.int .i64 t, .int .u64 ke, .int .u64 ro, .slice ao n cap] : Array Value).all (·.oneCell') = true := by kernel_rfl
 have hsW : zW.size = (#[.int .i64 t, .int .u64 ke, .int .u64 ro, .slice ao n cap] : Array Value).size := rfl
 rcases hcase with ⟨hf, hE⟩ | ⟨hf, hd2, hE⟩ | ⟨hf, hd2, hg, hE⟩ | ⟨hf, hd2, hg, hLn, hE⟩ | ⟨hf, hd2, hg, hL0, hE⟩
 case' inl =>
  have hL := yMz hE (by decide)
  rw [hE, hL]
  clear hE hL
  have i0 := ho.id
  have hf1 := fun (W : World) (hk : Below w.heap.size w W) => qsz (t := t) (ke := ke) (ro := ro) (i := i) h hk
  rw [hf] at hf1
  obtain ⟨G, hG⟩ : ∃ G : Array Value, G = #[.int .i64 t, .int .u64 ke, .int .u64 ro, .slice ao n cap] := ⟨_, rfl⟩
  have hGH : Hid (G = #[.int .i64 t, .int .u64 ke, .int .u64 ro, .slice ao n cap]) := hG
  rw [← hG] at hzg hG1 hsW hf1
  rw [← hG]
  clear hG
 case' inr.inl =>
  have hL := yMz hE (by decide)
  rw [hE, hL]
  clear hE hL
  have i0 := ho.id
  have hf1 := fun (W : World) (hk : Below w.heap.size w W) => qsz (t := t) (ke := ke) (ro := ro) (i := i) h hk
  rw [hf] at hf1
  have k1 : ((fO X i).kind != 2) = true := by simpa using hd2
  clear hd2
  obtain ⟨G, hG⟩ : ∃ G : Array Value, G = #[.int .i64 t, .int .u64 ke, .int .u64 ro, .slice ao n cap] := ⟨_, rfl⟩
  have hGH : Hid (G = #[.int .i64 t, .int .u64 ke, .int .u64 ro, .slice ao n cap]) := hG
  rw [← hG] at hzg hG1 hsW hf1
  rw [← hG]
  clear hG
 case' inr.inr.inl =>
  have hL := yMz hE (by decide)
  rw [hE, hL]
  clear hE hL
  have i0 := ho.id
  have hf1 := fun (W : World) (hk : Below w.heap.size w W) => qsz (t := t) (ke := ke) (ro := ro) (i := i) h hk
  rw [hf] at hf1
  have hf2 := fun (W : World) (hk : Below w.heap.size w W) => qsz (t := t) (ke := ke) (ro := ro) (i := o.id) h hk
  rw [hg] at hf2
  have HD : Hid ((fO X i).kind = 2) := hd2
  clear hd2
  obtain ⟨G, hG⟩ : ∃ G : Array Value, G = #[.int .i64 t, .int .u64 ke, .int .u64 ro, .slice ao n cap] := ⟨_, rfl⟩
  have hGH : Hid (G = #[.int .i64 t, .int .u64 ke, .int .u64 ro, .slice ao n cap]) := hG
  rw [← hG] at hzg hG1 hsW hf1 hf2
  rw [← hG]
  clear hG
 case' inr.inr.inr.inl =>
  have hL := yMz hE hLn
  rw [hE, hL]
  clear hE hL
  have i0 := ho.id
  have hf1 := fun (W : World) (hk : Below w.heap.size w W) => qsz (t := t) (ke := ke) (ro := ro) (i := i) h hk
  rw [hf] at hf1
  have hf2 := fun (W : World) (hk : Below w.heap.size w W) => qsz (t := t) (ke := ke) (ro := ro) (i := o.id) h hk
  rw [hg] at hf2
  have hmem := (wiz hf).1
  have hla := fun (W : World) (Cd : Array Value) (hk : Below w.heap.size w W) (hd : ObD (LtN w) W Cd (fO X i)) => joz (D0 := LtN w) (t := t) (ke := ke) (ro := ro) (qqz h hk) hX.quo (fun b hb => ltz hb hk.size) hd (ho.next hk) (hX.sml _ hmem) (hX.lab _ hmem) fo (hX.quo _ hmem) (hX.ris _ hmem).1 (hX.ris _ hmem).2
  have HE : Hid (layD X (fO X i) o ≠ 0) := hLn
  generalize layD X (fO X i) o = ek at hla HE ⊢
  have hb0 : (ek != 0) = true := by simpa using HE.out
  clear hLn
  have HD : Hid ((fO X i).kind = 2) := hd2
  clear hd2
  obtain ⟨G, hG⟩ : ∃ G : Array Value, G = #[.int .i64 t, .int .u64 ke, .int .u64 ro, .slice ao n cap] := ⟨_, rfl⟩
  have hGH : Hid (G = #[.int .i64 t, .int .u64 ke, .int .u64 ro, .slice ao n cap]) := hG
  rw [← hG] at hzg hG1 hsW hf1 hf2 hla
  rw [← hG]
  clear hG
 case' inr.inr.inr.inr =>
  have hL := atd_ok hE
  rw [hE, hL]
  clear hE hL
  have i0 := ho.id
  have hf1 := fun (W : World) (hk : Below w.heap.size w W) => qsz (t := t) (ke := ke) (ro := ro) (i := i) h hk
  rw [hf] at hf1
  have hf2 := fun (W : World) (hk : Below w.heap.size w W) => qsz (t := t) (ke := ke) (ro := ro) (i := o.id) h hk
  rw [hg] at hf2
  have hmem := (wiz hf).1
  have hla := fun (W : World) (Cd : Array Value) (hk : Below w.heap.size w W) (hd : ObD (LtN w) W Cd (fO X i)) => joz (D0 := LtN w) (t := t) (ke := ke) (ro := ro) (qqz h hk) hX.quo (fun b hb => ltz hb hk.size) hd (ho.next hk) (hX.sml _ hmem) (hX.lab _ hmem) fo (hX.quo _ hmem) (hX.ris _ hmem).1 (hX.ris _ hmem).2
  simp only [hL0, gsz hL0] at hla
  have HD : Hid ((fO X i).kind = 2) := hd2
  clear hd2
  have hpu := fun (V : World) (hk : Below w.heap.size w V) => j4z (D0 := LtN w) (t := t) (ke := ke) (ro := ro) (fun b hb => ltz hb hk.size) ((h.laterK (fun b hb => hk.block b hb) (fun b hb => hk.block b hb)).wide (fun _ hb => hb) (fun b hb => ltz hb hk.size)) hX.srt (by omega) (ho.laterK fun b hb => hk.block b hb)
  obtain ⟨G, hG⟩ : ∃ G : Array Value, G = #[.int .i64 t, .int .u64 ke, .int .u64 ro, .slice ao n cap] := ⟨_, rfl⟩
  have hGH : Hid (G = #[.int .i64 t, .int .u64 ke, .int .u64 ro, .slice ao n cap]) := hG
  simp only [← hG] at hzg hG1 hsW hf1 hf2 hla hpu
  rw [← hG]
  clear hG
 all_goals go_enter func9, ntmps9
 all_goals go_wp2_with (first
  | (with_reducible refine qcz rfl 25 _ rfl G rfl ?_; intro B W1 hN1 hB hk)
  | (with_reducible refine qcz rfl 43 _ rfl K rfl ?_; intro O W2 hN2 hO hk2; replace hB := hB.next hk2; replace hk := btz hk hk2; clear hk2)
  | ((with_reducible refine qfz rfl 25 rfl zW q0z ?_); intro R W3 hN3 hR hk3; replace hB := hB.next hk3; replace hO := hO.next hk3; replace hk := btz hk hk3; clear hk3)
  | (with_reducible refine qdz (by kernel_rfl) 25 _ rfl B rfl G hB _ underlying25 (by kernel_rfl) hzg ?_)
  | (with_reducible refine qdz (by kernel_rfl) 43 _ rfl O rfl K hO _ underlying43 (by kernel_rfl) (qez hz) ?_)
  | (go_at_call 17; (with_reducible refine (hf1 _ hk).mono ?_); rintro e w4 ⟨CF, rfl, oF, hb4⟩)
  | ((with_reducible refine qfz rfl 43 rfl zC qzz ?_); have hx := oF; intro P U4 hN4 hPa hk4; clear hx)
  | ((with_reducible refine qbz rfl _ _ _ rfl P rfl CF rfl zC hPa (qez oF.size) (qoz.trans oF.size.symm) oF.one ?_); intro V4 hP q4; obtain ⟨hb5, oG⟩ := xYz hk hb4 oF hN4 hk4 q4; have zG := oG.size; have hnP : Hid (R ≠ P ∧ B ≠ P ∧ O ≠ P) := (by have := hN4.out.1; have := hb4.size; have := hR.lt; have := hB.lt; have := hO.lt; exact ⟨by omega, by omega, by omega⟩); have hPw : Hid (w.heap.size ≤ P) := (by have := hN4.out.1; have := hb4.size; have := hk.size; show w.heap.size ≤ P; omega); have kG := oG.kind; rw [HD.out] at kG; clear oF hb4 hk4 q4 hN4 hPa; replace hB := hB.next hb5; replace hO := hO.next hb5; replace hR := hR.next hb5; replace hk := btz hk hb5; clear hb5)
  | ((with_reducible refine qbz rfl _ _ _ rfl P rfl CF rfl zC hPa (qez oF.size) (qoz.trans oF.size.symm) oF.one ?_); intro V4 hP q4; obtain ⟨hb5, oG⟩ := xYz hk hb4 oF hN4 hk4 q4; have zG := oG.size; have kG := oG.kind; rw [HD.out] at kG; clear oF hb4 hk4 q4 hN4 hPa; replace hB := hB.next hb5; replace hO := hO.next hb5; replace hR := hR.next hb5; replace hk := btz hk hb5; clear hb5)
  | ((with_reducible refine qbz rfl _ _ _ rfl P rfl CF rfl zC hPa (qez oF.size) (qoz.trans oF.size.symm) oF.one ?_); intro V4 hP q4; obtain ⟨hb5, oG⟩ := xYz hk hb4 oF hN4 hk4 q4; have zG := oG.size; have kG := oG.kind; clear oF hb4 hk4 q4 hN4 hPa; replace hB := hB.next hb5; replace hO := hO.next hb5; replace hR := hR.next hb5; replace hk := btz hk hb5; clear hb5)
  | (with_reducible refine qaz (by kernel_rfl) _ _ rfl P _ rfl _ _ hP _ kG ga2 ?_)
  | (with_reducible refine qaz (by kernel_rfl) _ _ rfl O _ rfl _ _ hO _ i0 ga1 ?_)
  | (go_at_call 17; (with_reducible refine (hf2 _ hk).mono ?_); rintro e w5 ⟨CH, rfl, oH, hb6⟩)
  | ((with_reducible refine qfz rfl 43 rfl zC qzz ?_); have hx := oH; intro Y U5 hN5 hYa hk5; clear hx)
  | ((with_reducible refine qbz rfl _ _ _ rfl Y rfl CH rfl zC hYa (qez oH.size) (qoz.trans oH.size.symm) oH.one ?_); intro V5 hY q6; obtain ⟨hb7, oY⟩ := xYz hk hb6 oH hN5 hk5 q6; replace oG := w6z oG hk hb7; clear oH hb6 hk5 q6 hN5 hYa oY hY; replace hB := hB.next hb7; replace hO := hO.next hb7; replace hR := hR.next hb7; replace hP := hP.next hb7; replace hk := btz hk hb7; clear hb7)
  | (with_reducible refine qdz (by kernel_rfl) 43 _ rfl P rfl CF hP _ underlying43 (by kernel_rfl) (qez zG) ?_)
  | (go_at_call 35; (with_reducible refine (hla _ _ hk oG).mono ?_); rintro e w6 ⟨CL, rfl, oL, hb8⟩; have zL := oL.size; have hb8z : Hid (V5.heap.size ≤ w6.heap.size) := hb8.size; have hkl := hk; have hPl : Hid (P < V5.heap.size ∧ R < V5.heap.size) := ⟨hP.lt, hR.lt⟩; have hRw : Hid (w.heap.size ≤ R ∧ w.heap.size ≤ P) := (by have := hN1.out; have := hN2.out; have := hN3.out; exact ⟨by omega, hPw.out⟩); replace hB := hB.next hb8; replace hO := hO.next hb8; replace hR := hR.next hb8; replace hP := hP.next hb8; replace hk := btz hk hb8; clear hb8)
  | (go_at_call 35; (with_reducible refine (hla _ _ hk oG).mono ?_); rintro e w6 ⟨CL, rfl, oL, hb8⟩; have zL := oL.size; have hkl := hk; have hPl : Hid (P < V5.heap.size ∧ R < V5.heap.size) := ⟨hP.lt, hR.lt⟩; have hRw : Hid (w.heap.size ≤ R ∧ w.heap.size ≤ P) := (by have := hN1.out; have := hN2.out; have := hN3.out; exact ⟨by omega, hPw.out⟩); replace hB := hB.next hb8; replace hO := hO.next hb8; replace hR := hR.next hb8; replace hP := hP.next hb8; replace hk := btz hk hb8; clear hb8)
  | ((with_reducible refine qbz rfl _ _ _ rfl P rfl CL rfl CF hP (qez zL) (zG.trans zL.symm) oL.one ?_); intro V6 hP6 q8; have hne : R ≠ P ∧ B ≠ P ∧ O ≠ P := hnP.out; replace hB := hB.other q8 hne.2.1; replace hO := hO.other q8 hne.2.2; replace hR := hR.other q8 hne.1; replace hk := q8.below _ _ hRw.out.2 hk)
  | ((with_reducible refine qbz rfl _ _ _ rfl R rfl G rfl zW hR hzg hsW hG1 ?_); intro V9 hR9 q9))
 ·have hD1 : ∀ b, (LtN w b ∨ New V5 w6 b) → b < V6.heap.size ∧ b ≠ R ∧ b ≠ P := fun b hb => by
   have h1 := hkl.size
   have h2 := hPl.out
   have h3 := hRw.out
   have h4 := q8.size
   have h5 := hb8z.out
   rcases hb with hb | hb
   ·have h6 : b < w.heap.size := hb
    exact ⟨by omega, by omega, by omega⟩
   ·have h6 := hb.1
    have h7 := hb.2
    exact ⟨by omega, by omega, by omega⟩
  have oM := oL.laterK (w' := V6) fun b hb => q8.block b (hD1 b hb).2.2
  have hRl : R < V6.heap.size := hR.lt
  clear oL q8 oG kG
  have hd := (brz V6.heap.size V6).drew
  refine PgM.region_out (S := fun U => Blk U B G 25 ∧ Blk U O K 43 ∧ Blk U P CL 43 ∧ Below w.heap.size w U) hmx ⟨hB.next hd, hO.next hd, hP6.next hd, btz hk hd⟩ (fun hS => ?_)
  generalize V6.drew = v5 at hS hd ⊢
  refine qjz (by kernel_rfl) (fun _ _ _ _ _ h => h) hS [(0, some (.agg G)), (1, some (.agg K)), (3, some (.agg CL))] (l' := #[tt, tt, ff, tt, ff, ff, ff]) (a' := { tmps := #[.agg G, .int .u64 i, .agg K, .pointer (some ⟨B, 0, none⟩), undef, .pointer (some ⟨O, 0, none⟩), .pointer (some ⟨R, 0, none⟩), .int .i64 0, .pointer (some ⟨P, 0, none⟩), .bool true, .pointer (some ⟨Y, 0, none⟩), .bool false, .int .i64 0, .tuple #[.agg CF, .bool true], .agg G, .int .u64 i, .tuple #[.agg CF, .bool true], .agg CF, .bool true, .bool true, .bool false, undef, .pointer (some ⟨P, 1, none⟩), .int .i64 2, .bool false, undef, .tuple #[.agg CH, .bool false], .agg G, .pointer (some ⟨O, 0, none⟩), .int .u64 o.id, .tuple #[.agg CH, .bool false], .agg CH, .bool false, .bool false, undef, .tuple #[.agg CL, .int .i64 0], .agg G, .agg CF, .agg K, .tuple #[.agg CL, .int .i64 0], .agg CL, .int .i64 0, .int .i64 0, .bool false, ud, undef, .agg G, .agg K, undef, .agg CL, undef], defers := [] }) (obs := [.load 25 B 0 (.agg G), .load 43 O 0 (.agg K), .load 43 P 0 (.agg CL)]) (n := 4) (by kernel_rfl) (by kernel_rfl) ⟨qyz (fun _ h => h.1) underlying25 (by kernel_rfl) hzg, qyz (fun _ h => h.2.1) underlying43 (by kernel_rfl) (qez hz), qyz (fun _ h => h.2.2.1) underlying43 (by kernel_rfl) (qez zL), trivial⟩ ?_
  refine qnz (i := 2) (fuel := 3) (f := 36) (vs := [.agg G, .agg K]) (d := some 48) (by kernel_rfl) (by kernel_rfl) (by kernel_rfl) call36 (hpu _ hS.2.2.2) ?_
  rintro e z1 ⟨a1, m1, c1, rfl, p1, hcz1⟩
  have hdz1 := btz hd hcz1
  have hSz1 : Blk z1 B G 25 ∧ Blk z1 O K 43 ∧ Blk z1 P CL 43 ∧ Below w.heap.size w z1 := ⟨hS.1.next hcz1, hS.2.1.next hcz1, hS.2.2.1.next hcz1, hS.2.2.2.trans (hcz1.mono hS.2.2.2.size)⟩
  refine ⟨_, rfl, hSz1, ?_⟩
  have hm1 : m1 < 1024 := by have h1 := p1.1; have h2 := vRz X o; have h3 := h.1; omega
  have hDz : ∀ b, (LtN w b ∨ New V5 w6 b) → b < z1.heap.size := fun b hb => ltz (hD1 b hb).1 hdz1.size
  have hp2 := j4z (D0 := fun b => LtN w b ∨ New V5 w6 b) (t := t) (ke := ke) (ro := ro) hDz (p1.wide (fun _ hb => .inl hb) (fun _ hb => hb.2)) (vFz hX.srt o) hm1 (oM.laterK fun b hb => hdz1.block b (hD1 b hb).1)
  refine qnz (i := 4) (fuel := 2) (f := 36) (vs := [.agg #[.int .i64 t, .int .u64 ke, .int .u64 ro, .slice a1 m1 c1], .agg CL]) (d := some 50) (by kernel_rfl) (by kernel_rfl) (by kernel_rfl) call36 (hp2) ?_
  rintro e z2 ⟨a2, m2, c2, rfl, p2, hcz2⟩
  have hdz2 := btz hdz1 hcz2
  have hSz2 : Blk z2 B G 25 ∧ Blk z2 O K 43 ∧ Blk z2 P CL 43 ∧ Below w.heap.size w z2 := ⟨hSz1.1.next hcz2, hSz1.2.1.next hcz2, hSz1.2.2.1.next hcz2, hSz1.2.2.2.trans (hcz2.mono hSz1.2.2.2.size)⟩
  refine ⟨_, rfl, hSz2, ?_⟩
  obtain ⟨V9, hr9, hR9, q9⟩ := wlz (C := #[.int .i64 t, .int .u64 ke, .int .u64 ro, .slice a2 m2 c2]) (hR.next hdz2) wcz rfl (by kernel_rfl)
  refine qBz (i := 5) (n := 1) rfl (by kernel_rfl) ?_
  refine wqz (ty := 25) (B := R) (off := 0) (v := .agg #[.int .i64 t, .int .u64 ke, .int .u64 ro, .slice a2 m2 c2]) (d := none) (by kernel_rfl) hr9 ?_
  have hBR : B ≠ R ∧ O ≠ R := by have := hN1.out; have := hN2.out; have := hN3.out; exact ⟨by omega, by omega⟩
  have hS9 : Blk V9 B G 25 ∧ Blk V9 O K 43 ∧ Blk V9 P CL 43 ∧ Below w.heap.size w V9 := ⟨hSz2.1.other q9 hBR.1, hSz2.2.1.other q9 hBR.2, hSz2.2.2.1.other q9 hne.1.symm, q9.below _ _ hRw.out.1 hSz2.2.2.2⟩
  refine ⟨hS9, ?_⟩
  refine qjz (by kernel_rfl) (fun _ _ _ _ _ h => h) hS9 [(6, none)] (l' := #[tt, tt, tt, tt, tt, tt, tt]) (a' := { tmps := #[.agg G, .int .u64 i, .agg K, .pointer (some ⟨B, 0, none⟩), undef, .pointer (some ⟨O, 0, none⟩), .pointer (some ⟨R, 0, none⟩), .int .i64 0, .pointer (some ⟨P, 0, none⟩), .bool true, .pointer (some ⟨Y, 0, none⟩), .bool false, .int .i64 0, .tuple #[.agg CF, .bool true], .agg G, .int .u64 i, .tuple #[.agg CF, .bool true], .agg CF, .bool true, .bool true, .bool false, undef, .pointer (some ⟨P, 1, none⟩), .int .i64 2, .bool false, undef, .tuple #[.agg CH, .bool false], .agg G, .pointer (some ⟨O, 0, none⟩), .int .u64 o.id, .tuple #[.agg CH, .bool false], .agg CH, .bool false, .bool false, undef, .tuple #[.agg CL, .int .i64 0], .agg G, .agg CF, .agg K, .tuple #[.agg CL, .int .i64 0], .agg CL, .int .i64 0, .int .i64 0, .bool false, ud, undef, .agg G, .agg K, .agg #[.int .i64 t, .int .u64 ke, .int .u64 ro, .slice a1 m1 c1], .agg CL, .agg #[.int .i64 t, .int .u64 ke, .int .u64 ro, .slice a2 m2 c2]], defers := [] }) (obs := []) (n := 0) (by kernel_rfl) (by kernel_rfl) trivial ?_
  refine wpAnyH_done (by kernel_rfl) ?_ _
  go_wp2
  exact bodyPost_ret (v := .tuple #[.agg #[.int .i64 t, .int .u64 ke, .int .u64 ro, .slice a2 m2 c2], .int .i64 0]) (qAz results9 rfl rfl hR9 rfl) rfl ⟨a2, m2, c2, rfl, jtz p2 (fun b hb => ⟨ltz (hD1 b hb).1 hdz2.size, (hD1 b hb).2.1⟩) (ltz hRl hdz1.size) q9, hS9.2.2.2⟩
 ·have hwR : w.heap.size ≤ R := by have := hN1.out; have := hN2.out; have := hN3.out; omega
  refine bodyPost_ret (v := .tuple #[.agg G, .int .i64 ek]) (qAz results9 rfl rfl hR9 (by rw [hGH.out]; rfl)) rfl ⟨ao, n, cap, by rw [hGH.out], qWz h hk hwR q9, q9.below _ _ hwR hk⟩
 ·have hwR : w.heap.size ≤ R := by have := hN1.out; have := hN2.out; have := hN3.out; omega
  refine bodyPost_ret (v := .tuple #[.agg G, .int .i64 12]) (qAz results9 rfl rfl hR9 (by rw [hGH.out]; rfl)) rfl ⟨ao, n, cap, by rw [hGH.out], qWz h hk hwR q9, q9.below _ _ hwR hk⟩
 ·have hwR : w.heap.size ≤ R := by have := hN1.out; have := hN2.out; have := hN3.out; omega
  refine bodyPost_ret (v := .tuple #[.agg G, .int .i64 3]) (qAz results9 rfl rfl hR9 (by rw [hGH.out]; rfl)) rfl ⟨ao, n, cap, by rw [hGH.out], qWz h hk hwR q9, q9.below _ _ hwR hk⟩
 ·have hwR : w.heap.size ≤ R := by have := hN1.out; have := hN2.out; have := hN3.out; omega
  refine bodyPost_ret (v := .tuple #[.agg G, .int .i64 1]) (qAz results9 rfl rfl hR9 (by rw [hGH.out]; rfl)) rfl ⟨ao, n, cap, by rw [hGH.out], qWz h hk hwR q9, q9.below _ _ hwR hk⟩
theorem u0z {K : Array Value} {o : Ob} (h : Obs w ao n cap X) (hX : Rys X) (hn16 : n < 1022) (ho : ObD (LtN w) w K o) (fo : LbF o.label) : Calls prog 9 #[.agg #[.int .i64 t, .int .u64 ke, .int .u64 ro, .slice ao n cap], .int .u64 i, .agg K] w fun e w' => ∃ ao2 n2 cap2, e = .returned (.tuple #[.agg #[.int .i64 t, .int .u64 ke, .int .u64 ro, .slice ao2 n2 cap2], .int .i64 (atdE X i o)]) ∧ Obs w' ao2 n2 cap2 (atdX X i o) ∧ Below w.heap.size w w' := by
 cases hf : (fnd X i).isSome with
 | false => exact wVz h hX hn16 ho fo (.inl ⟨hf, (by unfold atdE; rw [hf]; rfl)⟩)
 | true =>
  by_cases hd2 : (fO X i).kind = 2
  ·cases hg : (fnd X o.id).isSome with
   | true => exact wVz h hX hn16 ho fo (.inr (.inr (.inl ⟨hf, hd2, hg, (by unfold atdE; rw [hf, hg, if_neg (by decide), if_neg (fun z => z hd2), if_pos rfl])⟩)))
   | false =>
    have e : atdE X i o = layD X (fO X i) o := by unfold atdE; rw [hf, hg, if_neg (by decide), if_neg (fun z => z hd2), if_neg (by decide)]
    by_cases hL : layD X (fO X i) o = 0
    ·exact wVz h hX hn16 ho fo (.inr (.inr (.inr (.inr ⟨hf, hd2, hg, hL, (e.trans hL)⟩))))
    ·exact wVz h hX hn16 ho fo (.inr (.inr (.inr (.inl ⟨hf, hd2, hg, hL, e⟩))))
  ·exact wVz h hX hn16 ho fo (.inr (.inl ⟨hf, hd2, (by unfold atdE; rw [hf, if_neg (by decide), if_pos hd2])⟩))
def whlB (k : Int) : Bool := k == 2 || k == 4
theorem w1z (k : Int) (w : World) : Calls prog 39 #[.int .i64 k] w fun e w' => e = .returned (.bool (whlB k)) ∧ Below w.heap.size w w' := by
 have hb := brz w.heap.size w
 obtain ⟨b, hbb⟩ : ∃ b, Hid (whlB k = b) := ⟨_, rfl⟩
 rw [hbb.out]
 cases h2 : (k == 2) with
 | true =>
  have e : Hid (b = true) := hbb.out.symm.trans (by unfold whlB; rw [h2]; rfl)
  go_enter func39, ntmps39
  go_wp2
  go_ret
  exact ⟨by rw [e.out]; rfl, hb⟩
 | false =>
  cases h4 : (k == 4) with
  | true =>
   have e : Hid (b = true) := hbb.out.symm.trans (by unfold whlB; rw [h2, h4]; rfl)
   go_enter func39, ntmps39
   go_wp2
   go_ret
   exact ⟨by rw [e.out]; rfl, hb⟩
  | false =>
   have e : Hid (b = false) := hbb.out.symm.trans (by unfold whlB; rw [h2, h4]; rfl)
   go_enter func39, ntmps39
   go_wp2
   go_ret
   exact ⟨by rw [e.out]; rfl, hb⟩
def fidE (X : List Ob) (i : Int) : Int := if (fnd X i).isSome = false then 1 else if whlB (fO X i).kind = true then 3 else 0
def fidX (X : List Ob) (i : Int) : List Ob := if fidE X i = 0 then puR X { fO X i with fixed := true } else X
theorem fid_no (h : fidE X i = k) (hk : k ≠ 0) : fidX X i = X := by unfold fidX; rw [h, if_neg hk]
theorem fid_ok (h : fidE X i = 0) : fidX X i = puR X { fO X i with fixed := true } := by unfold fidX; rw [if_pos h]
theorem ObD.set4 {D : Nat → Prop} {C : Array Value} {x : Ob} (h : ObD D w C x) (k : Bool) : ObD D w (C.setIfInBounds 4 (.bool k)) { x with fixed := k } := by
 have e : ∀ i, (C.setIfInBounds 4 (.bool k))[i]? = if 4 = i then some (.bool k) else C[i]? := fun i => qHz (by rw [h.size]; omega)
 exact ⟨by simp [h.size], q5z h.one rfl, nxz (e _) (by omega) h.id, nxz (e _) (by omega) h.kind, by rw [e, if_neg (by omega)]; exact h.label, nxz (e _) (by omega) h.quota, by rw [e, if_pos rfl], by rw [e, if_neg (by omega)]; exact h.links, by rw [e, if_neg (by omega)]; exact h.data, by rw [e, if_neg (by omega)]; exact h.maps, h.th.congr fun i hi => by rw [e, if_neg (by omega)], h.gt.congr fun i hi => by rw [e, if_neg (by omega)], by rw [e, if_neg (by omega)]; exact h.inn, by rw [e, if_neg (by omega)]; exact h.out⟩
theorem xRz (h : Obs w ao n cap X) (hX : Rys X) (hn16 : n < 1022) (hcase : ((fnd X i).isSome = false) ∧ (fidE X i = 1) ∨ ((fnd X i).isSome = true) ∧ (whlB (fO X i).kind = true) ∧ (fidE X i = 3) ∨ ((fnd X i).isSome = true) ∧ (whlB (fO X i).kind = false) ∧ (fidE X i = 0)) : Calls prog 13 #[.agg #[.int .i64 t, .int .u64 ke, .int .u64 ro, .slice ao n cap], .int .u64 i] w fun e w' => ∃ ao2 n2 cap2, e = .returned (.tuple #[.agg #[.int .i64 t, .int .u64 ke, .int .u64 ro, .slice ao2 n2 cap2], .int .i64 (fidE X i)]) ∧ Obs w' ao2 n2 cap2 (fidX X i) ∧ Below w.heap.size w w' := by
 have ga2 := isAgg3
 have hzg : (prog.info? 25).map (·.size) = some (#[.int .i64 t, .int .u64 ke, .int .u64 ro, .slice ao n cap] : Array Value).size := by kernel_rfl
 have hG1 : (#[.int .i64 t, .int .u64 ke, .int .u64 ro, .slice ao n cap] : Array Value).all (·.oneCell') = true := by kernel_rfl
 have hsW : zW.size = (#[.int .i64 t, .int .u64 ke, .int .u64 ro, .slice ao n cap] : Array Value).size := rfl
 rcases hcase with ⟨hf, hE⟩ | ⟨hf, hv, hE⟩ | ⟨hf, hv, hE⟩
 case' inl =>
  have hL := fid_no hE (by decide)
  rw [hE, hL]
  clear hE hL
  have hf1 := fun (W : World) (hk : Below w.heap.size w W) => qsz (t := t) (ke := ke) (ro := ro) (i := i) h hk
  rw [hf] at hf1
  obtain ⟨G, hG⟩ : ∃ G : Array Value, G = #[.int .i64 t, .int .u64 ke, .int .u64 ro, .slice ao n cap] := ⟨_, rfl⟩
  have hGH : Hid (G = #[.int .i64 t, .int .u64 ke, .int .u64 ro, .slice ao n cap]) := hG
  simp only [← hG] at hzg hG1 hsW hf1
  rw [← hG]
  clear hG hf
 case' inr.inl =>
  have hL := fid_no hE (by decide)
  rw [hE, hL]
  clear hE hL
  have hf1 := fun (W : World) (hk : Below w.heap.size w W) => qsz (t := t) (ke := ke) (ro := ro) (i := i) h hk
  rw [hf] at hf1
  have hwh := fun (W : World) => w1z (fO X i).kind W
  rw [hv] at hwh
  obtain ⟨G, hG⟩ : ∃ G : Array Value, G = #[.int .i64 t, .int .u64 ke, .int .u64 ro, .slice ao n cap] := ⟨_, rfl⟩
  have hGH : Hid (G = #[.int .i64 t, .int .u64 ke, .int .u64 ro, .slice ao n cap]) := hG
  simp only [← hG] at hzg hG1 hsW hf1
  rw [← hG]
  clear hG hf hv
 case' inr.inr =>
  have hL := fid_ok hE
  rw [hE, hL]
  clear hE hL
  have hf1 := fun (W : World) (hk : Below w.heap.size w W) => qsz (t := t) (ke := ke) (ro := ro) (i := i) h hk
  rw [hf] at hf1
  have hwh := fun (W : World) => w1z (fO X i).kind W
  rw [hv] at hwh
  have hpu := fun (V : World) (C : Array Value) (hk : Below w.heap.size w V) (hx : ObD (LtN w) V C { fO X i with fixed := true }) => j4z (D0 := LtN w) (t := t) (ke := ke) (ro := ro) (fun b hb => ltz hb hk.size) ((h.laterK (fun b hb => hk.block b hb) (fun b hb => hk.block b hb)).wide (fun _ hb => hb) (fun b hb => ltz hb hk.size)) hX.srt (by omega) hx
  have hz2 : ∀ v, (prog.info? 25).map (·.size) = some (#[.int .i64 t, .int .u64 ke, .int .u64 ro, v] : Array Value).size := fun _ => wcz
  have hs2 : ∀ v, zW.size = (#[.int .i64 t, .int .u64 ke, .int .u64 ro, v] : Array Value).size := fun _ => rfl
  have h12 : ∀ ao n cap, (#[.int .i64 t, .int .u64 ke, .int .u64 ro, .slice ao n cap] : Array Value).all (·.oneCell') = true := fun _ _ _ => by kernel_rfl
  obtain ⟨G, hG⟩ : ∃ G : Array Value, G = #[.int .i64 t, .int .u64 ke, .int .u64 ro, .slice ao n cap] := ⟨_, rfl⟩
  have hGH : Hid (G = #[.int .i64 t, .int .u64 ke, .int .u64 ro, .slice ao n cap]) := hG
  simp only [← hG] at hzg hG1 hsW hf1 hpu
  rw [← hG]
  clear hG hf hv
 all_goals go_enter func13, ntmps13
 all_goals go_wp2_with (first
  | (with_reducible refine qcz rfl 25 _ rfl G rfl ?_; intro B W1 hN1 hB hk)
  | ((with_reducible refine qfz rfl 25 rfl zW q0z ?_); intro R W3 hN3 hR hk3; replace hB := hB.next hk3; replace hk := btz hk hk3; clear hk3)
  | (with_reducible refine qdz (by kernel_rfl) 25 _ rfl B rfl G hB _ underlying25 (by kernel_rfl) hzg ?_)
  | (go_at_call 17; (with_reducible refine (hf1 _ hk).mono ?_); rintro e w4 ⟨CF, rfl, oF, hb4⟩)
  | ((with_reducible refine qfz rfl 43 rfl zC qzz ?_); have hx := oF; intro P U4 hN4 hPa hk4; clear hx)
  | ((with_reducible refine qbz rfl _ _ _ rfl P rfl CF rfl zC hPa (qez oF.size) (qoz.trans oF.size.symm) oF.one ?_); intro V4 hP q4; have hnP : Hid (R ≠ P ∧ B ≠ P ∧ w.heap.size ≤ P) := (by have := hN4.out.1; have := hb4.size; have := hR.lt; have := hB.lt; have := hk.size; exact ⟨by omega, by omega, by omega⟩); obtain ⟨hb5, oG⟩ := xYz hk hb4 oF hN4 hk4 q4; have zG := oG.size; have kG := oG.kind; clear oF hb4 hk4 q4 hN4 hPa; replace hB := hB.next hb5; replace hR := hR.next hb5; replace hk := btz hk hb5; clear hb5)
  | (with_reducible refine qaz (by kernel_rfl) _ _ rfl P _ rfl _ _ hP _ kG ga2 ?_)
  | (go_at_call 39; (with_reducible refine (hwh _).mono ?_); rintro e w5 ⟨rfl, hb6⟩; replace oG := w6z oG hk hb6; replace hB := hB.next hb6; replace hR := hR.next hb6; replace hP := hP.next hb6; replace hk := btz hk hb6; clear hb6)
  | ((with_reducible refine qbz rfl _ _ _ rfl R rfl G rfl zW hR hzg hsW hG1 ?_); intro V9 hR9 q9)
  | ((with_reducible refine qiz rfl _ _ _ rfl P 4 rfl (.bool true) rfl rfl CF _ hP sizeB (by rw [zG]; omega) rfl ?_); intro V6 hP6 q6; have hnn := hnP.out; have oN := (oG.laterK (w' := V6) fun b hb => q6.block b (by have h9 : b < w.heap.size := hb; omega)).set4 true; have zN := oN.size; replace hB := hB.other q6 hnn.2.1; replace hR := hR.other q6 hnn.1; replace hk := q6.below _ _ hnn.2.2 hk)
  | (with_reducible refine qdz (by kernel_rfl) 43 _ rfl P rfl _ hP6 _ underlying43 (by kernel_rfl) (qez zN) ?_)
  | (go_at_call 36; (with_reducible refine (hpu _ _ hk oN).mono ?_); rintro e w7 ⟨a2, m2, c2, rfl, p2, hb7⟩; have hRl := hR.lt; replace hR := hR.next hb7; have hk7 := btz hk hb7)
  | ((with_reducible refine qbz rfl _ _ _ rfl R rfl #[.int .i64 t, .int .u64 ke, .int .u64 ro, .slice a2 m2 c2] rfl zW hR (hz2 _) (hs2 _) (h12 _ _ _) ?_); intro V9 hR9 q9))
 ·have hwR : w.heap.size ≤ R := by have := hN1.out; have := hN3.out; omega
  exact bodyPost_ret (v := .tuple #[.agg #[.int .i64 t, .int .u64 ke, .int .u64 ro, .slice a2 m2 c2], .int .i64 0]) (qAz results13 rfl rfl hR9 rfl) rfl ⟨a2, m2, c2, rfl, jtz p2 (fun b hb => by have h9 : b < w.heap.size := hb; have := hk7.size; exact ⟨by omega, by omega⟩) hRl q9, q9.below _ _ hwR hk7⟩
 ·have hwR : w.heap.size ≤ R := by have := hN1.out; have := hN3.out; omega
  refine bodyPost_ret (v := .tuple #[.agg G, .int .i64 3]) (qAz results13 rfl rfl hR9 (by rw [hGH.out]; rfl)) rfl ⟨ao, n, cap, by rw [hGH.out], qWz h hk hwR q9, q9.below _ _ hwR hk⟩
 ·have hwR : w.heap.size ≤ R := by have := hN1.out; have := hN3.out; omega
  refine bodyPost_ret (v := .tuple #[.agg G, .int .i64 1]) (qAz results13 rfl rfl hR9 (by rw [hGH.out]; rfl)) rfl ⟨ao, n, cap, by rw [hGH.out], qWz h hk hwR q9, q9.below _ _ hwR hk⟩
theorem rfix_v (h : Obs w ao n cap X) (hX : Rys X) (hn16 : n < 1022) : Calls prog 13 #[.agg #[.int .i64 t, .int .u64 ke, .int .u64 ro, .slice ao n cap], .int .u64 i] w fun e w' => ∃ ao2 n2 cap2, e = .returned (.tuple #[.agg #[.int .i64 t, .int .u64 ke, .int .u64 ro, .slice ao2 n2 cap2], .int .i64 (fidE X i)]) ∧ Obs w' ao2 n2 cap2 (fidX X i) ∧ Below w.heap.size w w' := by
 cases hf : (fnd X i).isSome with
 | false => exact xRz h hX hn16 (.inl ⟨hf, (by unfold fidE; rw [hf]; rfl)⟩)
 | true =>
  cases hv : whlB (fO X i).kind with
  | true => exact xRz h hX hn16 (.inr (.inl ⟨hf, hv, (by unfold fidE; rw [hf, hv, if_neg (by decide), if_pos rfl])⟩))
  | false => exact xRz h hX hn16 (.inr (.inr ⟨hf, hv, (by unfold fidE; rw [hf, hv, if_neg (by decide), if_neg (by decide)])⟩))
def lidE (X : List Ob) (i j : Int) : Int := if (fnd X i).isSome = false ∨ (fnd X j).isSome = false then 1 else if (fO X i).kind ≠ 2 ∨ whlB (fO X j).kind = true then 3 else if (fO X j).fixed = false then 8 else if j ∈ (fO X i).links then 12 else layD X (fO X i) (fO X j)
def lidX (X : List Ob) (i j : Int) : List Ob := if lidE X i j = 0 then puR X { fO X i with links := insW (fO X i).links (fO X j).id } else X
theorem kFz {i j : Int} (h : lidE X i j = k) (hk : k ≠ 0) : lidX X i j = X := by unfold lidX; rw [h, if_neg hk]
theorem lid_ok {i j : Int} (h : lidE X i j = 0) : lidX X i j = puR X { fO X i with links := insW (fO X i).links (fO X j).id } := by unfold lidX; rw [if_pos h]
theorem wsz {i j : Int} (h : Obs w ao n cap X) (hX : Rys X) (hn16 : n < 1022) (hcase : ((fnd X i).isSome = false) ∧ (lidE X i j = 1) ∨ ((fnd X i).isSome = true) ∧ ((fnd X j).isSome = false) ∧ (lidE X i j = 1) ∨ ((fnd X i).isSome = true) ∧ ((fnd X j).isSome = true) ∧ (¬ (fO X i).kind = 2) ∧ (lidE X i j = 3) ∨ ((fnd X i).isSome = true) ∧ ((fnd X j).isSome = true) ∧ ((fO X i).kind = 2) ∧ (whlB (fO X j).kind = true) ∧ (lidE X i j = 3) ∨ ((fnd X i).isSome = true) ∧ ((fnd X j).isSome = true) ∧ ((fO X i).kind = 2) ∧ (whlB (fO X j).kind = false) ∧ ((fO X j).fixed = false) ∧ (lidE X i j = 8) ∨ ((fnd X i).isSome = true) ∧ ((fnd X j).isSome = true) ∧ ((fO X i).kind = 2) ∧ (whlB (fO X j).kind = false) ∧ ((fO X j).fixed = true) ∧ (j ∈ (fO X i).links) ∧ (lidE X i j = 12) ∨ ((fnd X i).isSome = true) ∧ ((fnd X j).isSome = true) ∧ ((fO X i).kind = 2) ∧ (whlB (fO X j).kind = false) ∧ ((fO X j).fixed = true) ∧ (¬ j ∈ (fO X i).links) ∧ (layD X (fO X i) (fO X j) ≠ 0) ∧ (lidE X i j = layD X (fO X i) (fO X j)) ∨ ((fnd X i).isSome = true) ∧ ((fnd X j).isSome = true) ∧ ((fO X i).kind = 2) ∧ (whlB (fO X j).kind = false) ∧ ((fO X j).fixed = true) ∧ (¬ j ∈ (fO X i).links) ∧ (layD X (fO X i) (fO X j) = 0) ∧ (lidE X i j = 0)) : Calls prog 11 #[.agg #[.int .i64 t, .int .u64 ke, .int .u64 ro, .slice ao n cap], .int .u64 i, .int .u64 j] w fun e w' => ∃ ao2 n2 cap2, e = .returned (.tuple #[.agg #[.int .i64 t, .int .u64 ke, .int .u64 ro, .slice ao2 n2 cap2], .int .i64 (lidE X i j)]) ∧ Obs w' ao2 n2 cap2 (lidX X i j) ∧ Below w.heap.size w w' := by
 have ga2 := isAgg3
 have ga3 := isAgg4
 have ga4 := isAgg28
 have hzg : (prog.info? 25).map (·.size) = some (#[.int .i64 t, .int .u64 ke, .int .u64 ro, .slice ao n cap] : Array Value).size := by kernel_rfl
 have hG1 : (#[.int .i64 t, .int .u64 ke, .int .u64 ro, .slice ao n cap] : Array Value).all (·.oneCell') = true := by kernel_rfl
 have hsW : zW.size = (#[.int .i64 t, .int .u64 ke, .int .u64 ro, .slice ao n cap] : Array Value).size := rfl
 rcases hcase with ⟨hf, hE⟩ | ⟨hf, hg, hE⟩ | ⟨hf, hg, hd2, hE⟩ | ⟨hf, hg, hd2, hv, hE⟩ | ⟨hf, hg, hd2, hv, hx2, hE⟩ | ⟨hf, hg, hd2, hv, hx2, hi, hE⟩ | ⟨hf, hg, hd2, hv, hx2, hi, hLn, hE⟩ | ⟨hf, hg, hd2, hv, hx2, hi, hL0, hE⟩
 case' inl =>
  have hL := kFz hE (by decide)
  rw [hE, hL]
  clear hE hL
  have hf1 := fun (W : World) (hk : Below w.heap.size w W) => qsz (t := t) (ke := ke) (ro := ro) (i := i) h hk
  rw [hf] at hf1
  have hf2 := fun (W : World) (hk : Below w.heap.size w W) => qsz (t := t) (ke := ke) (ro := ro) (i := j) h hk
  obtain ⟨G, hG⟩ : ∃ G : Array Value, G = #[.int .i64 t, .int .u64 ke, .int .u64 ro, .slice ao n cap] := ⟨_, rfl⟩
  have hGH : Hid (G = #[.int .i64 t, .int .u64 ke, .int .u64 ro, .slice ao n cap]) := hG
  simp only [← hG] at hzg hG1 hsW hf1 hf2
  rw [← hG]
  clear hG hf
 case' inr.inl =>
  have hL := kFz hE (by decide)
  rw [hE, hL]
  clear hE hL
  have hf1 := fun (W : World) (hk : Below w.heap.size w W) => qsz (t := t) (ke := ke) (ro := ro) (i := i) h hk
  rw [hf] at hf1
  have hf2 := fun (W : World) (hk : Below w.heap.size w W) => qsz (t := t) (ke := ke) (ro := ro) (i := j) h hk
  rw [hg] at hf2
  obtain ⟨G, hG⟩ : ∃ G : Array Value, G = #[.int .i64 t, .int .u64 ke, .int .u64 ro, .slice ao n cap] := ⟨_, rfl⟩
  have hGH : Hid (G = #[.int .i64 t, .int .u64 ke, .int .u64 ro, .slice ao n cap]) := hG
  simp only [← hG] at hzg hG1 hsW hf1 hf2
  rw [← hG]
  clear hG hf hg
 case' inr.inr.inl =>
  have hL := kFz hE (by decide)
  rw [hE, hL]
  clear hE hL
  have hf1 := fun (W : World) (hk : Below w.heap.size w W) => qsz (t := t) (ke := ke) (ro := ro) (i := i) h hk
  rw [hf] at hf1
  have hf2 := fun (W : World) (hk : Below w.heap.size w W) => qsz (t := t) (ke := ke) (ro := ro) (i := j) h hk
  rw [hg] at hf2
  have k1 : ((fO X i).kind != 2) = true := by simpa using hd2
  obtain ⟨G, hG⟩ : ∃ G : Array Value, G = #[.int .i64 t, .int .u64 ke, .int .u64 ro, .slice ao n cap] := ⟨_, rfl⟩
  have hGH : Hid (G = #[.int .i64 t, .int .u64 ke, .int .u64 ro, .slice ao n cap]) := hG
  simp only [← hG] at hzg hG1 hsW hf1 hf2
  rw [← hG]
  clear hG hf hg hd2
 case' inr.inr.inr.inl =>
  have hL := kFz hE (by decide)
  rw [hE, hL]
  clear hE hL
  have hf1 := fun (W : World) (hk : Below w.heap.size w W) => qsz (t := t) (ke := ke) (ro := ro) (i := i) h hk
  rw [hf] at hf1
  have hf2 := fun (W : World) (hk : Below w.heap.size w W) => qsz (t := t) (ke := ke) (ro := ro) (i := j) h hk
  rw [hg] at hf2
  have HD : Hid ((fO X i).kind = 2) := hd2
  have hwh := fun (W : World) => w1z (fO X j).kind W
  rw [hv] at hwh
  obtain ⟨G, hG⟩ : ∃ G : Array Value, G = #[.int .i64 t, .int .u64 ke, .int .u64 ro, .slice ao n cap] := ⟨_, rfl⟩
  have hGH : Hid (G = #[.int .i64 t, .int .u64 ke, .int .u64 ro, .slice ao n cap]) := hG
  simp only [← hG] at hzg hG1 hsW hf1 hf2
  rw [← hG]
  clear hG hf hg hv hd2
 case' inr.inr.inr.inr.inl =>
  have hL := kFz hE (by decide)
  rw [hE, hL]
  clear hE hL
  have hf1 := fun (W : World) (hk : Below w.heap.size w W) => qsz (t := t) (ke := ke) (ro := ro) (i := i) h hk
  rw [hf] at hf1
  have hf2 := fun (W : World) (hk : Below w.heap.size w W) => qsz (t := t) (ke := ke) (ro := ro) (i := j) h hk
  rw [hg] at hf2
  have HD : Hid ((fO X i).kind = 2) := hd2
  have hwh := fun (W : World) => w1z (fO X j).kind W
  rw [hv] at hwh
  have HX : Hid ((fO X j).fixed = false) := hx2
  obtain ⟨G, hG⟩ : ∃ G : Array Value, G = #[.int .i64 t, .int .u64 ke, .int .u64 ro, .slice ao n cap] := ⟨_, rfl⟩
  have hGH : Hid (G = #[.int .i64 t, .int .u64 ke, .int .u64 ro, .slice ao n cap]) := hG
  simp only [← hG] at hzg hG1 hsW hf1 hf2
  rw [← hG]
  clear hG hf hg hv hd2 hx2
 case' inr.inr.inr.inr.inr.inl =>
  have hL := kFz hE (by decide)
  rw [hE, hL]
  clear hE hL
  have hf1 := fun (W : World) (hk : Below w.heap.size w W) => qsz (t := t) (ke := ke) (ro := ro) (i := i) h hk
  rw [hf] at hf1
  have hf2 := fun (W : World) (hk : Below w.heap.size w W) => qsz (t := t) (ke := ke) (ro := ro) (i := j) h hk
  rw [hg] at hf2
  have HD : Hid ((fO X i).kind = 2) := hd2
  have hwh := fun (W : World) => w1z (fO X j).kind W
  rw [hv] at hwh
  have HX : Hid ((fO X j).fixed = true) := hx2
  have hha := fun (W : World) (a : Option Addr) (m c : Nat) (hC : CtD (LtN W) W a m c (fO X i).links) => (wmz (i := j) hC).yes hi
  obtain ⟨G, hG⟩ : ∃ G : Array Value, G = #[.int .i64 t, .int .u64 ke, .int .u64 ro, .slice ao n cap] := ⟨_, rfl⟩
  have hGH : Hid (G = #[.int .i64 t, .int .u64 ke, .int .u64 ro, .slice ao n cap]) := hG
  simp only [← hG] at hzg hG1 hsW hf1 hf2
  rw [← hG]
  clear hG hf hg hv hd2 hx2 hi
 case' inr.inr.inr.inr.inr.inr.inl =>
  have hL := kFz hE hLn
  rw [hE, hL]
  clear hE hL
  have hf1 := fun (W : World) (hk : Below w.heap.size w W) => qsz (t := t) (ke := ke) (ro := ro) (i := i) h hk
  rw [hf] at hf1
  have hf2 := fun (W : World) (hk : Below w.heap.size w W) => qsz (t := t) (ke := ke) (ro := ro) (i := j) h hk
  rw [hg] at hf2
  have HD : Hid ((fO X i).kind = 2) := hd2
  have hwh := fun (W : World) => w1z (fO X j).kind W
  rw [hv] at hwh
  have HX : Hid ((fO X j).fixed = true) := hx2
  have hha := fun (W : World) (a : Option Addr) (m c : Nat) (hC : CtD (LtN W) W a m c (fO X i).links) => (wmz (i := j) hC).no hi
  have hmem := (wiz hf).1
  have hmem2 := (wiz hg).1
  have hla := fun (W : World) (Cd Ce : Array Value) (hk : Below w.heap.size w W) (hd : ObD (LtN w) W Cd (fO X i)) (he : ObD (LtN w) W Ce (fO X j)) => joz (D0 := LtN w) (t := t) (ke := ke) (ro := ro) (qqz h hk) hX.quo (fun b hb => ltz hb hk.size) hd (kcz he hk) (hX.sml _ hmem) (hX.lab _ hmem) (hX.lab _ hmem2) (hX.quo _ hmem) (hX.ris _ hmem).1 (hX.ris _ hmem).2
  have HE : Hid (layD X (fO X i) (fO X j) ≠ 0) := hLn
  generalize layD X (fO X i) (fO X j) = ek at hla HE ⊢
  have hb0 : (ek != 0) = true := by simpa using HE.out
  obtain ⟨G, hG⟩ : ∃ G : Array Value, G = #[.int .i64 t, .int .u64 ke, .int .u64 ro, .slice ao n cap] := ⟨_, rfl⟩
  have hGH : Hid (G = #[.int .i64 t, .int .u64 ke, .int .u64 ro, .slice ao n cap]) := hG
  simp only [← hG] at hzg hG1 hsW hf1 hf2 hla
  rw [← hG]
  clear hG hf hg hv hd2 hx2 hi hLn
 case' inr.inr.inr.inr.inr.inr.inr =>
  have hL := lid_ok hE
  rw [hE, hL]
  clear hE hL
  have hf1 := fun (W : World) (hk : Below w.heap.size w W) => qsz (t := t) (ke := ke) (ro := ro) (i := i) h hk
  rw [hf] at hf1
  have hf2 := fun (W : World) (hk : Below w.heap.size w W) => qsz (t := t) (ke := ke) (ro := ro) (i := j) h hk
  rw [hg] at hf2
  have HD : Hid ((fO X i).kind = 2) := hd2
  have hwh := fun (W : World) => w1z (fO X j).kind W
  rw [hv] at hwh
  have HX : Hid ((fO X j).fixed = true) := hx2
  have hha := fun (W : World) (a : Option Addr) (m c : Nat) (hC : CtD (LtN W) W a m c (fO X i).links) => (wmz (i := j) hC).no hi
  have hmem := (wiz hf).1
  have hmem2 := (wiz hg).1
  have hla := fun (W : World) (Cd Ce : Array Value) (hk : Below w.heap.size w W) (hd : ObD (LtN w) W Cd (fO X i)) (he : ObD (LtN w) W Ce (fO X j)) => joz (D0 := LtN w) (t := t) (ke := ke) (ro := ro) (qqz h hk) hX.quo (fun b hb => ltz hb hk.size) hd (kcz he hk) (hX.sml _ hmem) (hX.lab _ hmem) (hX.lab _ hmem2) (hX.quo _ hmem) (hX.ris _ hmem).1 (hX.ris _ hmem).2
  simp only [hL0, gsz hL0] at hla
  have hpu := fun (V V' W' : World) (C : Array Value) (cc : Ob) (hk : Below w.heap.size w V) (hD : ∀ b, (LtN w b ∨ New V' W' b) → b < V.heap.size) (hx : ObD (fun b => LtN w b ∨ New V' W' b) V C cc) => j4z (D0 := fun b => LtN w b ∨ New V' W' b) (t := t) (ke := ke) (ro := ro) hD ((h.laterK (fun b hb => hk.block b hb) (fun b hb => hk.block b hb)).wide (fun _ hb => .inl hb) (fun b hb => ltz hb hk.size)) hX.srt (by omega) hx
  have hz2 : ∀ v, (prog.info? 25).map (·.size) = some (#[.int .i64 t, .int .u64 ke, .int .u64 ro, v] : Array Value).size := fun _ => wcz
  have hs2 : ∀ v, zW.size = (#[.int .i64 t, .int .u64 ke, .int .u64 ro, v] : Array Value).size := fun _ => rfl
  have h12 : ∀ ao n cap, (#[.int .i64 t, .int .u64 ke, .int .u64 ro, .slice ao n cap] : Array Value).all (·.oneCell') = true := fun _ _ _ => by kernel_rfl
  obtain ⟨G, hG⟩ : ∃ G : Array Value, G = #[.int .i64 t, .int .u64 ke, .int .u64 ro, .slice ao n cap] := ⟨_, rfl⟩
  have hGH : Hid (G = #[.int .i64 t, .int .u64 ke, .int .u64 ro, .slice ao n cap]) := hG
  simp only [← hG] at hzg hG1 hsW hf1 hf2 hla hpu
  rw [← hG]
  clear hG hf hg hv hd2 hx2 hi
 all_goals go_enter func11, ntmps11
 all_goals go_wp2_with (first
  | go_skip
  | (with_reducible refine qcz rfl 25 _ rfl G rfl ?_; intro B W1 hN1 hB hk)
  | ((with_reducible refine qfz rfl 25 rfl zW q0z ?_); intro R W3 hN3 hR hk3; replace hB := hB.next hk3; replace hk := btz hk hk3; clear hk3)
  | (with_reducible refine qdz (by kernel_rfl) 25 _ rfl B rfl G hB _ underlying25 (by kernel_rfl) hzg ?_)
  | (go_at_call 17; (with_reducible refine (hf1 _ hk).mono ?_); rintro e w4 ⟨CF, rfl, oF, hb4⟩; clear hf1)
  | ((with_reducible refine qfz rfl 43 rfl zC qzz ?_); have hx := oF; intro P U4 hN4 hPa hk4; clear hx)
  | ((with_reducible refine qbz rfl _ _ _ rfl P rfl CF rfl zC hPa (qez oF.size) (qoz.trans oF.size.symm) oF.one ?_); intro V4 hP q4; have hnP : Hid (R ≠ P ∧ B ≠ P ∧ w.heap.size ≤ P) := (by have := hN4.out.1; have := hb4.size; have := hR.lt; have := hB.lt; have := hk.size; exact ⟨by omega, by omega, by omega⟩); obtain ⟨hb5, oG⟩ := xYz hk hb4 oF hN4 hk4 q4; have zG := oG.size; have kG := oG.kind; rw [HD.out] at kG; obtain ⟨a5, n5, c5, e5, l5⟩ := oG.links; clear oF hb4 hk4 q4 hN4 hPa; replace hB := hB.next hb5; replace hR := hR.next hb5; replace hk := btz hk hb5; clear hb5)
  | ((with_reducible refine qbz rfl _ _ _ rfl P rfl CF rfl zC hPa (qez oF.size) (qoz.trans oF.size.symm) oF.one ?_); intro V4 hP q4; have hnP : Hid (R ≠ P ∧ B ≠ P ∧ w.heap.size ≤ P) := (by have := hN4.out.1; have := hb4.size; have := hR.lt; have := hB.lt; have := hk.size; exact ⟨by omega, by omega, by omega⟩); obtain ⟨hb5, oG⟩ := xYz hk hb4 oF hN4 hk4 q4; have zG := oG.size; have kG := oG.kind; obtain ⟨a5, n5, c5, e5, l5⟩ := oG.links; clear oF hb4 hk4 q4 hN4 hPa; replace hB := hB.next hb5; replace hR := hR.next hb5; replace hk := btz hk hb5; clear hb5)
  | (go_at_call 17; (with_reducible refine (hf2 _ hk).mono ?_); rintro e w5 ⟨CH, rfl, oH, hb6⟩)
  | ((with_reducible refine qfz rfl 43 rfl zC qzz ?_); have hx := oH; intro Y U5 hN5 hYa hk5; clear hx)
  | ((with_reducible refine qbz rfl _ _ _ rfl Y rfl CH rfl zC hYa (qez oH.size) (qoz.trans oH.size.symm) oH.one ?_); intro V5 hY q6; have hnY : Hid (P ≠ Y) := (by have := hN5.out.1; have := hb6.size; have := hP.lt; show P ≠ Y; omega); obtain ⟨hb7, oY⟩ := xYz hk hb6 oH hN5 hk5 q6; have zY := oY.size; have kY := oY.kind; have fY := oY.fixed; rw [HX.out] at fY; replace oG := w6z oG hk hb7; have l5k := (l5.laterK fun b hb => hb7.block b (ltz hb hk.size)); clear oH hb6 hk5 q6 hN5 hYa; replace hB := hB.next hb7; replace hR := hR.next hb7; replace hP := hP.next hb7; replace hk := btz hk hb7; clear hb7)
  | ((with_reducible refine qbz rfl _ _ _ rfl Y rfl CH rfl zC hYa (qez oH.size) (qoz.trans oH.size.symm) oH.one ?_); intro V5 hY q6; have hnY : Hid (P ≠ Y) := (by have := hN5.out.1; have := hb6.size; have := hP.lt; show P ≠ Y; omega); obtain ⟨hb7, oY⟩ := xYz hk hb6 oH hN5 hk5 q6; have zY := oY.size; have kY := oY.kind; have fY := oY.fixed; replace oG := w6z oG hk hb7; have l5k := (l5.laterK fun b hb => hb7.block b (ltz hb hk.size)); clear oH hb6 hk5 q6 hN5 hYa; replace hB := hB.next hb7; replace hR := hR.next hb7; replace hP := hP.next hb7; replace hk := btz hk hb7; clear hb7)
  | (with_reducible refine qaz (by kernel_rfl) _ _ rfl P 1 rfl _ _ hP _ kG ga2 ?_)
  | (with_reducible refine qaz (by kernel_rfl) _ _ rfl P 5 rfl _ _ hP _ e5 ga4 ?_)
  | (with_reducible refine qaz (by kernel_rfl) _ _ rfl Y 1 rfl _ _ hY _ kY ga2 ?_)
  | (with_reducible refine qaz (by kernel_rfl) _ _ rfl Y 4 rfl _ _ hY _ fY ga3 ?_)
  | (go_at_call 39; (with_reducible refine (hwh _).mono ?_); rintro e w6 ⟨rfl, hb8⟩; replace oG := w6z oG hk hb8; replace oY := w6z oY hk hb8; have l5w := (l5k.laterK fun b hb => hb8.block b (ltz hb hk.size)); replace hB := hB.next hb8; replace hR := hR.next hb8; replace hP := hP.next hb8; replace hY := hY.next hb8; replace hk := btz hk hb8; clear hb8)
  | ((with_reducible refine qbz rfl _ _ _ rfl R rfl G rfl zW hR hzg hsW hG1 ?_); intro V9 hR9 q9)
  | (go_at_call 40; (with_reducible refine (hha _ _ _ _ (l5w.wide fun b hb => ltz hb hk.size)).mono ?_); rintro e w7 ⟨rfl, hb9⟩; replace oG := w6z oG hk hb9; replace oY := w6z oY hk hb9; replace hB := hB.next hb9; replace hR := hR.next hb9; replace hP := hP.next hb9; replace hY := hY.next hb9; replace hk := btz hk hb9; clear hb9)
  | (with_reducible refine qdz (by kernel_rfl) 43 _ rfl P rfl CF hP _ underlying43 (by kernel_rfl) (qez zG) ?_)
  | (with_reducible refine qdz (by kernel_rfl) 43 _ rfl Y rfl CH hY _ underlying43 (by kernel_rfl) (qez zY) ?_)
  | (go_at_call 35; (with_reducible refine (hla _ _ _ hk oG oY).mono ?_); rintro e w8 ⟨CL, rfl, oL, hb10⟩; have zL := oL.size; have hkl := hk; have hPl : Hid (P < w7.heap.size ∧ R < w7.heap.size ∧ w7.heap.size ≤ w8.heap.size) := ⟨hP.lt, hR.lt, hb10.size⟩; replace hB := hB.next hb10; replace hR := hR.next hb10; replace hP := hP.next hb10; replace hk := btz hk hb10; clear hb10)
  | ((with_reducible refine qbz rfl _ _ _ rfl P rfl CL rfl CF hP (qez zL) (zG.trans zL.symm) oL.one ?_); intro V6 hP6 q8; have hnn := hnP.out; replace hB := hB.other q8 hnn.2.1; replace hR := hR.other q8 hnn.1; replace hk := q8.below _ _ hnn.2.2 hk; have hwR0 : w.heap.size ≤ R := (by have := hN1.out; have := hN3.out; omega); have hD1 : ∀ b, (LtN w b ∨ New w7 w8 b) → b < V6.heap.size ∧ b ≠ R ∧ b ≠ P := (fun b hb => by have h1 := hkl.size; have h2 := hPl.out; have h4 := q8.size; rcases hb with hb | hb; exact (by have h6 : b < w.heap.size := hb; exact ⟨by omega, by omega, by omega⟩); exact (by have h6 := hb.1; have h7 := hb.2; exact ⟨by omega, by omega, by omega⟩)); have oM := oL.laterK (w' := V6) (fun b hb => q8.block b (hD1 b hb).2.2); clear hwR0)
  | ((with_reducible refine qbz rfl _ _ _ rfl P rfl CL rfl CF hP (qez zL) (zG.trans zL.symm) oL.one ?_); intro V6 hP6 q8; have hnn := hnP.out; replace hB := hB.other q8 hnn.2.1; replace hR := hR.other q8 hnn.1; replace hk := q8.below _ _ hnn.2.2 hk)
  | (with_reducible refine qdz (by kernel_rfl) 43 _ rfl P rfl CL hP6 _ underlying43 (by kernel_rfl) (qez zL) ?_)
  | (go_at_call 36; (with_reducible refine (hpu _ _ _ _ _ hk (fun b hb => (hD1 b hb).1) oM).mono ?_); rintro e w9 ⟨a2, m2, c2, rfl, p2, hb11⟩; have hRl := hR.lt; replace hR := hR.next hb11; have hk9 := btz hk hb11)
  | ((with_reducible refine qbz rfl _ _ _ rfl R rfl #[.int .i64 t, .int .u64 ke, .int .u64 ro, .slice a2 m2 c2] rfl zW hR (hz2 _) (hs2 _) (h12 _ _ _) ?_); intro V9 hR9 q9))
 ·have hwR : w.heap.size ≤ R := by have := hN1.out; have := hN3.out; omega
  exact bodyPost_ret (v := .tuple #[.agg #[.int .i64 t, .int .u64 ke, .int .u64 ro, .slice a2 m2 c2], .int .i64 0]) (qAz results11 rfl rfl hR9 rfl) rfl ⟨a2, m2, c2, rfl, jtz p2 (fun b hb => ⟨ltz (hD1 b hb).1 hb11.size, (hD1 b hb).2.1⟩) hRl q9, q9.below _ _ hwR hk9⟩
 ·have hwR : w.heap.size ≤ R := by have := hN1.out; have := hN3.out; omega
  refine bodyPost_ret (v := .tuple #[.agg G, .int .i64 ek]) (qAz results11 rfl rfl hR9 (by rw [hGH.out]; rfl)) rfl ⟨ao, n, cap, by rw [hGH.out], qWz h hk hwR q9, q9.below _ _ hwR hk⟩
 ·have hwR : w.heap.size ≤ R := by have := hN1.out; have := hN3.out; omega
  refine bodyPost_ret (v := .tuple #[.agg G, .int .i64 12]) (qAz results11 rfl rfl hR9 (by rw [hGH.out]; rfl)) rfl ⟨ao, n, cap, by rw [hGH.out], qWz h hk hwR q9, q9.below _ _ hwR hk⟩
 ·have hwR : w.heap.size ≤ R := by have := hN1.out; have := hN3.out; omega
  refine bodyPost_ret (v := .tuple #[.agg G, .int .i64 8]) (qAz results11 rfl rfl hR9 (by rw [hGH.out]; rfl)) rfl ⟨ao, n, cap, by rw [hGH.out], qWz h hk hwR q9, q9.below _ _ hwR hk⟩
 ·have hwR : w.heap.size ≤ R := by have := hN1.out; have := hN3.out; omega
  refine bodyPost_ret (v := .tuple #[.agg G, .int .i64 3]) (qAz results11 rfl rfl hR9 (by rw [hGH.out]; rfl)) rfl ⟨ao, n, cap, by rw [hGH.out], qWz h hk hwR q9, q9.below _ _ hwR hk⟩
 ·have hwR : w.heap.size ≤ R := by have := hN1.out; have := hN3.out; omega
  refine bodyPost_ret (v := .tuple #[.agg G, .int .i64 3]) (qAz results11 rfl rfl hR9 (by rw [hGH.out]; rfl)) rfl ⟨ao, n, cap, by rw [hGH.out], qWz h hk hwR q9, q9.below _ _ hwR hk⟩
 ·have hwR : w.heap.size ≤ R := by have := hN1.out; have := hN3.out; omega
  refine bodyPost_ret (v := .tuple #[.agg G, .int .i64 1]) (qAz results11 rfl rfl hR9 (by rw [hGH.out]; rfl)) rfl ⟨ao, n, cap, by rw [hGH.out], qWz h hk hwR q9, q9.below _ _ hwR hk⟩
 ·have hwR : w.heap.size ≤ R := by have := hN1.out; have := hN3.out; omega
  refine bodyPost_ret (v := .tuple #[.agg G, .int .i64 1]) (qAz results11 rfl rfl hR9 (by rw [hGH.out]; rfl)) rfl ⟨ao, n, cap, by rw [hGH.out], qWz h hk hwR q9, q9.below _ _ hwR hk⟩
theorem rlink_v {i j : Int} (h : Obs w ao n cap X) (hX : Rys X) (hn16 : n < 1022) : Calls prog 11 #[.agg #[.int .i64 t, .int .u64 ke, .int .u64 ro, .slice ao n cap], .int .u64 i, .int .u64 j] w fun e w' => ∃ ao2 n2 cap2, e = .returned (.tuple #[.agg #[.int .i64 t, .int .u64 ke, .int .u64 ro, .slice ao2 n2 cap2], .int .i64 (lidE X i j)]) ∧ Obs w' ao2 n2 cap2 (lidX X i j) ∧ Below w.heap.size w w' := by
 cases hf : (fnd X i).isSome with
 | false => exact wsz h hX hn16 (.inl ⟨hf, (by unfold lidE; rw [if_pos (.inl hf)])⟩)
 | true =>
  cases hg : (fnd X j).isSome with
  | false => exact wsz h hX hn16 (.inr (.inl ⟨hf, hg, (by unfold lidE; rw [if_pos (.inr hg)])⟩))
  | true =>
   have n1 : ¬ ((fnd X i).isSome = false ∨ (fnd X j).isSome = false) := by rw [hf, hg]; decide
   by_cases hd2 : (fO X i).kind = 2
   ·cases hv : whlB (fO X j).kind with
    | true => exact wsz h hX hn16 (.inr (.inr (.inr (.inl ⟨hf, hg, hd2, hv, (by unfold lidE; rw [if_neg n1, if_pos (.inr hv)])⟩))))
    | false =>
     have n2 : ¬ ((fO X i).kind ≠ 2 ∨ whlB (fO X j).kind = true) := by rw [hv]; exact fun z => z.elim (fun q => q hd2) (by decide)
     cases hx2 : (fO X j).fixed with
     | false => exact wsz h hX hn16 (.inr (.inr (.inr (.inr (.inl ⟨hf, hg, hd2, hv, hx2, (by unfold lidE; rw [if_neg n1, if_neg n2, if_pos hx2])⟩)))))
     | true =>
      have n3 : ¬ (fO X j).fixed = false := by rw [hx2]; decide
      by_cases hi : j ∈ (fO X i).links
      ·exact wsz h hX hn16 (.inr (.inr (.inr (.inr (.inr (.inl ⟨hf, hg, hd2, hv, hx2, hi, (by unfold lidE; rw [if_neg n1, if_neg n2, if_neg n3, if_pos hi])⟩))))))
      ·have e : lidE X i j = layD X (fO X i) (fO X j) := by unfold lidE; rw [if_neg n1, if_neg n2, if_neg n3, if_neg hi]
       by_cases hL : layD X (fO X i) (fO X j) = 0
       ·exact wsz h hX hn16 (.inr (.inr (.inr (.inr (.inr (.inr (.inr ⟨hf, hg, hd2, hv, hx2, hi, hL, (e.trans hL)⟩)))))))
       ·exact wsz h hX hn16 (.inr (.inr (.inr (.inr (.inr (.inr (.inl ⟨hf, hg, hd2, hv, hx2, hi, hL, e⟩)))))))
   ·exact wsz h hX hn16 (.inr (.inr (.inl ⟨hf, hg, hd2, (by unfold lidE; rw [if_neg n1, if_pos (.inl hd2)])⟩)))
def mvdE (X : List Ob) (i j m : Int) : Int := if (fnd X i).isSome = false ∨ ¬ j ∈ (fO X i).links then 1 else if (fO X j).fixed = true then 8 else if m < -4096 ∨ 4096 < m then 4 else if wwz X (fO X i) < m ∨ (fO X j).quota + m < wCz X (fO X j) ∨ (fO X j).quota + m < 1 ∨ 4096 < (fO X j).quota + m then 5 else 0
def mvdX (X : List Ob) (i j m : Int) : List Ob := if mvdE X i j m = 0 then puR X { fO X j with quota := (fO X j).quota + m } else X
theorem xKz {i j m : Int} (h : mvdE X i j m = k) (hk : k ≠ 0) : mvdX X i j m = X := by unfold mvdX; rw [h, if_neg hk]
theorem mvd_ok {i j m : Int} (h : mvdE X i j m = 0) : mvdX X i j m = puR X { fO X j with quota := (fO X j).quota + m } := by unfold mvdX; rw [if_pos h]
theorem ObD.set3 {D : Nat → Prop} {C : Array Value} {x : Ob} (h : ObD D w C x) (k : Int) : ObD D w (C.setIfInBounds 3 (.int .i64 k)) { x with quota := k } := by
 have e : ∀ i, (C.setIfInBounds 3 (.int .i64 k))[i]? = if 3 = i then some (.int .i64 k) else C[i]? := fun i => qHz (by rw [h.size]; omega)
 exact ⟨by simp [h.size], q5z h.one rfl, nxz (e _) (by omega) h.id, nxz (e _) (by omega) h.kind, by rw [e, if_neg (by omega)]; exact h.label, by rw [e, if_pos rfl], nxz (e _) (by omega) h.fixed, by rw [e, if_neg (by omega)]; exact h.links, by rw [e, if_neg (by omega)]; exact h.data, by rw [e, if_neg (by omega)]; exact h.maps, h.th.congr fun i hi => by rw [e, if_neg (by omega)], h.gt.congr fun i hi => by rw [e, if_neg (by omega)], by rw [e, if_neg (by omega)]; exact h.inn, by rw [e, if_neg (by omega)]; exact h.out⟩
theorem waz {i j m : Int} (h : Obs w ao n cap X) (hX : Rys X) (hn16 : n < 1022) (hlk : j ∈ (fO X i).links → (fnd X j).isSome = true) (hcase : ((fnd X i).isSome = false) ∧ (mvdE X i j m = 1) ∨ ((fnd X i).isSome = true) ∧ (¬ j ∈ (fO X i).links) ∧ (mvdE X i j m = 1) ∨ ((fnd X i).isSome = true) ∧ (j ∈ (fO X i).links) ∧ ((fO X j).fixed = true) ∧ (mvdE X i j m = 8) ∨ ((fnd X i).isSome = true) ∧ (j ∈ (fO X i).links) ∧ ((fO X j).fixed = false) ∧ (decide (m < -4096) = true) ∧ (mvdE X i j m = 4) ∨ ((fnd X i).isSome = true) ∧ (j ∈ (fO X i).links) ∧ ((fO X j).fixed = false) ∧ (decide (m < -4096) = false) ∧ (decide (4096 < m) = true) ∧ (mvdE X i j m = 4) ∨ ((fnd X i).isSome = true) ∧ (j ∈ (fO X i).links) ∧ ((fO X j).fixed = false) ∧ (-4096 ≤ m) ∧ (m ≤ 4096) ∧ (decide (m < -4096) = false) ∧ (decide (4096 < m) = false) ∧ (decide (wwz X (fO X i) < m) = true) ∧ (mvdE X i j m = 5) ∨ ((fnd X i).isSome = true) ∧ (j ∈ (fO X i).links) ∧ ((fO X j).fixed = false) ∧ (-4096 ≤ m) ∧ (m ≤ 4096) ∧ (decide (m < -4096) = false) ∧ (decide (4096 < m) = false) ∧ (decide (wwz X (fO X i) < m) = false) ∧ (decide ((fO X j).quota + m < wCz X (fO X j)) = true) ∧ (mvdE X i j m = 5) ∨ ((fnd X i).isSome = true) ∧ (j ∈ (fO X i).links) ∧ ((fO X j).fixed = false) ∧ (-4096 ≤ m) ∧ (m ≤ 4096) ∧ (decide (m < -4096) = false) ∧ (decide (4096 < m) = false) ∧ (decide (wwz X (fO X i) < m) = false) ∧ (decide ((fO X j).quota + m < wCz X (fO X j)) = false) ∧ (decide ((fO X j).quota + m < 1) = true) ∧ (mvdE X i j m = 5) ∨ ((fnd X i).isSome = true) ∧ (j ∈ (fO X i).links) ∧ ((fO X j).fixed = false) ∧ (-4096 ≤ m) ∧ (m ≤ 4096) ∧ (decide (m < -4096) = false) ∧ (decide (4096 < m) = false) ∧ (decide (wwz X (fO X i) < m) = false) ∧ (decide ((fO X j).quota + m < wCz X (fO X j)) = false) ∧ (decide ((fO X j).quota + m < 1) = false) ∧ (decide (4096 < (fO X j).quota + m) = true) ∧ (mvdE X i j m = 5) ∨ ((fnd X i).isSome = true) ∧ (j ∈ (fO X i).links) ∧ ((fO X j).fixed = false) ∧ (-4096 ≤ m) ∧ (m ≤ 4096) ∧ (decide (m < -4096) = false) ∧ (decide (4096 < m) = false) ∧ (decide (wwz X (fO X i) < m) = false) ∧ (decide ((fO X j).quota + m < wCz X (fO X j)) = false) ∧ (decide ((fO X j).quota + m < 1) = false) ∧ (decide (4096 < (fO X j).quota + m) = false) ∧ (mvdE X i j m = 0)) : Calls prog 15 #[.agg #[.int .i64 t, .int .u64 ke, .int .u64 ro, .slice ao n cap], .int .u64 i, .int .u64 j, .int .i64 m] w fun e w' => ∃ ao2 n2 cap2, e = .returned (.tuple #[.agg #[.int .i64 t, .int .u64 ke, .int .u64 ro, .slice ao2 n2 cap2], .int .i64 (mvdE X i j m)]) ∧ Obs w' ao2 n2 cap2 (mvdX X i j m) ∧ Below w.heap.size w w' := by
 have ga2 := isAgg3
 have ga3 := isAgg4
 have ga4 := isAgg28
 have hzg : (prog.info? 25).map (·.size) = some (#[.int .i64 t, .int .u64 ke, .int .u64 ro, .slice ao n cap] : Array Value).size := by kernel_rfl
 have hG1 : (#[.int .i64 t, .int .u64 ke, .int .u64 ro, .slice ao n cap] : Array Value).all (·.oneCell') = true := by kernel_rfl
 have hsW : zW.size = (#[.int .i64 t, .int .u64 ke, .int .u64 ro, .slice ao n cap] : Array Value).size := rfl
 rcases hcase with ⟨hf, hE⟩ | ⟨hf, hi, hE⟩ | ⟨hf, hi, hx2, hE⟩ | ⟨hf, hi, hx2, y0, hE⟩ | ⟨hf, hi, hx2, y0, y1, hE⟩ | ⟨hf, hi, hx2, hlo, hhi, y0, y1, y2, hE⟩ | ⟨hf, hi, hx2, hlo, hhi, y0, y1, y2, y3, hE⟩ | ⟨hf, hi, hx2, hlo, hhi, y0, y1, y2, y3, y4, hE⟩ | ⟨hf, hi, hx2, hlo, hhi, y0, y1, y2, y3, y4, y5, hE⟩ | ⟨hf, hi, hx2, hlo, hhi, y0, y1, y2, y3, y4, y5, hE⟩
 case' inl =>
  have hL := xKz hE (by decide)
  rw [hE, hL]
  clear hE hL
  have hf1 := fun (W : World) (hk : Below w.heap.size w W) => qsz (t := t) (ke := ke) (ro := ro) (i := i) h hk
  rw [hf] at hf1
  have hf2 := fun (W : World) (hk : Below w.heap.size w W) => qsz (t := t) (ke := ke) (ro := ro) (i := j) h hk
  obtain ⟨G, hG⟩ : ∃ G : Array Value, G = #[.int .i64 t, .int .u64 ke, .int .u64 ro, .slice ao n cap] := ⟨_, rfl⟩
  have hGH : Hid (G = #[.int .i64 t, .int .u64 ke, .int .u64 ro, .slice ao n cap]) := hG
  simp only [← hG] at hzg hG1 hsW hf1 hf2
  rw [← hG]
  clear hG hf
 case' inr.inl =>
  have hL := xKz hE (by decide)
  rw [hE, hL]
  clear hE hL
  have hf1 := fun (W : World) (hk : Below w.heap.size w W) => qsz (t := t) (ke := ke) (ro := ro) (i := i) h hk
  rw [hf] at hf1
  have hf2 := fun (W : World) (hk : Below w.heap.size w W) => qsz (t := t) (ke := ke) (ro := ro) (i := j) h hk
  have hha := fun (W : World) (a : Option Addr) (mm c : Nat) (hC : CtD (LtN W) W a mm c (fO X i).links) => (wmz (i := j) hC).no hi
  obtain ⟨G, hG⟩ : ∃ G : Array Value, G = #[.int .i64 t, .int .u64 ke, .int .u64 ro, .slice ao n cap] := ⟨_, rfl⟩
  have hGH : Hid (G = #[.int .i64 t, .int .u64 ke, .int .u64 ro, .slice ao n cap]) := hG
  simp only [← hG] at hzg hG1 hsW hf1 hf2
  rw [← hG]
  clear hG hf hi hlk
 case' inr.inr.inl =>
  have hL := xKz hE (by decide)
  rw [hE, hL]
  clear hE hL
  have hf1 := fun (W : World) (hk : Below w.heap.size w W) => qsz (t := t) (ke := ke) (ro := ro) (i := i) h hk
  rw [hf] at hf1
  have hf2 := fun (W : World) (hk : Below w.heap.size w W) => qsz (t := t) (ke := ke) (ro := ro) (i := j) h hk
  have hha := fun (W : World) (a : Option Addr) (mm c : Nat) (hC : CtD (LtN W) W a mm c (fO X i).links) => (wmz (i := j) hC).yes hi
  have hg := hlk hi
  rw [hg] at hf2
  have HX : Hid ((fO X j).fixed = true) := hx2
  obtain ⟨G, hG⟩ : ∃ G : Array Value, G = #[.int .i64 t, .int .u64 ke, .int .u64 ro, .slice ao n cap] := ⟨_, rfl⟩
  have hGH : Hid (G = #[.int .i64 t, .int .u64 ke, .int .u64 ro, .slice ao n cap]) := hG
  simp only [← hG] at hzg hG1 hsW hf1 hf2
  rw [← hG]
  clear hG hf hx2 hi hlk hg
 case' inr.inr.inr.inl =>
  have hL := xKz hE (by decide)
  rw [hE, hL]
  clear hE hL
  have hf1 := fun (W : World) (hk : Below w.heap.size w W) => qsz (t := t) (ke := ke) (ro := ro) (i := i) h hk
  rw [hf] at hf1
  have hf2 := fun (W : World) (hk : Below w.heap.size w W) => qsz (t := t) (ke := ke) (ro := ro) (i := j) h hk
  have hha := fun (W : World) (a : Option Addr) (mm c : Nat) (hC : CtD (LtN W) W a mm c (fO X i).links) => (wmz (i := j) hC).yes hi
  have hg := hlk hi
  rw [hg] at hf2
  have HX : Hid ((fO X j).fixed = false) := hx2
  obtain ⟨G, hG⟩ : ∃ G : Array Value, G = #[.int .i64 t, .int .u64 ke, .int .u64 ro, .slice ao n cap] := ⟨_, rfl⟩
  have hGH : Hid (G = #[.int .i64 t, .int .u64 ke, .int .u64 ro, .slice ao n cap]) := hG
  simp only [← hG] at hzg hG1 hsW hf1 hf2
  rw [← hG]
  clear hG hf hx2 hi hlk hg
 case' inr.inr.inr.inr.inl =>
  have hL := xKz hE (by decide)
  rw [hE, hL]
  clear hE hL
  have hf1 := fun (W : World) (hk : Below w.heap.size w W) => qsz (t := t) (ke := ke) (ro := ro) (i := i) h hk
  rw [hf] at hf1
  have hf2 := fun (W : World) (hk : Below w.heap.size w W) => qsz (t := t) (ke := ke) (ro := ro) (i := j) h hk
  have hha := fun (W : World) (a : Option Addr) (mm c : Nat) (hC : CtD (LtN W) W a mm c (fO X i).links) => (wmz (i := j) hC).yes hi
  have hg := hlk hi
  rw [hg] at hf2
  have HX : Hid ((fO X j).fixed = false) := hx2
  obtain ⟨G, hG⟩ : ∃ G : Array Value, G = #[.int .i64 t, .int .u64 ke, .int .u64 ro, .slice ao n cap] := ⟨_, rfl⟩
  have hGH : Hid (G = #[.int .i64 t, .int .u64 ke, .int .u64 ro, .slice ao n cap]) := hG
  simp only [← hG] at hzg hG1 hsW hf1 hf2
  rw [← hG]
  clear hG hf hx2 hi hlk hg
 case' inr.inr.inr.inr.inr.inl =>
  have hL := xKz hE (by decide)
  rw [hE, hL]
  clear hE hL
  have hf1 := fun (W : World) (hk : Below w.heap.size w W) => qsz (t := t) (ke := ke) (ro := ro) (i := i) h hk
  rw [hf] at hf1
  have hf2 := fun (W : World) (hk : Below w.heap.size w W) => qsz (t := t) (ke := ke) (ro := ro) (i := j) h hk
  have hha := fun (W : World) (a : Option Addr) (mm c : Nat) (hC : CtD (LtN W) W a mm c (fO X i).links) => (wmz (i := j) hC).yes hi
  have hg := hlk hi
  rw [hg] at hf2
  have HX : Hid ((fO X j).fixed = false) := hx2
  have hmem := (wiz hf).1
  have hmem2 := (wiz hg).1
  have hq2 := hX.quo _ hmem2
  have hro := fun (W : World) (C : Array Value) (hk : Below w.heap.size w W) (hd : ObD (LtN w) W C (fO X i)) => wQz (t := t) (ke := ke) (ro := ro) (qqz h hk) hX.quo (kcz hd hk) (hX.sml _ hmem) (hX.quo _ hmem)
  have hus := fun (W : World) (C : Array Value) (hk : Below w.heap.size w W) (hd : ObD (LtN w) W C (fO X j)) => xyz (t := t) (ke := ke) (ro := ro) (qqz h hk) hX.quo (kcz hd hk) (hX.sml _ hmem2)
  obtain ⟨qj, hqj⟩ : ∃ q0, Hid ((fO X j).quota = q0) := ⟨_, rfl⟩
  obtain ⟨q, hq⟩ : ∃ q, Hid ((fO X j).quota + m = q) := ⟨_, rfl⟩
  have hwq : IntKind.i64.wrap (qj + m) = q := by rw [← hqj.out, ← hq.out, IntKind.wrap_i64]; omega
  generalize wwz X (fO X i) = rm at hro y2
  generalize wCz X (fO X j) = us at hus
  obtain ⟨G, hG⟩ : ∃ G : Array Value, G = #[.int .i64 t, .int .u64 ke, .int .u64 ro, .slice ao n cap] := ⟨_, rfl⟩
  have hGH : Hid (G = #[.int .i64 t, .int .u64 ke, .int .u64 ro, .slice ao n cap]) := hG
  simp only [← hG] at hzg hG1 hsW hf1 hf2 hro hus
  rw [← hG]
  clear hG hf hx2 hi hlk hg
 case' inr.inr.inr.inr.inr.inr.inl =>
  have hL := xKz hE (by decide)
  rw [hE, hL]
  clear hE hL
  have hf1 := fun (W : World) (hk : Below w.heap.size w W) => qsz (t := t) (ke := ke) (ro := ro) (i := i) h hk
  rw [hf] at hf1
  have hf2 := fun (W : World) (hk : Below w.heap.size w W) => qsz (t := t) (ke := ke) (ro := ro) (i := j) h hk
  have hha := fun (W : World) (a : Option Addr) (mm c : Nat) (hC : CtD (LtN W) W a mm c (fO X i).links) => (wmz (i := j) hC).yes hi
  have hg := hlk hi
  rw [hg] at hf2
  have HX : Hid ((fO X j).fixed = false) := hx2
  have hmem := (wiz hf).1
  have hmem2 := (wiz hg).1
  have hq2 := hX.quo _ hmem2
  have hro := fun (W : World) (C : Array Value) (hk : Below w.heap.size w W) (hd : ObD (LtN w) W C (fO X i)) => wQz (t := t) (ke := ke) (ro := ro) (qqz h hk) hX.quo (kcz hd hk) (hX.sml _ hmem) (hX.quo _ hmem)
  have hus := fun (W : World) (C : Array Value) (hk : Below w.heap.size w W) (hd : ObD (LtN w) W C (fO X j)) => xyz (t := t) (ke := ke) (ro := ro) (qqz h hk) hX.quo (kcz hd hk) (hX.sml _ hmem2)
  obtain ⟨qj, hqj⟩ : ∃ q0, Hid ((fO X j).quota = q0) := ⟨_, rfl⟩
  obtain ⟨q, hq⟩ : ∃ q, Hid ((fO X j).quota + m = q) := ⟨_, rfl⟩
  have hwq : IntKind.i64.wrap (qj + m) = q := by rw [← hqj.out, ← hq.out, IntKind.wrap_i64]; omega
  rw [hq.out] at y3
  generalize wwz X (fO X i) = rm at hro y2
  generalize wCz X (fO X j) = us at hus y3
  obtain ⟨G, hG⟩ : ∃ G : Array Value, G = #[.int .i64 t, .int .u64 ke, .int .u64 ro, .slice ao n cap] := ⟨_, rfl⟩
  have hGH : Hid (G = #[.int .i64 t, .int .u64 ke, .int .u64 ro, .slice ao n cap]) := hG
  simp only [← hG] at hzg hG1 hsW hf1 hf2 hro hus
  rw [← hG]
  clear hG hf hx2 hi hlk hg
 case' inr.inr.inr.inr.inr.inr.inr.inl =>
  have hL := xKz hE (by decide)
  rw [hE, hL]
  clear hE hL
  have hf1 := fun (W : World) (hk : Below w.heap.size w W) => qsz (t := t) (ke := ke) (ro := ro) (i := i) h hk
  rw [hf] at hf1
  have hf2 := fun (W : World) (hk : Below w.heap.size w W) => qsz (t := t) (ke := ke) (ro := ro) (i := j) h hk
  have hha := fun (W : World) (a : Option Addr) (mm c : Nat) (hC : CtD (LtN W) W a mm c (fO X i).links) => (wmz (i := j) hC).yes hi
  have hg := hlk hi
  rw [hg] at hf2
  have HX : Hid ((fO X j).fixed = false) := hx2
  have hmem := (wiz hf).1
  have hmem2 := (wiz hg).1
  have hq2 := hX.quo _ hmem2
  have hro := fun (W : World) (C : Array Value) (hk : Below w.heap.size w W) (hd : ObD (LtN w) W C (fO X i)) => wQz (t := t) (ke := ke) (ro := ro) (qqz h hk) hX.quo (kcz hd hk) (hX.sml _ hmem) (hX.quo _ hmem)
  have hus := fun (W : World) (C : Array Value) (hk : Below w.heap.size w W) (hd : ObD (LtN w) W C (fO X j)) => xyz (t := t) (ke := ke) (ro := ro) (qqz h hk) hX.quo (kcz hd hk) (hX.sml _ hmem2)
  obtain ⟨qj, hqj⟩ : ∃ q0, Hid ((fO X j).quota = q0) := ⟨_, rfl⟩
  obtain ⟨q, hq⟩ : ∃ q, Hid ((fO X j).quota + m = q) := ⟨_, rfl⟩
  have hwq : IntKind.i64.wrap (qj + m) = q := by rw [← hqj.out, ← hq.out, IntKind.wrap_i64]; omega
  rw [hq.out] at y3 y4
  generalize wwz X (fO X i) = rm at hro y2
  generalize wCz X (fO X j) = us at hus y3
  obtain ⟨G, hG⟩ : ∃ G : Array Value, G = #[.int .i64 t, .int .u64 ke, .int .u64 ro, .slice ao n cap] := ⟨_, rfl⟩
  have hGH : Hid (G = #[.int .i64 t, .int .u64 ke, .int .u64 ro, .slice ao n cap]) := hG
  simp only [← hG] at hzg hG1 hsW hf1 hf2 hro hus
  rw [← hG]
  clear hG hf hx2 hi hlk hg
 case' inr.inr.inr.inr.inr.inr.inr.inr.inl =>
  have hL := xKz hE (by decide)
  rw [hE, hL]
  clear hE hL
  have hf1 := fun (W : World) (hk : Below w.heap.size w W) => qsz (t := t) (ke := ke) (ro := ro) (i := i) h hk
  rw [hf] at hf1
  have hf2 := fun (W : World) (hk : Below w.heap.size w W) => qsz (t := t) (ke := ke) (ro := ro) (i := j) h hk
  have hha := fun (W : World) (a : Option Addr) (mm c : Nat) (hC : CtD (LtN W) W a mm c (fO X i).links) => (wmz (i := j) hC).yes hi
  have hg := hlk hi
  rw [hg] at hf2
  have HX : Hid ((fO X j).fixed = false) := hx2
  have hmem := (wiz hf).1
  have hmem2 := (wiz hg).1
  have hq2 := hX.quo _ hmem2
  have hro := fun (W : World) (C : Array Value) (hk : Below w.heap.size w W) (hd : ObD (LtN w) W C (fO X i)) => wQz (t := t) (ke := ke) (ro := ro) (qqz h hk) hX.quo (kcz hd hk) (hX.sml _ hmem) (hX.quo _ hmem)
  have hus := fun (W : World) (C : Array Value) (hk : Below w.heap.size w W) (hd : ObD (LtN w) W C (fO X j)) => xyz (t := t) (ke := ke) (ro := ro) (qqz h hk) hX.quo (kcz hd hk) (hX.sml _ hmem2)
  obtain ⟨qj, hqj⟩ : ∃ q0, Hid ((fO X j).quota = q0) := ⟨_, rfl⟩
  obtain ⟨q, hq⟩ : ∃ q, Hid ((fO X j).quota + m = q) := ⟨_, rfl⟩
  have hwq : IntKind.i64.wrap (qj + m) = q := by rw [← hqj.out, ← hq.out, IntKind.wrap_i64]; omega
  rw [hq.out] at y3 y4 y5
  generalize wwz X (fO X i) = rm at hro y2
  generalize wCz X (fO X j) = us at hus y3
  obtain ⟨G, hG⟩ : ∃ G : Array Value, G = #[.int .i64 t, .int .u64 ke, .int .u64 ro, .slice ao n cap] := ⟨_, rfl⟩
  have hGH : Hid (G = #[.int .i64 t, .int .u64 ke, .int .u64 ro, .slice ao n cap]) := hG
  simp only [← hG] at hzg hG1 hsW hf1 hf2 hro hus
  rw [← hG]
  clear hG hf hx2 hi hlk hg
 case' inr.inr.inr.inr.inr.inr.inr.inr.inr =>
  have hL := mvd_ok hE
  rw [hE, hL]
  clear hE hL
  have hf1 := fun (W : World) (hk : Below w.heap.size w W) => qsz (t := t) (ke := ke) (ro := ro) (i := i) h hk
  rw [hf] at hf1
  have hf2 := fun (W : World) (hk : Below w.heap.size w W) => qsz (t := t) (ke := ke) (ro := ro) (i := j) h hk
  have hha := fun (W : World) (a : Option Addr) (mm c : Nat) (hC : CtD (LtN W) W a mm c (fO X i).links) => (wmz (i := j) hC).yes hi
  have hg := hlk hi
  rw [hg] at hf2
  have HX : Hid ((fO X j).fixed = false) := hx2
  have hmem := (wiz hf).1
  have hmem2 := (wiz hg).1
  have hq2 := hX.quo _ hmem2
  have hro := fun (W : World) (C : Array Value) (hk : Below w.heap.size w W) (hd : ObD (LtN w) W C (fO X i)) => wQz (t := t) (ke := ke) (ro := ro) (qqz h hk) hX.quo (kcz hd hk) (hX.sml _ hmem) (hX.quo _ hmem)
  have hus := fun (W : World) (C : Array Value) (hk : Below w.heap.size w W) (hd : ObD (LtN w) W C (fO X j)) => xyz (t := t) (ke := ke) (ro := ro) (qqz h hk) hX.quo (kcz hd hk) (hX.sml _ hmem2)
  obtain ⟨qj, hqj⟩ : ∃ q0, Hid ((fO X j).quota = q0) := ⟨_, rfl⟩
  obtain ⟨q, hq⟩ : ∃ q, Hid ((fO X j).quota + m = q) := ⟨_, rfl⟩
  have hwq : IntKind.i64.wrap (qj + m) = q := by rw [← hqj.out, ← hq.out, IntKind.wrap_i64]; omega
  rw [hq.out] at y3 y4 y5 ⊢
  generalize wwz X (fO X i) = rm at hro y2
  generalize wCz X (fO X j) = us at hus y3
  have hpu := fun (V : World) (C : Array Value) (cc : Ob) (hk : Below w.heap.size w V) (hx : ObD (LtN w) V C cc) => j4z (D0 := LtN w) (t := t) (ke := ke) (ro := ro) (fun b hb => ltz hb hk.size) ((h.laterK (fun b hb => hk.block b hb) (fun b hb => hk.block b hb)).wide (fun _ hb => hb) (fun b hb => ltz hb hk.size)) hX.srt (by omega) hx
  have hz2 : ∀ v, (prog.info? 25).map (·.size) = some (#[.int .i64 t, .int .u64 ke, .int .u64 ro, v] : Array Value).size := fun _ => wcz
  have hs2 : ∀ v, zW.size = (#[.int .i64 t, .int .u64 ke, .int .u64 ro, v] : Array Value).size := fun _ => rfl
  have h12 : ∀ ao n cap, (#[.int .i64 t, .int .u64 ke, .int .u64 ro, .slice ao n cap] : Array Value).all (·.oneCell') = true := fun _ _ _ => by kernel_rfl
  obtain ⟨G, hG⟩ : ∃ G : Array Value, G = #[.int .i64 t, .int .u64 ke, .int .u64 ro, .slice ao n cap] := ⟨_, rfl⟩
  have hGH : Hid (G = #[.int .i64 t, .int .u64 ke, .int .u64 ro, .slice ao n cap]) := hG
  simp only [← hG] at hzg hG1 hsW hf1 hf2 hro hus hpu
  rw [← hG]
  clear hG hf hx2 hi hlk hg
 all_goals go_enter func15, ntmps15
 all_goals go_wp2_with (first
  | go_skip
  | (with_reducible refine qcz rfl 25 _ rfl G rfl ?_; intro B W1 hN1 hB hk)
  | ((with_reducible refine qfz rfl 25 rfl zW q0z ?_); intro R W3 hN3 hR hk3; replace hB := hB.next hk3; replace hk := btz hk hk3; clear hk3)
  | (with_reducible refine qdz (by kernel_rfl) 25 _ rfl B rfl G hB _ underlying25 (by kernel_rfl) hzg ?_)
  | (go_at_call 17; (with_reducible refine (hf1 _ hk).mono ?_); rintro e w4 ⟨CF, rfl, oF, hb4⟩; clear hf1)
  | ((with_reducible refine qfz rfl 43 rfl zC qzz ?_); have hx := oF; intro P U4 hN4 hPa hk4; clear hx)
  | ((with_reducible refine qbz rfl _ _ _ rfl P rfl CF rfl zC hPa (qez oF.size) (qoz.trans oF.size.symm) oF.one ?_); intro V4 hP q4; obtain ⟨hb5, oG⟩ := xYz hk hb4 oF hN4 hk4 q4; have zG := oG.size; obtain ⟨a5, n5, c5, e5, l5⟩ := oG.links; clear oF hb4 hk4 q4 hN4 hPa; replace hB := hB.next hb5; replace hR := hR.next hb5; replace hk := btz hk hb5; clear hb5)
  | (with_reducible refine qaz (by kernel_rfl) _ _ rfl P 5 rfl _ _ hP _ e5 ga4 ?_)
  | (go_at_call 40; (with_reducible refine (hha _ _ _ _ (l5.wide fun b hb => ltz hb hk.size)).mono ?_); rintro e w7 ⟨rfl, hb9⟩; replace oG := w6z oG hk hb9; replace hB := hB.next hb9; replace hR := hR.next hb9; replace hP := hP.next hb9; replace hk := btz hk hb9; clear hb9)
  | (go_at_call 17; (with_reducible refine (hf2 _ hk).mono ?_); rintro e w5 ⟨CH, rfl, oH, hb6⟩)
  | ((with_reducible refine qfz rfl 43 rfl zC qzz ?_); have hx := oH; intro Y U5 hN5 hYa hk5; clear hx)
  | ((with_reducible refine qbz rfl _ _ _ rfl Y rfl CH rfl zC hYa (qez oH.size) (qoz.trans oH.size.symm) oH.one ?_); intro V5 hY q6; have hnY : Hid (R ≠ Y ∧ B ≠ Y ∧ w.heap.size ≤ Y) := (by have := hN5.out.1; have := hb6.size; have := hR.lt; have := hB.lt; have := hk.size; exact ⟨by omega, by omega, by omega⟩); obtain ⟨hb7, oY⟩ := xYz hk hb6 oH hN5 hk5 q6; have zY := oY.size; have fY := oY.fixed; have qY := oY.quota; rw [HX.out] at fY; rw [hqj.out] at qY; replace oG := w6z oG hk hb7; clear oH hb6 hk5 q6 hN5 hYa; replace hB := hB.next hb7; replace hR := hR.next hb7; replace hP := hP.next hb7; replace hk := btz hk hb7; clear hb7)
  | ((with_reducible refine qbz rfl _ _ _ rfl Y rfl CH rfl zC hYa (qez oH.size) (qoz.trans oH.size.symm) oH.one ?_); intro V5 hY q6; have hnY : Hid (R ≠ Y ∧ B ≠ Y ∧ w.heap.size ≤ Y) := (by have := hN5.out.1; have := hb6.size; have := hR.lt; have := hB.lt; have := hk.size; exact ⟨by omega, by omega, by omega⟩); obtain ⟨hb7, oY⟩ := xYz hk hb6 oH hN5 hk5 q6; have zY := oY.size; have fY := oY.fixed; have qY := oY.quota; rw [HX.out] at fY; replace oG := w6z oG hk hb7; clear oH hb6 hk5 q6 hN5 hYa; replace hB := hB.next hb7; replace hR := hR.next hb7; replace hP := hP.next hb7; replace hk := btz hk hb7; clear hb7)
  | ((with_reducible refine qbz rfl _ _ _ rfl Y rfl CH rfl zC hYa (qez oH.size) (qoz.trans oH.size.symm) oH.one ?_); intro V5 hY q6; have hnY : Hid (R ≠ Y ∧ B ≠ Y ∧ w.heap.size ≤ Y) := (by have := hN5.out.1; have := hb6.size; have := hR.lt; have := hB.lt; have := hk.size; exact ⟨by omega, by omega, by omega⟩); obtain ⟨hb7, oY⟩ := xYz hk hb6 oH hN5 hk5 q6; have zY := oY.size; have fY := oY.fixed; have qY := oY.quota; replace oG := w6z oG hk hb7; clear oH hb6 hk5 q6 hN5 hYa; replace hB := hB.next hb7; replace hR := hR.next hb7; replace hP := hP.next hb7; replace hk := btz hk hb7; clear hb7)
  | (with_reducible refine qaz (by kernel_rfl) _ _ rfl Y 4 rfl _ _ hY _ fY ga3 ?_)
  | (with_reducible refine qaz (by kernel_rfl) _ _ rfl Y 3 rfl _ _ hY _ qY ga2 ?_)
  | (with_reducible refine qdz (by with_unfolding_all rfl) 25 _ rfl B rfl G hB _ underlying25 (by kernel_rfl) hzg ?_)
  | ((with_reducible refine qbz rfl _ _ _ rfl R rfl G rfl zW hR hzg hsW hG1 ?_); intro V9 hR9 q9)
  | (with_reducible refine qdz (by kernel_rfl) 43 _ rfl P rfl CF hP _ underlying43 (by kernel_rfl) (qez zG) ?_)
  | (with_reducible refine qdz (by kernel_rfl) 43 _ rfl Y rfl CH hY _ underlying43 (by kernel_rfl) (qez zY) ?_)
  | (go_at_call 44; (with_reducible refine (hro _ _ hk oG).mono ?_); rintro e w8 ⟨rfl, hb10⟩; replace oG := w6z oG hk hb10; replace oY := w6z oY hk hb10; replace hB := hB.next hb10; replace hR := hR.next hb10; replace hP := hP.next hb10; replace hY := hY.next hb10; replace hk := btz hk hb10; clear hb10)
  | (go_at_call 45; (with_reducible refine (hus _ _ hk oY).mono ?_); rintro e w9 ⟨rfl, hb11⟩; replace oG := w6z oG hk hb11; replace oY := w6z oY hk hb11; replace hB := hB.next hb11; replace hR := hR.next hb11; replace hP := hP.next hb11; replace hY := hY.next hb11; replace hk := btz hk hb11; clear hb11)
  | ((with_reducible refine qiz rfl _ _ _ rfl Y 3 rfl (.int .i64 q) rfl rfl CH _ hY sizeN (by rw [zY]; omega) rfl ?_); intro V6 hY6 q7; have hnn := hnY.out; have oN := (oY.laterK (w' := V6) fun b hb => q7.block b (by have h9 : b < w.heap.size := hb; omega)).set3 q; have zN := oN.size; replace hB := hB.other q7 hnn.2.1; replace hR := hR.other q7 hnn.1; replace hk := q7.below _ _ hnn.2.2 hk)
  | (with_reducible refine qdz (by kernel_rfl) 43 _ rfl Y rfl _ hY6 _ underlying43 (by kernel_rfl) (qez zN) ?_)
  | (go_at_call 36; (with_reducible refine (hpu _ _ _ hk oN).mono ?_); rintro e w10 ⟨a2, m2, c2, rfl, p2, hb12⟩; have hRl := hR.lt; replace hR := hR.next hb12; have hk9 := btz hk hb12)
  | ((with_reducible refine qbz rfl _ _ _ rfl R rfl #[.int .i64 t, .int .u64 ke, .int .u64 ro, .slice a2 m2 c2] rfl zW hR (hz2 _) (hs2 _) (h12 _ _ _) ?_); intro V9 hR9 q9))
 ·have hwR : w.heap.size ≤ R := by have := hN1.out; have := hN3.out; omega
  exact bodyPost_ret (v := .tuple #[.agg #[.int .i64 t, .int .u64 ke, .int .u64 ro, .slice a2 m2 c2], .int .i64 0]) (qAz results15 rfl rfl hR9 rfl) rfl ⟨a2, m2, c2, rfl, jtz p2 (fun b hb => by have h9 : b < w.heap.size := hb; have := hk9.size; exact ⟨by omega, by omega⟩) hRl q9, q9.below _ _ hwR hk9⟩
 ·have hwR : w.heap.size ≤ R := by have := hN1.out; have := hN3.out; omega
  refine bodyPost_ret (v := .tuple #[.agg G, .int .i64 5]) (qAz results15 rfl rfl hR9 (by rw [hGH.out]; rfl)) rfl ⟨ao, n, cap, by rw [hGH.out], qWz h hk hwR q9, q9.below _ _ hwR hk⟩
 ·have hwR : w.heap.size ≤ R := by have := hN1.out; have := hN3.out; omega
  refine bodyPost_ret (v := .tuple #[.agg G, .int .i64 5]) (qAz results15 rfl rfl hR9 (by rw [hGH.out]; rfl)) rfl ⟨ao, n, cap, by rw [hGH.out], qWz h hk hwR q9, q9.below _ _ hwR hk⟩
 ·have hwR : w.heap.size ≤ R := by have := hN1.out; have := hN3.out; omega
  refine bodyPost_ret (v := .tuple #[.agg G, .int .i64 5]) (qAz results15 rfl rfl hR9 (by rw [hGH.out]; rfl)) rfl ⟨ao, n, cap, by rw [hGH.out], qWz h hk hwR q9, q9.below _ _ hwR hk⟩
 ·have hwR : w.heap.size ≤ R := by have := hN1.out; have := hN3.out; omega
  refine bodyPost_ret (v := .tuple #[.agg G, .int .i64 5]) (qAz results15 rfl rfl hR9 (by rw [hGH.out]; rfl)) rfl ⟨ao, n, cap, by rw [hGH.out], qWz h hk hwR q9, q9.below _ _ hwR hk⟩
 ·have hwR : w.heap.size ≤ R := by have := hN1.out; have := hN3.out; omega
  refine bodyPost_ret (v := .tuple #[.agg G, .int .i64 4]) (qAz results15 rfl rfl hR9 (by rw [hGH.out]; rfl)) rfl ⟨ao, n, cap, by rw [hGH.out], qWz h hk hwR q9, q9.below _ _ hwR hk⟩
 ·have hwR : w.heap.size ≤ R := by have := hN1.out; have := hN3.out; omega
  refine bodyPost_ret (v := .tuple #[.agg G, .int .i64 4]) (qAz results15 rfl rfl hR9 (by rw [hGH.out]; rfl)) rfl ⟨ao, n, cap, by rw [hGH.out], qWz h hk hwR q9, q9.below _ _ hwR hk⟩
 ·have hwR : w.heap.size ≤ R := by have := hN1.out; have := hN3.out; omega
  refine bodyPost_ret (v := .tuple #[.agg G, .int .i64 8]) (qAz results15 rfl rfl hR9 (by rw [hGH.out]; rfl)) rfl ⟨ao, n, cap, by rw [hGH.out], qWz h hk hwR q9, q9.below _ _ hwR hk⟩
 ·have hwR : w.heap.size ≤ R := by have := hN1.out; have := hN3.out; omega
  refine bodyPost_ret (v := .tuple #[.agg G, .int .i64 1]) (qAz results15 rfl rfl hR9 (by rw [hGH.out]; rfl)) rfl ⟨ao, n, cap, by rw [hGH.out], qWz h hk hwR q9, q9.below _ _ hwR hk⟩
 ·have hwR : w.heap.size ≤ R := by have := hN1.out; have := hN3.out; omega
  refine bodyPost_ret (v := .tuple #[.agg G, .int .i64 1]) (qAz results15 rfl rfl hR9 (by rw [hGH.out]; rfl)) rfl ⟨ao, n, cap, by rw [hGH.out], qWz h hk hwR q9, q9.below _ _ hwR hk⟩
theorem rmove_v {i j m : Int} (h : Obs w ao n cap X) (hX : Rys X) (hn16 : n < 1022) (hlk : j ∈ (fO X i).links → (fnd X j).isSome = true) : Calls prog 15 #[.agg #[.int .i64 t, .int .u64 ke, .int .u64 ro, .slice ao n cap], .int .u64 i, .int .u64 j, .int .i64 m] w fun e w' => ∃ ao2 n2 cap2, e = .returned (.tuple #[.agg #[.int .i64 t, .int .u64 ke, .int .u64 ro, .slice ao2 n2 cap2], .int .i64 (mvdE X i j m)]) ∧ Obs w' ao2 n2 cap2 (mvdX X i j m) ∧ Below w.heap.size w w' := by
 cases hf : (fnd X i).isSome with
 | false => exact waz h hX hn16 hlk (.inl ⟨hf, (by unfold mvdE; rw [if_pos (.inl hf)])⟩)
 | true =>
  by_cases hi : j ∈ (fO X i).links
  ·have n1 : ¬ ((fnd X i).isSome = false ∨ ¬ j ∈ (fO X i).links) := by rw [hf]; exact fun z => z.elim (by decide) (fun q => q hi)
   cases hx2 : (fO X j).fixed with
   | true => exact waz h hX hn16 hlk (.inr (.inr (.inl ⟨hf, hi, hx2, (by unfold mvdE; rw [if_neg n1, if_pos hx2])⟩)))
   | false =>
    have n2 : ¬ (fO X j).fixed = true := by rw [hx2]; decide
    by_cases h1 : m < -4096
    ·exact waz h hX hn16 hlk (.inr (.inr (.inr (.inl ⟨hf, hi, hx2, (by simpa using h1), (by unfold mvdE; rw [if_neg n1, if_neg n2, if_pos (.inl h1)])⟩))))
    ·by_cases h2 : 4096 < m
     ·exact waz h hX hn16 hlk (.inr (.inr (.inr (.inr (.inl ⟨hf, hi, hx2, (by simpa using h1), (by simpa using h2), (by unfold mvdE; rw [if_neg n1, if_neg n2, if_pos (.inr h2)])⟩)))))
     ·have n3 : ¬ (m < -4096 ∨ 4096 < m) := fun z => z.elim h1 h2
      have y0 : decide (m < -4096) = false := by rw [decide_eq_false_iff_not]; exact h1
      have y1 : decide (4096 < m) = false := by rw [decide_eq_false_iff_not]; exact h2
      by_cases h3 : wwz X (fO X i) < m
      ·exact waz h hX hn16 hlk (.inr (.inr (.inr (.inr (.inr (.inl ⟨hf, hi, hx2, (by omega), (by omega), y0, y1, (by rw [decide_eq_true_iff]; exact h3), (by unfold mvdE; rw [if_neg n1, if_neg n2, if_neg n3, if_pos (.inl h3)])⟩))))))
      ·have y2 : decide (wwz X (fO X i) < m) = false := by rw [decide_eq_false_iff_not]; exact h3
       by_cases h4 : (fO X j).quota + m < wCz X (fO X j)
       ·exact waz h hX hn16 hlk (.inr (.inr (.inr (.inr (.inr (.inr (.inl ⟨hf, hi, hx2, (by omega), (by omega), y0, y1, y2, (by rw [decide_eq_true_iff]; exact h4), (by unfold mvdE; rw [if_neg n1, if_neg n2, if_neg n3, if_pos (.inr (.inl h4))])⟩)))))))
       ·have y3 : decide ((fO X j).quota + m < wCz X (fO X j)) = false := by rw [decide_eq_false_iff_not]; exact h4
        by_cases h5 : (fO X j).quota + m < 1
        ·exact waz h hX hn16 hlk (.inr (.inr (.inr (.inr (.inr (.inr (.inr (.inl ⟨hf, hi, hx2, (by omega), (by omega), y0, y1, y2, y3, (by rw [decide_eq_true_iff]; exact h5), (by unfold mvdE; rw [if_neg n1, if_neg n2, if_neg n3, if_pos (.inr (.inr (.inl h5)))])⟩))))))))
        ·have y4 : decide ((fO X j).quota + m < 1) = false := by rw [decide_eq_false_iff_not]; exact h5
         by_cases h6 : 4096 < (fO X j).quota + m
         ·exact waz h hX hn16 hlk (.inr (.inr (.inr (.inr (.inr (.inr (.inr (.inr (.inl ⟨hf, hi, hx2, (by omega), (by omega), y0, y1, y2, y3, y4, (by rw [decide_eq_true_iff]; exact h6), (by unfold mvdE; rw [if_neg n1, if_neg n2, if_neg n3, if_pos (.inr (.inr (.inr h6)))])⟩)))))))))
         ·have y5 : decide (4096 < (fO X j).quota + m) = false := by rw [decide_eq_false_iff_not]; exact h6
          exact waz h hX hn16 hlk (.inr (.inr (.inr (.inr (.inr (.inr (.inr (.inr (.inr ⟨hf, hi, hx2, (by omega), (by omega), y0, y1, y2, y3, y4, y5, (by unfold mvdE; rw [if_neg n1, if_neg n2, if_neg n3, if_neg (fun z => z.elim h3 (fun z => z.elim h4 (fun z => z.elim h5 h6)))])⟩)))))))))
  ·exact waz h hX hn16 hlk (.inr (.inl ⟨hf, hi, (by unfold mvdE; rw [if_pos (.inr hi)])⟩))
end
section
variable {X : List Ob}
theorem rm_eq {d : Ob} (h : qUz d = true) : wwz X d = j6z X d := by unfold wwz wCz j6z; rw [pag_eq h]
theorem us_eq {d : Ob} (h : qUz d = true) : wCz X d = useV X d := by unfold wCz useV; rw [pag_eq h]
theorem lay_eq {d o : Ob} (hd : qUz d = true) (ho : qUz o = true) : layD X d o = layE X d o := by
 unfold layD layE
 rw [rm_eq hd]
 by_cases h2 : o.kind = 2
 ·simp only [h2, true_and]
 ·rw [kEz ho h2]
  simp
theorem lay_x {d o : Ob} : layX X d o = if layE X d o = 0 then puR (puR X o) { d with links := insW d.links o.id } else X := rfl
theorem att_eq {i : Int} {o : Ob} (hs : ∀ x ∈ X, qUz x = true) (ho : qUz o = true) : atdE X i o = attE X i o ∧ atdX X i o = attX X i o := by
 have e : atdE X i o = attE X i o := by
  unfold atdE attE
  cases hf : (fnd X i).isSome with
  | false => rfl
  | true => rw [lay_eq (hs _ (wiz hf).1) ho]
 refine ⟨e, ?_⟩
 unfold atdX
 rw [e]
 unfold attE attX
 cases hf : (fnd X i).isSome with
 | false => rfl
 | true =>
  simp only [Bool.true_eq_false, if_false]
  by_cases h2 : (fO X i).kind ≠ 2
  ·rw [if_pos h2, if_pos h2, if_neg (by decide)]
  ·rw [if_neg h2, if_neg h2]
   by_cases h3 : (fnd X o.id).isSome = true
   ·rw [if_pos h3, if_pos h3, if_neg (by decide)]
   ·rw [if_neg h3, if_neg h3, lay_x]
theorem wh_eq (x : Ob) : whlB x.kind = sngO x := by
 unfold whlB sngO
 rw [Bool.eq_iff_iff]
 simp
theorem fix_eq (X : List Ob) (i : Int) : fidE X i = fixE X i ∧ fidX X i = fixX X i := by
 have e : fidE X i = fixE X i := by unfold fidE fixE; rw [wh_eq]
 refine ⟨e, ?_⟩
 unfold fidX
 rw [e]
 unfold fixE fixX
 by_cases h1 : (fnd X i).isSome = false
 ·rw [if_pos h1, if_pos h1, if_neg (by decide)]
 ·rw [if_neg h1, if_neg h1]
  by_cases h2 : sngO (fO X i) = true
  ·rw [if_pos h2, if_pos h2, if_neg (by decide)]
  ·rw [if_neg h2, if_neg h2, if_pos rfl]
theorem put_own {x : Ob} (h : Srt X) (hx : x ∈ X) : puR X x = X := by
 refine uEz (vFz h x) h fun y => ?_
 rw [ghz]
 constructor
 ·rintro (rfl | hy)
  ·exact hx
  ·exact hy.1
 ·intro hy
  by_cases e : y.id = x.id
  ·left
   have h1 := (kkz h).2 ⟨hy, e⟩
   have h2 := (kkz h).2 ⟨hx, rfl⟩
   rw [h1] at h2
   injection h2
  ·exact .inr ⟨hy, e⟩
theorem lin_eq {i j : Int} (hs : Srt X) (hsd : ∀ x ∈ X, qUz x = true) : lidE X i j = linE X i j ∧ lidX X i j = linX X i j := by
 have e : lidE X i j = linE X i j := by
  unfold lidE linE
  rw [wh_eq]
  cases hf : (fnd X i).isSome with
  | false => simp
  | true =>
   cases hg : (fnd X j).isSome with
   | false => simp
   | true =>
    rw [lay_eq (hsd _ (wiz hf).1) (hsd _ (wiz hg).1)]
    by_cases h2 : (fO X i).kind = 2 <;> cases h3 : sngO (fO X j) <;> simp [h2]
 refine ⟨e, ?_⟩
 unfold lidX
 rw [e]
 unfold linE linX
 cases hf : (fnd X i).isSome with
 | false => simp
 | true =>
  cases hg : (fnd X j).isSome with
  | false => simp
  | true =>
   simp only [Bool.and_self, Bool.true_eq_false, if_false]
   by_cases h2 : (decide ((fO X i).kind = 2) && !sngO (fO X j)) = false
   ·rw [if_pos h2, if_pos h2, if_neg (by decide)]
   ·rw [if_neg h2, if_neg h2]
    by_cases h3 : (fO X j).fixed = false
    ·rw [if_pos h3, if_pos h3, if_neg (by decide)]
    ·rw [if_neg h3, if_neg h3]
     by_cases h4 : j ∈ (fO X i).links
     ·rw [if_pos h4, if_pos h4, if_neg (by decide)]
     ·rw [if_neg h4, if_neg h4, lay_x, put_own hs (wiz hg).1]
theorem mov_eq {i j m : Int} (hsd : ∀ x ∈ X, qUz x = true) (hlk : j ∈ (fO X i).links → (fnd X j).isSome = true) : mvdE X i j m = movE X i j m ∧ mvdX X i j m = movX X i j m := by
 have e : mvdE X i j m = movE X i j m := by
  unfold mvdE movE
  cases hf : (fnd X i).isSome with
  | false => simp
  | true =>
   by_cases hi : j ∈ (fO X i).links
   ·have hg := hlk hi
    rw [hg, rm_eq (hsd _ (wiz hf).1), us_eq (hsd _ (wiz hg).1)]
    simp only [hi, not_true, or_false, Bool.true_eq_false, if_false, Bool.and_self, or_assoc]
   ·cases hg : (fnd X j).isSome <;> simp [hi]
 refine ⟨e, ?_⟩
 unfold mvdX movX
 rw [e]
end
end Go.Proofs.YtchgingkmkhbhaaGreat
