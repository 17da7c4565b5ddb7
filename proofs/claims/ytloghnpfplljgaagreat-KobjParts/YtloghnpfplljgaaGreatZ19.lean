/-
 PROVED HERE: what the document's Has and Apart of chapter 7 return when they are called (contracts over this translation); . What is asked stands at each.
-/
import Derived.Test.YtloghnpfplljgaaGreatZ16
import Derived.Test.YtloghnpfplljgaaGreatZ17
import Derived.Test.YtloghnpfplljgaaGreatZ18
namespace Go.Proofs.YtloghnpfplljgaaGreat
set_option maxRecDepth 100000
set_option maxHeartbeats 8000000
set_option linter.unusedVariables false
open Go.Proofs.Tryz
section
open Go.RowKit Go.Shelf
attribute [local go_sem] Oper.semAt_some
theorem jQz {k a b m : Nat} (hm : m < 18446744073709551616) (w : World) :
  Calls prog 23 #[.int .u64 (k : Int), .agg #[.int .u64 (a : Int), .int .u64 (b : Int)], .int .u64 (m : Int)] w fun e w' => e = .returned (.bool (SrM.hasK k a b m)) ∧ Below w.heap.size w w' := by
 have hn := fun w => SrM.rnum_any (key := k) hm w
 have hr : Hid (SrM.hasK k a b m = ((decide (1 ≤ m) && decide (m ≤ 2305843009213693952)) && (decide (a ≤ Pm.numN k m) && decide (Pm.numN k m < b)))) := rfl
 rw [hr.out]
 generalize Pm.numN k m = y at hn ⊢
 have d0 : (#[.int .u64 (a : Int), .int .u64 (b : Int)] : Array Value)[0]? = some (.int .u64 (a : Int)) := rfl
 have d1 : (#[.int .u64 (a : Int), .int .u64 (b : Int)] : Array Value)[1]? = some (.int .u64 (b : Int)) := rfl
 generalize (#[.int .u64 (a : Int), .int .u64 (b : Int)] : Array Value) = G at d0 d1 ⊢
 go_enter func23, ntmps23
 go_wp2_with (first
  | (with_reducible refine qcz rfl 48 _ rfl G rfl ?_; intro B2 W2 hN2 hB2 hk; replace d0 := (hB2.cell 0).trans d0; replace d1 := (hB2.cell 1).trans d1)
  | (go_at_call 47; (with_reducible refine (hn _).mono ?_); rintro e w1 ⟨rfl, rfl⟩)
  | ((with_reducible refine qgz (by with_unfolding_all rfl) .geq _ _ _ _ rfl (.int .u64 (m : Int)) _ rfl rfl (w6z _ _ _ _ _ _) ?_ ?_) <;> intro hq1)
  | ((with_reducible refine qgz (by with_unfolding_all rfl) .leq _ _ _ _ rfl (.int .u64 (m : Int)) _ rfl rfl (wez _ _ _ _ _ _) ?_ ?_) <;> intro hq2)
  | ((with_reducible refine qgz (by with_unfolding_all rfl) .geq _ _ _ _ rfl (.int .u64 (y : Int)) _ rfl rfl (w6z _ _ _ _ _ _) ?_ ?_) <;> intro hq3)
  | ((with_reducible refine qgz (by with_unfolding_all rfl) .lss _ _ _ _ rfl (.int .u64 (y : Int)) _ rfl rfl (wnz _ _ _ _ _ _) ?_ ?_) <;> intro hq4))
 all_goals
  go_ret
  refine ⟨congrArg (fun z => Ending.returned (.bool z)) ?_, hk⟩
  clear hr
  simp only [Hid] at *
  first
   | (refine Eq.symm ?_; simp only [Bool.and_eq_true, decide_eq_true_eq]; omega)
   | (refine Eq.symm ?_; rw [Bool.eq_false_iff]; simp only [ne_eq, Bool.and_eq_true, decide_eq_true_eq]; omega)
theorem jpz (a b c d : Nat) (w : World) :
  Calls prog 22 #[.agg #[.int .u64 (a : Int), .int .u64 (b : Int)], .agg #[.int .u64 (c : Int), .int .u64 (d : Int)]] w fun e w' => e = .returned (.bool (rapB a b c d)) ∧ Below w.heap.size w w' := by
 have hr : Hid (rapB a b c d = (decide (a = b) || (decide (c = d) || (decide (b ≤ c) || decide (d ≤ a))))) := rfl
 rw [hr.out]
 have d0 : (#[.int .u64 (a : Int), .int .u64 (b : Int)] : Array Value)[0]? = some (.int .u64 (a : Int)) := rfl
 have d1 : (#[.int .u64 (a : Int), .int .u64 (b : Int)] : Array Value)[1]? = some (.int .u64 (b : Int)) := rfl
 have e0 : (#[.int .u64 (c : Int), .int .u64 (d : Int)] : Array Value)[0]? = some (.int .u64 (c : Int)) := rfl
 have e1 : (#[.int .u64 (c : Int), .int .u64 (d : Int)] : Array Value)[1]? = some (.int .u64 (d : Int)) := rfl
 generalize (#[.int .u64 (a : Int), .int .u64 (b : Int)] : Array Value) = G at d0 d1 ⊢
 generalize (#[.int .u64 (c : Int), .int .u64 (d : Int)] : Array Value) = H at e0 e1 ⊢
 go_enter func22, ntmps22
 go_wp2_with (first
  | (with_reducible refine qcz rfl 48 _ rfl G rfl ?_; intro B2 W2 hN2 hB2 hk)
  | (with_reducible refine qcz rfl 48 _ rfl H rfl ?_; intro B3 W3 hN3 hB3 hk3; replace hB2 := hB2.next hk3; replace hk := btz hk hk3; replace d0 := (hB2.cell 0).trans d0; replace d1 := (hB2.cell 1).trans d1; replace e0 := (hB3.cell 0).trans e0; replace e1 := (hB3.cell 1).trans e1)
  | ((with_reducible refine qgz (by with_unfolding_all rfl) .eql _ _ _ _ rfl (.int .u64 (a : Int)) _ rfl rfl (qtz _ _ _ _ _ _) ?_ ?_) <;> intro hq1)
  | ((with_reducible refine qgz (by with_unfolding_all rfl) .eql _ _ _ _ rfl (.int .u64 (c : Int)) _ rfl rfl (qtz _ _ _ _ _ _) ?_ ?_) <;> intro hq2)
  | ((with_reducible refine qgz (by with_unfolding_all rfl) .leq _ _ _ _ rfl (.int .u64 (b : Int)) _ rfl rfl (wez _ _ _ _ _ _) ?_ ?_) <;> intro hq3)
  | ((with_reducible refine qgz (by with_unfolding_all rfl) .leq _ _ _ _ rfl (.int .u64 (d : Int)) _ rfl rfl (wez _ _ _ _ _ _) ?_ ?_) <;> intro hq4))
 all_goals
  go_ret
  refine ⟨congrArg (fun z => Ending.returned (.bool z)) ?_, hk⟩
  clear hr
  simp only [Hid] at *
  first
   | (refine Eq.symm ?_; simp only [Bool.or_eq_true, decide_eq_true_eq]; omega)
   | (refine Eq.symm ?_; rw [Bool.eq_false_iff]; simp only [ne_eq, Bool.or_eq_true, decide_eq_true_eq]; omega)
variable {X : List Ob} {key : Nat}
theorem guz : spaB key X = true ↔ ∀ i, i < X.length → (oat X i).kind = 4 → ∀ k, k < X.length → rowB key X i k = true := by
 unfold spaB
 rw [List.all_eq_true]
 refine forall_congr' fun i => ?_
 rw [List.mem_range]
 refine imp_congr_right fun _ => ?_
 by_cases h : (oat X i).kind = 4
 ·rw [decide_eq_true h, Bool.not_true, Bool.false_or, List.all_eq_true]
  simp only [List.mem_range]
  exact ⟨fun q _ => q, fun q => q h⟩
 ·rw [decide_eq_false h]
  exact ⟨fun _ q => absurd q h, fun _ => rfl⟩
theorem yez {key n i : Nat} (h : ∀ j, j < i → (oat X j).kind = 4 → ∀ m, m < n → rowB key X j m = true) (h1 : (oat X i).kind = 4 → ∀ m, m < n → rowB key X i m = true) : ∀ j, j < i + 1 → (oat X j).kind = 4 → ∀ m, m < n → rowB key X j m = true := by
 intro j hj
 rcases Nat.lt_or_ge j i with c | c
 ·exact h j c
 ·obtain rfl : j = i := by omega
  exact h1
variable {ao : Option Addr} {n cap : Nat} {w : World}
theorem rspans_w {t ro : Int} (h : Obs w ao n cap X) (hw : ∀ x ∈ X, WdO x) : Calls prog 39 #[.agg #[.int .i64 t, .int .u64 (key : Int), .int .u64 ro, .slice ao n cap]] w fun e w' => e = .returned (.bool (spaB key X)) ∧ Below w.heap.size w w' := by
 have hn : Hid (X.length = n) := h.1
 have hnc := h.2.1
 have hcm := h.2.2.1.1
 have ga1 := isAgg22
 have ga3 := isAgg23
 have gai := isAgg3
 have c1 : (#[.int .i64 t, .int .u64 (key : Int), .int .u64 ro, .slice ao n cap] : Array Value)[1]? = some (.int .u64 (key : Int)) := rfl
 have c3 : (#[.int .i64 t, .int .u64 (key : Int), .int .u64 ro, .slice ao n cap] : Array Value)[3]? = some (.slice ao n cap) := rfl
 have hyes : Hid ((∀ i, i < n → (oat X i).kind = 4 → ∀ k, k < n → rowB key X i k = true) → spaB key X = true) := by
  refine (?_ : (∀ i, i < n → (oat X i).kind = 4 → ∀ k, k < n → rowB key X i k = true) → spaB key X = true)
  intro q
  rw [guz, hn.out]
  exact q
 have hno : Hid (∀ i k, i < n → k < n → (oat X i).kind = 4 → rowB key X i k = false → spaB key X = false) := by
  refine (?_ : ∀ i k, i < n → k < n → (oat X i).kind = 4 → rowB key X i k = false → spaB key X = false)
  intro i k hi hk h4 q
  rw [Bool.eq_false_iff]
  intro e
  rw [guz, hn.out] at e
  have := e i hi h4 k hk
  rw [q] at this
  cases this
 have hwd : Hid (∀ i, i < n → WdO (oat X i)) := fun i hi => hw _ (wxz (by rw [hn.out]; exact hi))
 generalize spaB key X = res at hyes hno ⊢
 obtain ⟨G, hG⟩ : ∃ G : Array Value, G = #[.int .i64 t, .int .u64 (key : Int), .int .u64 ro, .slice ao n cap] := ⟨_, rfl⟩
 rw [← hG] at c1 c3
 rw [← hG]
 clear hG
 go_enter func39, ntmps39
 go_wp2_with (first
  | (with_reducible refine qcz rfl 25 _ rfl G rfl ?_; intro B W2 hN2 hB hk))
 clear hN2
 go_loopw [3] (fun j wr => ∃ k : Nat, k ≤ n ∧ j = .int .i64 k ∧ Hid (∀ i, i < k → (oat X i).kind = 4 → ∀ m, m < n → rowB key X i m = true) ∧ Blk wr B G 25 ∧ Below w.heap.size w wr) (fun j _ => n - (intOf j).toNat)
 case atStart => exact ⟨0, Nat.zero_le _, rfl, fun i hi => absurd hi (by omega), hB, hk⟩
 case round =>
  clear hB hk
  obtain ⟨i, hin, rfl, hal, hB, hk⟩ := hrel
  by_cases hkn : i < n
  ·obtain ⟨b, off, C, rfl, hbb, hC, hr⟩ := w3z (qwz h hk) hkn
   have hkn' : (i : Int) < n := by omega
   have hz := hC.size
   have h1c := hC.one
   have k1 := hC.kind
   have hwi := hwd.out i hkn
   have el : ((oat X i).th.lo.toNat : Int) = (oat X i).th.lo := Int.toNat_of_nonneg hwi.2.1.1
   have eh : ((oat X i).th.hi.toNat : Int) = (oat X i).th.hi := Int.toNat_of_nonneg hwi.2.2.1
   have hV : C.extract 37 (37 + 2) = #[.int .u64 ((oat X i).th.lo.toNat : Int), .int .u64 ((oat X i).th.hi.toNat : Int)] := by rw [el, eh]; exact ext2 hC.th.lo hC.th.hi
   go_wp2_with (first
    | (with_reducible refine qaz (by kernel_rfl) _ _ rfl B _ rfl _ _ hB _ c3 ga3 ?_)
    | (with_reducible refine qxz (by kernel_rfl) 55 _ rfl b _ rfl C hr _ underlying55 (by kernel_rfl) (qfz hz) ?_)
    | ((with_reducible refine qdz rfl _ rfl zC qsz ?_); intro R W3 hB3 hR3 hk3)
    | ((with_reducible refine qbz rfl _ _ _ rfl R rfl C rfl zC hR3 (qfz hz) (qoz.trans hz.symm) h1c ?_); intro W4 hR4 o4; have k4 := o4.below wr.heap.size wr (by have := hB3.out.1; omega) hk3; replace hB := hB.next k4; replace hk := btz hk k4))
   have hal2 : Hid ((oat X i).kind = 4 → ∀ q, q < 0 → rowB key X i q = true) := fun _ q hq => absurd hq (by omega)
   go_loopw [5] (fun j wr => ∃ k : Nat, k ≤ n ∧ j = .int .i64 k ∧ Hid ((oat X i).kind = 4 → ∀ q, q < k → rowB key X i q = true) ∧ Blk wr B G 25 ∧ Blk wr R C 55 ∧ Below w.heap.size w wr) (fun j _ => n - (intOf j).toNat)
   case atStart => exact ⟨0, Nat.zero_le _, rfl, hal2, hB, hR4, hk⟩
   case round =>
    rename_i wq _
    clear hB hk hR4 k4 hal2
    obtain ⟨m, hmn1, rfl, hrw, hB, hR4, hk⟩ := hrel
    by_cases h4 : (oat X i).kind = 4
    ·have h4b : ((oat X i).kind == 4) = true := by simpa using h4
     by_cases hmn : m < n
     ·obtain ⟨b2, off2, C2, e2, hbb2, hC2, hr2⟩ := w3z (qwz h hk) hmn
      cases e2
      have hmn' : (m : Int) < n := by omega
      have hz2 := hC2.size
      have h1c2 := hC2.one
      have k2 := hC2.kind
      have i2 := hC2.id
      have hwm := hwd.out m hmn
      have el2 : ((oat X m).th.lo.toNat : Int) = (oat X m).th.lo := Int.toNat_of_nonneg hwm.2.1.1
      have eh2 : ((oat X m).th.hi.toNat : Int) = (oat X m).th.hi := Int.toNat_of_nonneg hwm.2.2.1
      have ei2 : ((oat X m).id.toNat : Int) = (oat X m).id := Int.toNat_of_nonneg hwm.1.1
      have hV2 : C2.extract 37 (37 + 2) = #[.int .u64 ((oat X m).th.lo.toNat : Int), .int .u64 ((oat X m).th.hi.toNat : Int)] := by rw [el2, eh2]; exact ext2 hC2.th.lo hC2.th.hi
      rw [← ei2] at i2
      have hid64 : (oat X m).id.toNat < 18446744073709551616 := by have := hwm.1.2; omega
      have hrow : Hid (rowB key X i m = !(SrM.hasK key (oat X i).th.lo.toNat (oat X i).th.hi.toNat (oat X m).id.toNat || (decide ((oat X m).kind = 4) && (decide (m ≠ i) && !rapB (oat X i).th.lo.toNat (oat X i).th.hi.toNat (oat X m).th.lo.toNat (oat X m).th.hi.toNat)))) := rfl
      have hhas := fun W => jQz (k := key) (a := (oat X i).th.lo.toNat) (b := (oat X i).th.hi.toNat) hid64 W
      have hap := fun W => jpz (oat X i).th.lo.toNat (oat X i).th.hi.toNat (oat X m).th.lo.toNat (oat X m).th.hi.toNat W
      clear hwm el2 eh2 ei2 hid64 hwi el eh hC hC2 hr hbb2
      generalize SrM.hasK key (oat X i).th.lo.toNat (oat X i).th.hi.toNat (oat X m).id.toNat = hb0 at hhas hrow
      generalize rapB (oat X i).th.lo.toNat (oat X i).th.hi.toNat (oat X m).th.lo.toNat (oat X m).th.hi.toNat = ap0 at hap hrow
      generalize (oat X i).th.lo.toNat = lo at hV hhas hap
      generalize (oat X i).th.hi.toNat = hi at hV hhas hap
      generalize (oat X m).th.lo.toNat = lo2 at hV2 hap
      generalize (oat X m).th.hi.toNat = hi2 at hV2 hap
      generalize (oat X m).id.toNat = id2 at i2 hhas
      generalize (oat X m).kind = kd2 at k2 hrow
      have hnx : Hid (rowB key X i m = true → (oat X i).kind = 4 → ∀ q, q < m + 1 → rowB key X i q = true) := by
       refine (?_ : rowB key X i m = true → (oat X i).kind = 4 → ∀ q, q < m + 1 → rowB key X i q = true)
       intro e q4 q hq
       rcases Nat.lt_or_ge q m with c | c
       ·exact hrw.out q4 q c
       ·obtain rfl : q = m := by omega
        exact e
      cases hb0 with
      | true =>
       go_wp2_with (first
        | (with_reducible refine qaz (by kernel_rfl) _ _ rfl B _ rfl _ _ hB _ c3 ga3 ?_)
        | (with_reducible refine qaz (by kernel_rfl) _ _ rfl R _ rfl _ _ hR4 _ k1 gai ?_)
        | (with_reducible refine qxz (by kernel_rfl) 55 _ rfl b _ rfl C2 hr2 _ underlying55 (by kernel_rfl) (qfz hz2) ?_)
        | ((with_reducible refine qdz rfl _ rfl zC qsz ?_); intro R2 W5 hN5 hR5 hk5)
        | ((with_reducible refine qbz rfl _ _ _ rfl R2 rfl C2 rfl zC hR5 (qfz hz2) (qoz.trans hz2.symm) h1c2 ?_); intro W6 hR6 o6; have k6 := o6.below wr.heap.size wr (by have := hN5.out.1; omega) hk5; replace hB := hB.next k6; replace hR4 := hR4.next k6; replace hk := btz hk k6; clear hN5 hR5 hk5 o6 k6)
        | (with_reducible refine qaz (by kernel_rfl) _ _ rfl B _ rfl _ _ hB _ c1 ga1 ?_)
        | (with_reducible refine qaz (by kernel_rfl) _ _ rfl R2 _ rfl _ _ hR6 _ i2 ga1 ?_)
        | (with_reducible refine qaz (by kernel_rfl) _ _ rfl R2 _ rfl _ _ hR6 _ k2 gai ?_)
        | (with_reducible refine qnz (by kernel_rfl) _ _ rfl R 37 rfl 2 C _ hR4 #[.int .u64 (lo : Int), .int .u64 (hi : Int)] hV (by omega) _ underlying48 (by kernel_rfl) (by kernel_rfl) ?_)
        | (with_reducible refine qnz (by kernel_rfl) _ _ rfl R2 37 rfl 2 C2 _ hR6 #[.int .u64 (lo2 : Int), .int .u64 (hi2 : Int)] hV2 (by omega) _ underlying48 (by kernel_rfl) (by kernel_rfl) ?_)
        | (go_at_call 23; (with_reducible refine (hhas _).mono ?_); rintro e w7 ⟨rfl, hb7⟩; replace hB := hB.next hb7; replace hR4 := hR4.next hb7; replace hR6 := hR6.next hb7; replace hk := btz hk hb7; clear hb7)
        | (go_at_call 22; (with_reducible refine (hap _).mono ?_); rintro e w8 ⟨rfl, hb8⟩; replace hB := hB.next hb8; replace hR4 := hR4.next hb8; replace hR6 := hR6.next hb8; replace hk := btz hk hb8; clear hb8)
        | ((with_reducible refine qgz (by kernel_rfl) .eql 3 _ _ _ rfl (.int .i64 kd2) (.int .i64 4) rfl rfl (qtz _ _ _ _ _ _) ?_ ?_) <;> intro hq2)
        | ((with_reducible refine qgz (by kernel_rfl) .neq 3 _ _ _ rfl (.int .i64 (m : Int)) (.int .i64 (i : Int)) rfl rfl (wjz _ _ _ _ _ _) ?_ ?_) <;> intro hq3))
       go_ret
       exact ⟨by rw [hno.out i m hkn hmn h4 (by rw [hrow.out]; rfl)]; rfl, hk⟩
      | false =>
       cases ap0 with
       | true =>
        go_wp2_with (first
         | (with_reducible refine qaz (by kernel_rfl) _ _ rfl B _ rfl _ _ hB _ c3 ga3 ?_)
         | (with_reducible refine qaz (by kernel_rfl) _ _ rfl R _ rfl _ _ hR4 _ k1 gai ?_)
         | (with_reducible refine qxz (by kernel_rfl) 55 _ rfl b _ rfl C2 hr2 _ underlying55 (by kernel_rfl) (qfz hz2) ?_)
         | ((with_reducible refine qdz rfl _ rfl zC qsz ?_); intro R2 W5 hN5 hR5 hk5)
         | ((with_reducible refine qbz rfl _ _ _ rfl R2 rfl C2 rfl zC hR5 (qfz hz2) (qoz.trans hz2.symm) h1c2 ?_); intro W6 hR6 o6; have k6 := o6.below wr.heap.size wr (by have := hN5.out.1; omega) hk5; replace hB := hB.next k6; replace hR4 := hR4.next k6; replace hk := btz hk k6; clear hN5 hR5 hk5 o6 k6)
         | (with_reducible refine qaz (by kernel_rfl) _ _ rfl B _ rfl _ _ hB _ c1 ga1 ?_)
         | (with_reducible refine qaz (by kernel_rfl) _ _ rfl R2 _ rfl _ _ hR6 _ i2 ga1 ?_)
         | (with_reducible refine qaz (by kernel_rfl) _ _ rfl R2 _ rfl _ _ hR6 _ k2 gai ?_)
         | (with_reducible refine qnz (by kernel_rfl) _ _ rfl R 37 rfl 2 C _ hR4 #[.int .u64 (lo : Int), .int .u64 (hi : Int)] hV (by omega) _ underlying48 (by kernel_rfl) (by kernel_rfl) ?_)
         | (with_reducible refine qnz (by kernel_rfl) _ _ rfl R2 37 rfl 2 C2 _ hR6 #[.int .u64 (lo2 : Int), .int .u64 (hi2 : Int)] hV2 (by omega) _ underlying48 (by kernel_rfl) (by kernel_rfl) ?_)
         | (go_at_call 23; (with_reducible refine (hhas _).mono ?_); rintro e w7 ⟨rfl, hb7⟩; replace hB := hB.next hb7; replace hR4 := hR4.next hb7; replace hR6 := hR6.next hb7; replace hk := btz hk hb7; clear hb7)
         | (go_at_call 22; (with_reducible refine (hap _).mono ?_); rintro e w8 ⟨rfl, hb8⟩; replace hB := hB.next hb8; replace hR4 := hR4.next hb8; replace hR6 := hR6.next hb8; replace hk := btz hk hb8; clear hb8)
         | ((with_reducible refine qgz (by kernel_rfl) .eql 3 _ _ _ rfl (.int .i64 kd2) (.int .i64 4) rfl rfl (qtz _ _ _ _ _ _) ?_ ?_) <;> intro hq2)
         | ((with_reducible refine qgz (by kernel_rfl) .neq 3 _ _ _ rfl (.int .i64 (m : Int)) (.int .i64 (i : Int)) rfl rfl (wjz _ _ _ _ _ _) ?_ ?_) <;> intro hq3))
        all_goals
         go_roundw
         case rel => exact ⟨m + 1, by omega, by go_num, hnx.out (by rw [hrow.out]; simp), hB, hR4, hk⟩
         case measure => simp [intOf]; omega
       | false =>
        go_wp2_with (first
         | (with_reducible refine qaz (by kernel_rfl) _ _ rfl B _ rfl _ _ hB _ c3 ga3 ?_)
         | (with_reducible refine qaz (by kernel_rfl) _ _ rfl R _ rfl _ _ hR4 _ k1 gai ?_)
         | (with_reducible refine qxz (by kernel_rfl) 55 _ rfl b _ rfl C2 hr2 _ underlying55 (by kernel_rfl) (qfz hz2) ?_)
         | ((with_reducible refine qdz rfl _ rfl zC qsz ?_); intro R2 W5 hN5 hR5 hk5)
         | ((with_reducible refine qbz rfl _ _ _ rfl R2 rfl C2 rfl zC hR5 (qfz hz2) (qoz.trans hz2.symm) h1c2 ?_); intro W6 hR6 o6; have k6 := o6.below wr.heap.size wr (by have := hN5.out.1; omega) hk5; replace hB := hB.next k6; replace hR4 := hR4.next k6; replace hk := btz hk k6; clear hN5 hR5 hk5 o6 k6)
         | (with_reducible refine qaz (by kernel_rfl) _ _ rfl B _ rfl _ _ hB _ c1 ga1 ?_)
         | (with_reducible refine qaz (by kernel_rfl) _ _ rfl R2 _ rfl _ _ hR6 _ i2 ga1 ?_)
         | (with_reducible refine qaz (by kernel_rfl) _ _ rfl R2 _ rfl _ _ hR6 _ k2 gai ?_)
         | (with_reducible refine qnz (by kernel_rfl) _ _ rfl R 37 rfl 2 C _ hR4 #[.int .u64 (lo : Int), .int .u64 (hi : Int)] hV (by omega) _ underlying48 (by kernel_rfl) (by kernel_rfl) ?_)
         | (with_reducible refine qnz (by kernel_rfl) _ _ rfl R2 37 rfl 2 C2 _ hR6 #[.int .u64 (lo2 : Int), .int .u64 (hi2 : Int)] hV2 (by omega) _ underlying48 (by kernel_rfl) (by kernel_rfl) ?_)
         | (go_at_call 23; (with_reducible refine (hhas _).mono ?_); rintro e w7 ⟨rfl, hb7⟩; replace hB := hB.next hb7; replace hR4 := hR4.next hb7; replace hR6 := hR6.next hb7; replace hk := btz hk hb7; clear hb7)
         | (go_at_call 22; (with_reducible refine (hap _).mono ?_); rintro e w8 ⟨rfl, hb8⟩; replace hB := hB.next hb8; replace hR4 := hR4.next hb8; replace hR6 := hR6.next hb8; replace hk := btz hk hb8; clear hb8)
         | ((with_reducible refine qgz (by kernel_rfl) .eql 3 _ _ _ rfl (.int .i64 kd2) (.int .i64 4) rfl rfl (qtz _ _ _ _ _ _) ?_ ?_) <;> intro hq2)
         | ((with_reducible refine qgz (by kernel_rfl) .neq 3 _ _ _ rfl (.int .i64 (m : Int)) (.int .i64 (i : Int)) rfl rfl (wjz _ _ _ _ _ _) ?_ ?_) <;> intro hq3))
        ·go_ret
         exact ⟨by rw [hno.out i m hkn hmn h4 (by rw [hrow.out, decide_eq_true hq2.out, decide_eq_true (show m ≠ i by have := hq3.out; omega)]; rfl)]; rfl, hk⟩
        ·go_roundw
         case rel => exact ⟨m + 1, by omega, by go_num, hnx.out (by rw [hrow.out, decide_eq_false (show ¬ m ≠ i by have := hq3.out; omega)]; simp), hB, hR4, hk⟩
         case measure => simp [intOf]; omega
        ·go_roundw
         case rel => exact ⟨m + 1, by omega, by go_num, hnx.out (by rw [hrow.out, decide_eq_false hq2.out]; simp), hB, hR4, hk⟩
         case measure => simp [intOf]; omega
     ·obtain rfl : m = n := by omega
      go_wp2_with (first
       | (with_reducible refine qaz (by kernel_rfl) _ _ rfl B _ rfl _ _ hB _ c3 ga3 ?_)
       | (with_reducible refine qaz (by kernel_rfl) _ _ rfl R _ rfl _ _ hR4 _ k1 gai ?_))
      go_roundw
      case rel => exact ⟨i + 1, by omega, by go_num, yez hal.out hrw.out, hB, hk⟩
      case measure => simp [intOf]; omega
    ·have h4b : ((oat X i).kind == 4) = false := by simpa using h4
     by_cases hmn : m < n
     ·have hmn' : (m : Int) < n := by omega
      go_wp2_with (first
       | (with_reducible refine qaz (by kernel_rfl) _ _ rfl B _ rfl _ _ hB _ c3 ga3 ?_)
       | (with_reducible refine qaz (by kernel_rfl) _ _ rfl R _ rfl _ _ hR4 _ k1 gai ?_))
      go_roundw
      case rel => exact ⟨i + 1, by omega, by go_num, yez hal.out (fun q => absurd q h4), hB, hk⟩
      case measure => simp [intOf]; omega
     ·obtain rfl : m = n := by omega
      go_wp2_with (first
       | (with_reducible refine qaz (by kernel_rfl) _ _ rfl B _ rfl _ _ hB _ c3 ga3 ?_)
       | (with_reducible refine qaz (by kernel_rfl) _ _ rfl R _ rfl _ _ hR4 _ k1 gai ?_))
      go_roundw
      case rel => exact ⟨i + 1, by omega, by go_num, yez hal.out (fun q => absurd q h4), hB, hk⟩
      case measure => simp [intOf]; omega
  ·obtain rfl : i = n := by omega
   go_wp2_with (first
    | (with_reducible refine qaz (by kernel_rfl) _ _ rfl B _ rfl _ _ hB _ c3 ga3 ?_))
   go_ret
   exact ⟨by rw [hyes.out hal.out]; rfl, hk⟩
theorem gJz {t ke ro : Int} {C : Array Value} {o : Ob} (h : Obs w ao n cap X) (hn16 : n ≤ 4096) (ho : ObD (LtN w) w C o) : Calls prog 38 #[.agg #[.int .i64 t, .int .u64 ke, .int .u64 ro, .slice ao n cap], .agg C] w fun e w' => e = .returned (.bool (plaB X ro o)) ∧ Below w.heap.size w w' := by
 have g2 : (#[.int .i64 t, .int .u64 ke, .int .u64 ro, .slice ao n cap] : Array Value)[2]? = some (.int .u64 ro) := rfl
 have hzw : (prog.info? 25).map (·.size) = some (#[.int .i64 t, .int .u64 ke, .int .u64 ro, .slice ao n cap] : Array Value).size := by kernel_rfl
 have hho := fun (W : World) (hk : Below w.heap.size w W) => kfz (t := t) (ke := ke) (ro := ro) (i := o.id) (qwz h hk) hn16
 have hup := fun (W : World) (hk : Below w.heap.size w W) => rup_w (t := t) (ke := ke) (ro := ro) (i := o.id) (qwz h hk) hn16
 have c0 := ho.id
 have c1 := ho.kind
 have c3 := ho.quota
 have c4 := ho.fixed
 have hP : Hid (plaB X ro o = if o.id = ro then decide ((holL X o.id).length = 0) && (decide (o.kind = 2) && decide (o.quota ≤ 1024)) else (decide (1 ≤ (holL X o.id).length) && !(decide (1 < (holL X o.id).length) && (!o.fixed || (decide (o.kind = 2) || decide (o.kind = 4))))) && (!decide (o.kind = 2) || upB X ro o.id)) := rfl
 rw [hP.out]
 clear hP
 obtain ⟨G, hG⟩ : ∃ G : Array Value, G = #[.int .i64 t, .int .u64 ke, .int .u64 ro, .slice ao n cap] := ⟨_, rfl⟩
 rw [← hG] at g2 hzw hho hup
 rw [← hG]
 clear hG ho
 obtain ⟨m, hm⟩ : ∃ m, Hid ((holL X o.id).length = m) := ⟨_, rfl⟩
 rw [hm.out]
 generalize holL X o.id = L at hho hm
 generalize upB X ro o.id = ub at hup ⊢
 generalize o.id = i at c0 hho hup ⊢
 generalize o.kind = kd at c1 ⊢
 generalize o.quota = qt at c3 ⊢
 generalize o.fixed = fx at c4 ⊢
 by_cases hi : i = ro
 ·subst hi
  rw [if_pos rfl]
  go_enter func38, ntmps38
  go_wp2_with (first
   | (with_reducible refine qcz rfl 25 _ rfl G rfl ?_; intro B2 W2 hN2 hB2 hk)
   | (with_reducible refine qcz rfl 55 _ rfl C rfl ?_; intro B3 W3 hN3 hB3 hk3; replace hB2 := hB2.next hk3; replace hk := btz hk hk3)
   | (with_reducible refine qhz (by with_unfolding_all rfl) _ _ rfl B2 rfl G hB2 _ underlying25 (by kernel_rfl) hzw ?_)
   | (with_reducible refine qaz (by with_unfolding_all rfl) _ _ rfl B3 _ rfl _ _ hB3 _ c0 isAgg22 ?_)
   | (with_reducible refine qaz (by with_unfolding_all rfl) _ _ rfl B3 _ rfl _ _ hB3 _ c1 isAgg3 ?_)
   | (with_reducible refine qaz (by with_unfolding_all rfl) _ _ rfl B3 _ rfl _ _ hB3 _ c3 isAgg3 ?_)
   | (with_reducible refine qaz (by with_unfolding_all rfl) _ _ rfl B3 _ rfl _ _ hB3 _ c4 isAgg4 ?_)
   | (with_reducible refine qaz (by with_unfolding_all rfl) _ _ rfl B2 _ rfl _ _ hB2 _ g2 isAgg22 ?_)
   | (go_at_call 15; (with_reducible refine (hho _ hk).mono ?_); rintro e w1 ⟨v, rfl, hown, hb1⟩; replace hB2 := hB2.next hb1; replace hB3 := hB3.next hb1; replace hk := btz hk hb1; obtain ⟨al, cl, he, hct⟩ := kgz hown; rw [hm.out] at he; subst he; clear hct hown)
   | (go_at_call 77; (with_reducible refine (hup _ hk).mono ?_); rintro e w2 ⟨rfl, hb2⟩; replace hk := btz hk hb2)
   | ((with_reducible refine qgz (by with_unfolding_all rfl) .eql 3 _ _ _ rfl (.int .i64 (m : Int)) _ rfl rfl (qtz _ _ _ _ _ _) ?_ ?_) <;> intro hq1)
   | ((with_reducible refine qgz (by with_unfolding_all rfl) .lss 3 _ _ _ rfl (.int .i64 (m : Int)) _ rfl rfl (wnz _ _ _ _ _ _) ?_ ?_) <;> intro hq4)
   | ((with_reducible refine qgz (by with_unfolding_all rfl) .gtr 3 _ _ _ rfl (.int .i64 (m : Int)) _ rfl rfl (qLz _ _ _ _ _ _) ?_ ?_) <;> intro hq5)
   | ((with_reducible refine qgz (by with_unfolding_all rfl) .eql 3 _ _ _ rfl (.int .i64 kd) (.int .i64 2) rfl rfl (qtz _ _ _ _ _ _) ?_ ?_) <;> intro hq2)
   | ((with_reducible refine qgz (by with_unfolding_all rfl) .eql 3 _ _ _ rfl (.int .i64 kd) (.int .i64 4) rfl rfl (qtz _ _ _ _ _ _) ?_ ?_) <;> intro hq6)
   | ((with_reducible refine qgz (by with_unfolding_all rfl) .neq 3 _ _ _ rfl (.int .i64 kd) (.int .i64 2) rfl rfl (wjz _ _ _ _ _ _) ?_ ?_) <;> intro hq7)
   | ((with_reducible refine qgz (by with_unfolding_all rfl) .leq 3 _ _ _ rfl _ _ rfl rfl (wez _ _ _ _ _ _) ?_ ?_) <;> intro hq3))
  all_goals
   go_ret
   refine ⟨congrArg (fun z => Ending.returned (.bool z)) ?_, hk⟩
   clear hho hup hzw
   simp only [Hid] at *
   first
    | (refine Eq.symm ?_; simp only [Bool.and_eq_true, decide_eq_true_eq, decide_eq_false_iff_not, Bool.and_eq_false_iff]; omega)
    | (refine Eq.symm ?_; rw [Bool.eq_false_iff]; simp only [ne_eq, Bool.and_eq_true, Bool.or_eq_true, Bool.not_eq_true', decide_eq_true_eq, decide_eq_false_iff_not, Bool.and_eq_false_iff, Bool.or_eq_false_iff, reduceCtorEq, or_true, true_or, and_true, true_and, or_false, false_or, and_false, false_and, Bool.not_true, Bool.not_false]; omega)
 ·have hib : (i == ro) = false := by simpa using hi
  rw [if_neg hi]
  cases fx <;> cases ub
  all_goals
   go_enter func38, ntmps38
   go_wp2_with (first
    | (with_reducible refine qcz rfl 25 _ rfl G rfl ?_; intro B2 W2 hN2 hB2 hk)
    | (with_reducible refine qcz rfl 55 _ rfl C rfl ?_; intro B3 W3 hN3 hB3 hk3; replace hB2 := hB2.next hk3; replace hk := btz hk hk3)
    | (with_reducible refine qhz (by with_unfolding_all rfl) _ _ rfl B2 rfl G hB2 _ underlying25 (by kernel_rfl) hzw ?_)
    | (with_reducible refine qaz (by with_unfolding_all rfl) _ _ rfl B3 _ rfl _ _ hB3 _ c0 isAgg22 ?_)
    | (with_reducible refine qaz (by with_unfolding_all rfl) _ _ rfl B3 _ rfl _ _ hB3 _ c1 isAgg3 ?_)
    | (with_reducible refine qaz (by with_unfolding_all rfl) _ _ rfl B3 _ rfl _ _ hB3 _ c3 isAgg3 ?_)
    | (with_reducible refine qaz (by with_unfolding_all rfl) _ _ rfl B3 _ rfl _ _ hB3 _ c4 isAgg4 ?_)
    | (with_reducible refine qaz (by with_unfolding_all rfl) _ _ rfl B2 _ rfl _ _ hB2 _ g2 isAgg22 ?_)
    | (go_at_call 15; (with_reducible refine (hho _ hk).mono ?_); rintro e w1 ⟨v, rfl, hown, hb1⟩; replace hB2 := hB2.next hb1; replace hB3 := hB3.next hb1; replace hk := btz hk hb1; obtain ⟨al, cl, he, hct⟩ := kgz hown; rw [hm.out] at he; subst he; clear hct hown)
    | (go_at_call 77; (with_reducible refine (hup _ hk).mono ?_); rintro e w2 ⟨rfl, hb2⟩; replace hk := btz hk hb2)
    | ((with_reducible refine qgz (by with_unfolding_all rfl) .eql 3 _ _ _ rfl (.int .i64 (m : Int)) _ rfl rfl (qtz _ _ _ _ _ _) ?_ ?_) <;> intro hq1)
    | ((with_reducible refine qgz (by with_unfolding_all rfl) .lss 3 _ _ _ rfl (.int .i64 (m : Int)) _ rfl rfl (wnz _ _ _ _ _ _) ?_ ?_) <;> intro hq4)
    | ((with_reducible refine qgz (by with_unfolding_all rfl) .gtr 3 _ _ _ rfl (.int .i64 (m : Int)) _ rfl rfl (qLz _ _ _ _ _ _) ?_ ?_) <;> intro hq5)
    | ((with_reducible refine qgz (by with_unfolding_all rfl) .eql 3 _ _ _ rfl (.int .i64 kd) (.int .i64 2) rfl rfl (qtz _ _ _ _ _ _) ?_ ?_) <;> intro hq2)
    | ((with_reducible refine qgz (by with_unfolding_all rfl) .eql 3 _ _ _ rfl (.int .i64 kd) (.int .i64 4) rfl rfl (qtz _ _ _ _ _ _) ?_ ?_) <;> intro hq6)
    | ((with_reducible refine qgz (by with_unfolding_all rfl) .neq 3 _ _ _ rfl (.int .i64 kd) (.int .i64 2) rfl rfl (wjz _ _ _ _ _ _) ?_ ?_) <;> intro hq7)
    | ((with_reducible refine qgz (by with_unfolding_all rfl) .leq 3 _ _ _ rfl _ _ rfl rfl (wez _ _ _ _ _ _) ?_ ?_) <;> intro hq3))
   all_goals
    go_ret
    refine ⟨congrArg (fun z => Ending.returned (.bool z)) ?_, hk⟩
    clear hho hup hzw
    simp only [Hid] at *
    first
     | (refine Eq.symm ?_; simp only [Bool.and_eq_true, Bool.or_eq_true, Bool.not_eq_true', decide_eq_true_eq, decide_eq_false_iff_not, Bool.and_eq_false_iff, Bool.or_eq_false_iff, reduceCtorEq, or_true, and_true, true_and, or_false, and_false, false_and, Bool.not_true, Bool.not_false]; omega)
     | (refine Eq.symm ?_; rw [Bool.eq_false_iff]; simp only [ne_eq, Bool.and_eq_true, Bool.or_eq_true, Bool.not_eq_true', decide_eq_true_eq, decide_eq_false_iff_not, Bool.and_eq_false_iff, Bool.or_eq_false_iff, reduceCtorEq, true_and, or_false, false_and, Bool.not_true, Bool.not_false]; omega)
theorem gvz {x : Ob} (h : q9z x = true) : LbF x.label := by
 have hk := qvz.1 (qSz.1 (qqz.1 h).1).2.2.2.1
 exact ⟨wpz hk.2.1, by have := hk.1; omega⟩
theorem rfit_v0 {t ke ro : Int} (h : Obs w ao n cap X) : Calls prog 36 #[.agg #[.int .i64 t, .int .u64 ke, .int .u64 ro, .slice ao n cap]] w fun e w' => e = .returned (.bool (fitW ⟨t, ke, ro, X⟩)) ∧ Below w.heap.size w w' :=
 (rfit_w (t := t) (ke := ke) (ro := ro) h).on (fun w' hq hb => ⟨by rw [hq.out], hb⟩) (fun w' hq hb => ⟨by rw [Bool.eq_false_iff.2 hq.out], hb⟩)
theorem rtfit_w {t ro : Int} (h : Obs w ao n cap X) (hsm : fitW ⟨t, key, ro, X⟩ = true → q3z X) (hw : ∀ x ∈ X, WdO x) : Calls prog 13 #[.agg #[.int .i64 t, .int .u64 (key : Int), .int .u64 ro, .slice ao n cap]] w fun e w' => e = .returned (.bool (fitD t key ro X)) ∧ Below w.heap.size w w' := by
 have hmx : prog.follows .mixedOrders = true := by kernel_rfl
 have hn : Hid (X.length = n) := h.1
 have hnc := h.2.1
 have hcm := h.2.2.1.1
 have c2 : (#[.int .i64 t, .int .u64 (key : Int), .int .u64 ro, .slice ao n cap] : Array Value)[2]? = some (.int .u64 ro) := rfl
 have c3 : (#[.int .i64 t, .int .u64 (key : Int), .int .u64 ro, .slice ao n cap] : Array Value)[3]? = some (.slice ao n cap) := rfl
 have hzw : (prog.info? 25).map (·.size) = some (#[.int .i64 t, .int .u64 (key : Int), .int .u64 ro, .slice ao n cap] : Array Value).size := by kernel_rfl
 have hfd := fun {W : World} (hk : Below w.heap.size w W) => jNz (t := t) (ke := (key : Int)) (ro := ro) (i := ro) h hk
 have hft := fun (W : World) (hk : Below w.heap.size w W) => rfit_v0 (t := t) (ke := (key : Int)) (ro := ro) (qwz h hk)
 have hsp := fun (W : World) (hk : Below w.heap.size w W) => rspans_w (t := t) (key := key) (ro := ro) (qwz h hk) hw
 have hR : Hid (fitD t key ro X = ((fitW ⟨t, key, ro, X⟩ && (fnd X ro).isSome) && (((List.range n).all fun j => lnkB X (oat X j) && plaB X ro (oat X j)) && spaB key X))) := by show fitD t key ro X = _; unfold fitD; rw [hn.out]
 rw [hR.out]
 clear hR
 cases hf : fitW ⟨t, key, ro, X⟩
 rw [hf] at hft
 obtain ⟨G, hG⟩ : ∃ G : Array Value, G = #[.int .i64 t, .int .u64 (key : Int), .int .u64 ro, .slice ao n cap] := ⟨_, rfl⟩
 rw [← hG] at c2 c3 hzw hfd hft hsp
 rw [← hG]
 clear hG
 rw [Bool.false_and, Bool.false_and]
 generalize (fnd X ro).isSome = bf at hfd
 rotate_left
 replace hsm := hsm hf
 obtain ⟨hs, hso, hlen⟩ := yBz hf
 have hn16 : n ≤ 4096 := by rw [← hn.out]; omega
 have hq : ∀ x ∈ X, 0 ≤ x.quota ∧ x.quota ≤ 4096 := fun x hx => (sound_q (hso x hx)).1
 have hlb : ∀ x ∈ X, LbF x.label := fun x hx => gvz (hso x hx)
 have hli := fun {W : World} {C : Array Value} {j : Nat} (hk : Below w.heap.size w W) (hj : j < n) (hC : ObD (LtN W) W C (oat X j)) => rlinks_w (t := t) (ke := (key : Int)) (ro := ro) (qwz h hk) hq hlb hC (hsm _ (wxz (by rw [hn.out]; exact hj))) (hlb _ (wxz (by rw [hn.out]; exact hj)))
 have hpl := fun {W : World} {C : Array Value} {j : Nat} (hk : Below w.heap.size w W) (hC : ObD (LtN W) W C (oat X j)) => gJz (t := t) (ke := (key : Int)) (ro := ro) (qwz h hk) hn16 hC
 obtain ⟨p, hp⟩ : ∃ p : Nat → Bool, Hid (p = fun j => lnkB X (oat X j) && plaB X ro (oat X j)) := ⟨_, rfl⟩
 rw [hf] at hft
 obtain ⟨G, hG⟩ : ∃ G : Array Value, G = #[.int .i64 t, .int .u64 (key : Int), .int .u64 ro, .slice ao n cap] := ⟨_, rfl⟩
 rw [← hG] at c2 c3 hzw hfd hft hsp hli hpl
 rw [← hG, ← hp.out]
 clear hG hf hs hso hlen hq hlb
 have hal0 : Hid (∀ (k : Nat), k ≤ n → (∀ j, j < k → p j = true) → k = n → (List.range n).all p = true) := by
  refine (?_ : ∀ (k : Nat), k ≤ n → (∀ j, j < k → p j = true) → k = n → (List.range n).all p = true)
  intro k _ hj e
  rw [List.all_eq_true]
  intro j q
  exact hj j (by rw [e]; exact List.mem_range.1 q)
 have hno0 : Hid (∀ (k : Nat), k < n → p k = false → (List.range n).all p = false) := by
  refine (?_ : ∀ (k : Nat), k < n → p k = false → (List.range n).all p = false)
  intro k q e
  rw [List.all_eq_false]
  exact ⟨k, List.mem_range.2 q, by rw [e]; decide⟩
 generalize (List.range n).all p = pa at hal0 hno0 ⊢
 generalize spaB key X = sp at hsp ⊢
 rw [Bool.true_and]
 cases hb : (fnd X ro).isSome
 rw [hb] at hfd
 rw [Bool.false_and]
 rotate_left
 rw [hb] at hfd
 rw [Bool.true_and]
 rotate_left
 all_goals go_enter func13, ntmps13
 all_goals go_wp2_with (first
  | go_skip
  | (with_reducible refine qcz rfl 25 _ rfl G rfl ?_; intro B W2 hN2 hB hk)
  | (with_reducible refine qhz (by kernel_rfl) 25 _ rfl B rfl G hB _ underlying25 (by kernel_rfl) hzw ?_)
  | (with_reducible refine qaz (by kernel_rfl) _ _ rfl B _ rfl _ _ hB _ c2 isAgg22 ?_)
  | (go_at_call 14; (with_reducible refine (hfd hk).mono ?_); rintro e w3 ⟨C3, rfl, o3, hb3⟩; replace hB := hB.next hb3; replace hk := btz hk hb3)
  | ((with_reducible refine qdz rfl _ rfl zC qsz ?_); intro R W4 hN4 hR4 hk4)
  | ((with_reducible refine qbz rfl _ _ _ rfl R rfl C3 rfl zC hR4 (qfz o3.size) (qoz.trans o3.size.symm) o3.one ?_); intro W5 hR5 o5; have k5 := o5.below w3.heap.size w3 (by have := hN4.out.1; omega) hk4; replace hB := hB.next k5; replace hk := btz hk k5)
  | (go_at_call 36; (with_reducible refine (hft _ hk).mono ?_); rintro e w6 ⟨rfl, hb6⟩; replace hB := hB.next hb6; replace hk := btz hk hb6))
 ·go_ret
  exact ⟨rfl, hk⟩
 ·go_ret
  exact ⟨rfl, hk⟩
 ·clear hN2 hN4 hR4 hk4 o5 k5 hR5
  go_loopw [5] (fun j wr => ∃ k : Nat, k ≤ n ∧ j = .int .i64 k ∧ Hid (∀ j, j < k → p j = true) ∧ Blk wr B G 25 ∧ Below w.heap.size w wr) (fun j _ => n - (intOf j).toNat)
  case atStart => exact ⟨0, Nat.zero_le _, rfl, fun i hi => absurd hi (by omega), hB, hk⟩
  case round =>
   clear hB hk
   obtain ⟨k, hkn1, rfl, hal, hB, hk⟩ := hrel
   by_cases hkn : k < n
   ·obtain ⟨b, off, C, rfl, hbb, hC, hr⟩ := w3z h hkn
    have hkn' : (k : Int) < n := by omega
    have hz := hC.size
    have hpk : Hid (p k = (lnkB X (oat X k) && plaB X ro (oat X k))) := by show p k = _; rw [hp.out]
    have hnx : Hid (p k = true → ∀ j, j < k + 1 → p j = true) := by
     refine (?_ : p k = true → ∀ j, j < k + 1 → p j = true)
     intro e j hj
     rcases Nat.lt_or_ge j k with q | q
     ·exact hal.out j q
     ·obtain rfl : j = k := by omega
      exact e
    replace hli := fun {W : World} {C : Array Value} (hk : Below w.heap.size w W) (hC : ObD (LtN W) W C (oat X k)) => hli hk hkn hC
    replace hpl := fun {W : World} {C : Array Value} (hk : Below w.heap.size w W) (hC : ObD (LtN W) W C (oat X k)) => hpl hk hC
    generalize lnkB X (oat X k) = bl at hli hpk
    generalize plaB X ro (oat X k) = bp at hpl hpk
    go_wp2_with (first
     | (with_reducible refine qaz (by kernel_rfl) _ _ rfl B _ rfl _ _ hB _ c3 isAgg23 ?_))
    refine PgM.region_out (S := fun W => Blk W B G 25 ∧ Below w.heap.size w W) hmx ⟨hB.next (brz _ _).drew, hk.trans ((brz _ _).drew.mono hk.size)⟩ (fun hS => ?_)
    generalize wr.drew = v6 at hS ⊢
    clear hB hk
    refine qGz (by kernel_rfl) (fun _ _ _ _ _ h => h) hS [(0, some (.agg G)), (1, none), (2, some (.slice (some ⟨b, off, none⟩) n cap)), (3, none), (4, some (.pointer (some ⟨b, off + k * 51, none⟩))), (5, some (.agg C))] (obs := [.load 25 B 0 (.agg G), .load 23 B 3 (.slice (some ⟨b, off, none⟩) n cap), .ia 23 (.slice (some ⟨b, off, none⟩) n cap) (.int .i64 k) (.pointer (some ⟨b, off + k * 51, none⟩)), .load 55 b (off + k * 51) (.agg C)]) (n := 12) (by kernel_rfl) (by kernel_rfl) ⟨qBz (fun _ h => h.1) underlying25 (by kernel_rfl) hzw, qez (fun _ h => h.1) c3 isAgg23, kZz hkn, wHz (fun _ h => qHz hr (h.2.block b hbb)) underlying55 (by kernel_rfl) (qfz hz), trivial⟩ ?_
    cases bl with
    | false =>
     refine qrz (i := 6) (fuel := 11) (f := 37) (vs := [.agg G, .agg C]) (d := some 33) (by kernel_rfl) (by kernel_rfl) (by kernel_rfl) call37 (hli hS.2 (hC.next hS.2)) ?_
     rintro e v7 ⟨rfl, hb7⟩
     have hS7 : Blk v7 B G 25 ∧ Below w.heap.size w v7 := ⟨hS.1.next hb7, hS.2.trans (hb7.mono hS.2.size)⟩
     refine ⟨_, rfl, hS7, ?_⟩
     refine qmz (by kernel_rfl) (fun _ _ _ _ _ h => h) hS7 [(7, none), (8, none), (9, none), (10, none), (11, none), (12, none), (13, none), (14, none), (15, none), (16, none), (17, none)] (l' := #[tt, tt, tt, tt, tt, tt, tt, tt, tt, tt, tt, tt, tt, tt, tt, tt, tt, tt]) (a' := { tmps := #[.agg G, .pointer (some ⟨B, 0, none⟩), u2, .pointer (some ⟨R, 0, none⟩), .bool true, .int .i64 k, .tuple #[.agg C3, .bool true], .agg G, .pointer (some ⟨B, 2, none⟩), .int .u64 ro, .tuple #[.agg C3, .bool true], .agg C3, .bool true, .agg G, .bool true, .bool false, .bool false, .bool true, .bool false, .bool false, .int .i64 k, .pointer (some ⟨B, 3, none⟩), .slice (some ⟨b, off, none⟩) n cap, .int .i64 n, .bool true, u25, u26, .agg G, .pointer (some ⟨B, 3, none⟩), .slice (some ⟨b, off, none⟩) n cap, .int .i64 k, .pointer (some ⟨b, off + k * 51, none⟩), .agg C, .bool false, .bool true, .bool true, undef, undef, undef, undef, undef, undef, undef, undef, .bool true, undef, undef], defers := [] }) (obs := []) (n := 0) (by kernel_rfl) (by kernel_rfl) trivial ?_
     refine wpAnyH_done (by kernel_rfl) ?_ _
     have hz0 := hno0.out k hkn (by rw [hpk.out]; rfl)
     go_wp2
     go_ret
     exact ⟨by rw [hz0]; rfl, hS7.2⟩
    | true =>
     refine qrz (i := 6) (fuel := 11) (f := 37) (vs := [.agg G, .agg C]) (d := some 33) (by kernel_rfl) (by kernel_rfl) (by kernel_rfl) call37 (hli hS.2 (hC.next hS.2)) ?_
     rintro e v7 ⟨rfl, hb7⟩
     have hS7 : Blk v7 B G 25 ∧ Below w.heap.size w v7 := ⟨hS.1.next hb7, hS.2.trans (hb7.mono hS.2.size)⟩
     refine ⟨_, rfl, hS7, ?_⟩
     refine qGz (by kernel_rfl) (fun _ _ _ _ _ h => h) hS7 [(7, none), (8, none), (9, some (.agg G)), (10, none), (11, some (.slice (some ⟨b, off, none⟩) n cap)), (12, none), (13, some (.pointer (some ⟨b, off + k * 51, none⟩))), (14, some (.agg C))] (obs := [.load 25 B 0 (.agg G), .load 23 B 3 (.slice (some ⟨b, off, none⟩) n cap), .ia 23 (.slice (some ⟨b, off, none⟩) n cap) (.int .i64 k) (.pointer (some ⟨b, off + k * 51, none⟩)), .load 55 b (off + k * 51) (.agg C)]) (n := 3) (by kernel_rfl) (by kernel_rfl) ⟨qBz (fun _ h => h.1) underlying25 (by kernel_rfl) hzw, qez (fun _ h => h.1) c3 isAgg23, kZz hkn, wHz (fun _ h => qHz hr (h.2.block b hbb)) underlying55 (by kernel_rfl) (qfz hz), trivial⟩ ?_
     cases bp with
     | false =>
      refine qrz (i := 15) (fuel := 2) (f := 38) (vs := [.agg G, .agg C]) (d := some 42) (by kernel_rfl) (by kernel_rfl) (by kernel_rfl) call38 (hpl hS7.2 (hC.next hS7.2)) ?_
      rintro e v8 ⟨rfl, hb8⟩
      have hS8 : Blk v8 B G 25 ∧ Below w.heap.size w v8 := ⟨hS7.1.next hb8, hS7.2.trans (hb8.mono hS7.2.size)⟩
      refine ⟨_, rfl, hS8, ?_⟩
      refine qmz (by kernel_rfl) (fun _ _ _ _ _ h => h) hS8 [(16, none), (17, none)] (l' := #[tt, tt, tt, tt, tt, tt, tt, tt, tt, tt, tt, tt, tt, tt, tt, tt, tt, tt]) (a' := { tmps := #[.agg G, .pointer (some ⟨B, 0, none⟩), u2, .pointer (some ⟨R, 0, none⟩), .bool true, .int .i64 k, .tuple #[.agg C3, .bool true], .agg G, .pointer (some ⟨B, 2, none⟩), .int .u64 ro, .tuple #[.agg C3, .bool true], .agg C3, .bool true, .agg G, .bool true, .bool false, .bool false, .bool true, .bool false, .bool false, .int .i64 k, .pointer (some ⟨B, 3, none⟩), .slice (some ⟨b, off, none⟩) n cap, .int .i64 n, .bool true, u25, u26, .agg G, .pointer (some ⟨B, 3, none⟩), .slice (some ⟨b, off, none⟩) n cap, .int .i64 k, .pointer (some ⟨b, off + k * 51, none⟩), .agg C, .bool true, .bool false, .bool false, .agg G, .pointer (some ⟨B, 3, none⟩), .slice (some ⟨b, off, none⟩) n cap, .int .i64 k, .pointer (some ⟨b, off + k * 51, none⟩), .agg C, .bool false, .bool true, .bool true, undef, undef], defers := [] }) (obs := []) (n := 0) (by kernel_rfl) (by kernel_rfl) trivial ?_
      refine wpAnyH_done (by kernel_rfl) ?_ _
      have hz0 := hno0.out k hkn (by rw [hpk.out]; rfl)
      go_wp2
      go_ret
      exact ⟨by rw [hz0]; rfl, hS8.2⟩
     | true =>
      refine qrz (i := 15) (fuel := 2) (f := 38) (vs := [.agg G, .agg C]) (d := some 42) (by kernel_rfl) (by kernel_rfl) (by kernel_rfl) call38 (hpl hS7.2 (hC.next hS7.2)) ?_
      rintro e v8 ⟨rfl, hb8⟩
      have hS8 : Blk v8 B G 25 ∧ Below w.heap.size w v8 := ⟨hS7.1.next hb8, hS7.2.trans (hb8.mono hS7.2.size)⟩
      refine ⟨_, rfl, hS8, ?_⟩
      refine qmz (by kernel_rfl) (fun _ _ _ _ _ h => h) hS8 [(16, none), (17, none)] (l' := #[tt, tt, tt, tt, tt, tt, tt, tt, tt, tt, tt, tt, tt, tt, tt, tt, tt, tt]) (a' := { tmps := #[.agg G, .pointer (some ⟨B, 0, none⟩), u2, .pointer (some ⟨R, 0, none⟩), .bool true, .int .i64 k, .tuple #[.agg C3, .bool true], .agg G, .pointer (some ⟨B, 2, none⟩), .int .u64 ro, .tuple #[.agg C3, .bool true], .agg C3, .bool true, .agg G, .bool true, .bool false, .bool false, .bool true, .bool false, .bool false, .int .i64 k, .pointer (some ⟨B, 3, none⟩), .slice (some ⟨b, off, none⟩) n cap, .int .i64 n, .bool true, u25, u26, .agg G, .pointer (some ⟨B, 3, none⟩), .slice (some ⟨b, off, none⟩) n cap, .int .i64 k, .pointer (some ⟨b, off + k * 51, none⟩), .agg C, .bool true, .bool false, .bool false, .agg G, .pointer (some ⟨B, 3, none⟩), .slice (some ⟨b, off, none⟩) n cap, .int .i64 k, .pointer (some ⟨b, off + k * 51, none⟩), .agg C, .bool true, .bool false, .bool false, undef, undef], defers := [] }) (obs := []) (n := 0) (by kernel_rfl) (by kernel_rfl) trivial ?_
      refine wpAnyH_done (by kernel_rfl) ?_ _
      have hy := hnx.out (by rw [hpk.out]; rfl)
      go_wp2
      go_roundw
      case rel => exact ⟨k + 1, by omega, by go_num, hy, hS8.1, hS8.2⟩
      case measure => simp [intOf]; omega
   ·obtain rfl : k = n := by omega
    have hpa := hal0.out k (lrz _) hal.out rfl
    go_wp2_with (first
     | (with_reducible refine qaz (by kernel_rfl) _ _ rfl B _ rfl _ _ hB _ c3 isAgg23 ?_)
     | (with_reducible refine qhz (by kernel_rfl) 25 _ rfl B rfl G hB _ underlying25 (by kernel_rfl) hzw ?_)
     | (go_at_call 39; (with_reducible refine (hsp _ hk).mono ?_); rintro e w8 ⟨rfl, hb8⟩; replace hk := btz hk hb8))
    go_ret
    exact ⟨by rw [hpa]; rfl, hk⟩
end
section
open Go.RowKit Go.Shelf
theorem alo_maps {x : Ob} (h : aloO x = x) (hk : ¬ x.kind = 3) : x.maps = [] := by
 have e : (aloO x).maps = [] := by
  unfold aloO
  by_cases h1 : x.kind = 1
  ·rw [if_pos h1]
  rw [if_neg h1]
  by_cases h2 : x.kind = 2
  ·rw [if_pos h2]
  rw [if_neg h2, if_neg hk]
  by_cases h4 : x.kind = 4
  ·rw [if_pos h4]
  rw [if_neg h4]
  by_cases h5 : x.kind = 5
  ·rw [if_pos h5]
  rw [if_neg h5]
  by_cases h6 : x.kind = 6
  ·rw [if_pos h6]
  rw [if_neg h6]; rfl
 rw [h] at e; exact e
theorem w7z {x : Ob} (hs : q9z x = true) : Small x := by
 obtain ⟨hc, ho, hw⟩ := qqz.1 hs
 have ha := (wdz x).1 hw
 have hq := (qSz.1 hc).2.2.1
 refine yfz hs ⟨?_, ?_, ?_⟩
 ·by_cases k2 : x.kind = 2
  ·unfold ownB at ho
   rw [if_neg (by rw [k2]; decide), if_pos k2] at ho
   simp only [Bool.and_eq_true, decide_eq_true_eq] at ho
   omega
  ·rw [vMz hs k2]; decide
 ·by_cases k1 : x.kind = 1
  ·unfold ownB at ho
   rw [if_pos k1] at ho
   simp only [decide_eq_true_eq] at ho
   omega
  ·rw [alo_data ha k1]; decide
 ·by_cases k3 : x.kind = 3
  ·unfold ownB at ho
   rw [if_neg (by rw [k3]; decide), if_neg (by rw [k3]; decide), if_pos k3] at ho
   unfold PgM.Pg.fitB at ho
   simp only [Bool.and_eq_true, decide_eq_true_eq] at ho
   omega
  ·rw [alo_maps ha k3]; decide
end
section
theorem j3z {X : List Ob} {i : Int} {x : Ob} (h : fnd X i = some x) : fO X i = x := by unfold fO; rw [h]; rfl
section
variable {X : List Ob} {o d : Ob}
abbrev layY (X : List Ob) (d o : Ob) : List Ob := puR (puR X o) { d with links := insW d.links o.id }
theorem bdz (hs : Srt X) (hne : o.id ≠ d.id) (i : Int) : fnd (layY X d o) i = if i = d.id then some { d with links := insW d.links o.id } else if i = o.id then some o else fnd X i := by
 by_cases e : i = d.id
 ·rw [if_pos e, e]; exact yAz (x2z hs o) { d with links := insW d.links o.id }
 ·rw [if_neg e, x8z (x2z hs o) (o := { d with links := insW d.links o.id }) e]
  by_cases e2 : i = o.id
  ·rw [if_pos e2, e2]; exact yAz hs o
  ·rw [if_neg e2]; exact x8z hs e2
end
variable {X : List Ob}
theorem knz {ro : Int} (h : Tre X ro) : Lays X := by
 have hc := fun (x : Ob) (hx : x ∈ X) => qSz.1 (qqz.1 (h.snd x hx)).1
 refine ⟨h.srt, fun x hx => w7z (h.snd x hx), ?_, fun x hx => ⟨by have := (hc x hx).2.1; omega, (hc x hx).2.2.1⟩, fun x hx => ?_, fun x hx => ?_⟩
 ·rw [kxz]
  intro x hx e
  have h1 := (hc x hx).1
  rw [e] at h1
  exact absurd h1 (by decide)
 ·have := (qvz.1 (hc x hx).2.2.2.1).1
  omega
 ·by_cases k2 : x.kind = 2
  ·have ho := (qqz.1 (h.snd x hx)).2.1
   unfold ownB at ho
   rw [if_neg (by rw [k2]; decide), if_pos k2] at ho
   simp only [Bool.and_eq_true, decide_eq_true_eq] at ho
   refine ⟨?_, by omega⟩
   have h3 := ho.2.2
   unfold risB at h3
   exact of_decide_eq_true h3
  ·rw [vMz (h.snd x hx) k2]; exact ⟨List.Pairwise.nil, by decide⟩
theorem fO_id {i : Int} (h : (fnd X i).isSome = true) : (fO X i).id = i ∧ fO X i ∈ X ∧ fnd X i = some (fO X i) := by
 obtain ⟨x, hx⟩ := Option.isSome_iff_exists.1 h
 have := kiz hx
 rw [j3z hx]
 exact ⟨this.1, this.2, hx⟩
theorem att_zero {i : Int} {o : Ob} (h : attE X i o = 0) : (fnd X i).isSome = true ∧ (fO X i).kind = 2 ∧ fnd X o.id = none ∧ attX X i o = layY X (fO X i) o := by
 unfold attE at h
 by_cases h1 : (fnd X i).isSome = false
 ·rw [if_pos h1] at h; omega
 ·rw [if_neg h1] at h
  by_cases h2 : (fO X i).kind ≠ 2
  ·rw [if_pos h2] at h; omega
  ·rw [if_neg h2] at h
   by_cases h3 : (fnd X o.id).isSome = true
   ·rw [if_pos h3] at h; omega
   ·rw [if_neg h3] at h
    refine ⟨eq_true_of_ne_false h1, Classical.not_not.1 h2, Option.not_isSome_iff_eq_none.1 h3, ?_⟩
    unfold attX
    rw [if_neg h1, if_neg h2, if_neg h3]
    unfold layX
    rw [if_pos h]
end
section
open Go.RowKit Go.Shelf
def Wr (W : World) (V : Array Value) (t ke ro : Int) (X : List Ob) : Prop := ∃ ao n cap, V = #[.int .i64 t, .int .u64 ke, .int .u64 ro, .slice ao n cap] ∧ Obs W ao n cap X
section
variable {W W' : World} {V : Array Value} {t ke ro : Int} {X : List Ob}
theorem Wr.next (h : Wr W V t ke ro X) (k : Below W.heap.size W W') : Wr W' V t ke ro X := by
 obtain ⟨ao, n, cap, e, h⟩ := h
 exact ⟨ao, n, cap, e, qwz h k⟩
theorem Wr.size (h : Wr W V t ke ro X) : (prog.info? 25).map (·.size) = some V.size := by
 obtain ⟨ao, n, cap, rfl, _⟩ := h
 exact q0z
theorem Wr.one (h : Wr W V t ke ro X) : V.all (·.oneCell') = true := by
 obtain ⟨ao, n, cap, rfl, _⟩ := h
 kernel_rfl
theorem xbz (h : Wr W V t ke ro X) {i : Int} : Calls prog 14 #[.agg V, .int .u64 i] W fun e w' => ∃ C', e = .returned (.tuple #[.agg C', .bool (fnd X i).isSome]) ∧ ObD (LtN w') w' C' (fO X i) ∧ Below W.heap.size W w' := by
 obtain ⟨ao, n, cap, rfl, h⟩ := h
 exact rfind_u h
end
def spO (x : Ob) (a b : Int) : Ob := { x with th := { x.th with lo := a, hi := b } }
theorem kpz {x : Ob} (h : Small x) (a b : Int) : Small (spO x a b) := by
 obtain ⟨h1, h2, h3, h4, h5, h6, h7, h8, h9, h10, h11, h12, h13, h14⟩ := h
 exact ⟨h1, h2, h3, h4, h5, h6, h7, h8, h9, h10, h11, h12, h13, h14⟩
theorem jIz {X : List Ob} (hL : Lays X) {x : Ob} (hx : fnd X x.id = some x) (a b : Int) : Lays (puR X (spO x a b)) := by
 have hm := (kiz hx).2
 have hid : (spO x a b).id = x.id := rfl
 refine ⟨x2z hL.srt _, fun y hy => ?_, ?_, fun y hy => ?_, fun y hy => ?_, fun y hy => ?_⟩
 ·rcases xGz.1 hy with rfl | ⟨q, _⟩
  ·exact kpz (hL.sms x hm) a b
  ·exact hL.sms y q
 ·rw [x8z hL.srt]
  ·exact hL.nul
  ·rw [hid]
   intro e
   rw [← e, hL.nul] at hx
   cases hx
 ·rcases xGz.1 hy with rfl | ⟨q, _⟩
  ·exact hL.quo x hm
  ·exact hL.quo y q
 ·rcases xGz.1 hy with rfl | ⟨q, _⟩
  ·exact hL.lab x hm
  ·exact hL.lab y q
 ·rcases xGz.1 hy with rfl | ⟨q, _⟩
  ·exact hL.ris x hm
  ·exact hL.ris y q
theorem ufz {Z : Nat → Prop} {B : Nat} {w w' : World} {ao : Option Addr} {n cap : Nat} {X : List Ob} (h : ObsD (New w w') (fun b => Kx Z B w b ∨ New w w' b) w' ao n cap X) (k : w.heap.size ≤ w'.heap.size) (hB : B < w.heap.size) (hZ : ∀ b, Z b → b < w.heap.size) : ObsD (Kx Z B w') (Kx Z B w') w' ao n cap X :=
 have g : ∀ b, New w w' b → Kx Z B w' b := fun b hb => ⟨⟨hb.2, by have := hb.1; omega⟩, fun q => by have := hb.1; have := hZ b q; omega⟩
 h.wide (fun b hb => hb.elim (fun q => ⟨⟨ltz q.1.1 k, q.1.2⟩, q.2⟩) (g b)) g
end
section
open Go.RowKit Go.Shelf
attribute [local go_sem] Oper.semAt_some
theorem kkz (p : Addr) (x k : Int) (older : List PanicEntry) (w : World) (hc : w.cell? p = some (.int .i64 x)) (hz : w.frozen? p = false) :
  CallsD prog 84 #[.pointer (some p)] (.panicking ({ v := .iface 31 (.int .i64 k), recovered := false } :: older)) w fun e u' w' =>
   e = .returned (.tuple #[]) ∧ u' = .panicking ({ v := .iface 31 (.int .i64 k), recovered := true } :: older) ∧ w' = w.setCell p (.int .i64 k) := by
 refine callsD_of_wpS func84 rfl fun c₀ cs hu => ?_
 apply wpS_seq
 apply wpS_region
 simp [wpOpsS, go_sem, recoverD, hu, ntmps84, Exit.thenS, ta_hit]
 apply wpS_seq
 apply wpS_region
 simp [wpOpsS, go_sem, Exit.thenS]
 refine wpS_cond (t := true) (by simp [Act.eval, Array.replicate]) ?_
 simp only [if_true]
 apply wpS_region
 simp [wpOpsS, go_sem, hc, hz, bodyPostS, results, results84]
theorem ywz (p : Addr) (w : World) :
  CallsD prog 84 #[.pointer (some p)] .returning w fun e u' w' => e = .returned (.tuple #[]) ∧ u' = .returning ∧ w' = w := by
 refine callsD_of_wpS func84 rfl fun c₀ cs hu => ?_
 apply wpS_seq
 apply wpS_region
 simp [wpOpsS, go_sem, recoverD, hu, ntmps84, Exit.thenS, grz]
 apply wpS_seq
 apply wpS_region
 simp [wpOpsS, go_sem, Exit.thenS]
 refine wpS_cond (t := false) (by simp [Act.eval, Array.replicate]) ?_
 simp only [Bool.false_eq_true, if_false]
 refine wpS_of_wp (wp_skip ?_)
 cases c₀
 simp_all [bodyPostS, results, results84]
theorem res_te {fn : Func} {p q : Tmp} (h : fn.results = #[.tmp p, .cell q 31]) {tmps : Array Value} {w : World} {E : Nat} {v : Value} {k : Int} (hp : tmps.getD p undef = v) (hq : tmps.getD q undef = .pointer (some ⟨E, 0, none⟩)) (hE : w.cell? ⟨E, 0, none⟩ = some (.int .i64 k)) : (results fn tmps).run prog w = .ok (.tuple #[v, .int .i64 k]) w := by
 have h2 : (loadVar 31 ⟨E, 0, none⟩).run prog w = .ok (.int .i64 k) w := by
  have := isAgg31
  simp [go_sem, hE]
 have hp' : tmps[p]?.getD undef = v := by simpa using hp
 have hq' : tmps[q]?.getD undef = .pointer (some ⟨E, 0, none⟩) := by simpa using hq
 simp only [results, h]
 simp [Result.andThen, hp', hq', asAddr, h2]
theorem yXz {fn : Func} {p q r s : Tmp} (h : fn.results = #[.cell p 25, .tmp q, .tmp r, .tmp s]) {tmps : Array Value} {w : World} {O : Nat} {C : Array Value} {a b c : Value} (hp : tmps.getD p undef = .pointer (some ⟨O, 0, none⟩)) (hq : tmps.getD q undef = a) (hr : tmps.getD r undef = b) (hc : tmps.getD s undef = c) (hO : Blk w O C 25) (hs : C.size = 4) : (results fn tmps).run prog w = .ok (.tuple #[.agg C, a, b, c]) w := by
 have h1 := run_loadVar_mid (P := prog) w O 0 25 C.toList _ hO.range0 underlying25 rfl (by rw [Array.length_toList, hs]; kernel_rfl)
 rw [Array.toArray_toList] at h1
 have hp' : tmps[p]?.getD undef = .pointer (some ⟨O, 0, none⟩) := by simpa using hp
 have hq' : tmps[q]?.getD undef = a := by simpa using hq
 have hr' : tmps[r]?.getD undef = b := by simpa using hr
 have hc' : tmps[s]?.getD undef = c := by simpa using hc
 simp only [results, h]
 simp [Result.andThen, hp', hq', hr', hc', asAddr, h1]
theorem kerr {B : Nat} {w w1 : World} (k : Kt B (w.alloc (.cells #[.int .i64 0] 31)) w1) (hne : w.heap.size ≠ B) : w1.cell? ⟨w.heap.size, 0, none⟩ = some (.int .i64 0) ∧ w1.frozen? ⟨w.heap.size, 0, none⟩ = false := by
 have e := k.oth w.heap.size (by simp) hne
 refine ⟨(World.cell?_of_block (w := w.alloc (.cells #[.int .i64 0] 31)) (a := ⟨w.heap.size, 0, none⟩) e).trans (by simp), ?_⟩
 have h1 : (w.alloc (.cells #[.int .i64 0] 31)).frozen? ⟨w.heap.size, 0, none⟩ = false := by simp
 unfold World.frozen? at h1 ⊢
 rw [e]
 exact h1
def Ktl (OK NO : Prop) (v : Int) (x2 : Ob) (X2 : List Ob) (Z : Nat → Prop) (B : Nat) (T : TypeId) (t ke ro : Int) (ao : Option Addr) (n cap : Nat) (X : List Ob) (A : List Int) (W : World) (e : Ending) (w' : World) : Prop :=
 (OK ∧ e = .returned (.int .u64 v) ∧ (∃ F' ao2 n2 cap2, Kz Z w' B T F' x2 t ke ro ao2 n2 cap2 X2 A) ∧ Kt B W w') ∨ (NO ∧ (∃ k, k ≠ 0 ∧ e = .panicked (wfz k)) ∧ (∃ F' x', Kz Z w' B T F' x' t ke ro ao n cap X A) ∧ Kt B W w')
def Kend (OK NO : Prop) (v : Int) (X X2 : List Ob) (v' k : Int) (X3 : List Ob) : Prop := (OK ∧ v' = v ∧ k = 0 ∧ X3 = X2) ∨ (NO ∧ k ≠ 0 ∧ v' = 0 ∧ X3 = X)
theorem nil_no (f : Nat) (lb : Array Value) (W : World) : (binOp BinOp.eql 74 (.func (.func f) lb #[]) .nilFunc).run prog W = .ok (.bool false) W := by
 first
 | rfl
 | with_unfolding_all rfl
theorem nil_yes (W : World) : (binOp BinOp.eql 74 .nilFunc .nilFunc).run prog W = .ok (.bool true) W := by
 first
 | rfl
 | with_unfolding_all rfl
section
variable {Z : Nat → Prop} {w w' : World} {B : Nat} {T : TypeId} {F : Array Value} {x : Ob} {t ke ro : Int} {ao : Option Addr} {n cap : Nat} {X : List Ob} {A : List Int} {OK NO : Prop} {v : Int} {x2 : Ob} {X2 : List Ob}
theorem biz (f : Nat) (lb : Array Value) (ef : ∀ args w, (callFunc f args).run prog w = .ok (.enter f args) w) (h : Kz Z w B T F x t ke ro ao n cap X A)
  (hf : ∀ {Z : Nat → Prop} {W : World}, Kz Z W B T F x t ke ro ao n cap X A → Calls prog f lb W (Ktl OK NO v x2 X2 Z B T t ke ro ao n cap X A W)) :
  Calls prog 50 #[.func (.func f) lb #[]] w fun e w' => ∃ v' k x3 X3 ao3 n3 cap3 F3, e = .returned (.tuple #[.int .u64 v', .int .i64 k]) ∧ Kz Z w' B T F3 x3 t ke ro ao3 n3 cap3 X3 A ∧ Kt B w w' ∧ Kend OK NO v X X2 v' k X3 := by
 have hmf : ∀ (fn : Fn) (first cap : Array Value) (w : World), (Instr.makeFunc fn first cap).run prog w = .ok (.func fn first cap) w := fun _ _ _ _ => rfl
 have hBl := h.blk.lt
 have hE0 : Below w.heap.size w (w.alloc (.cells #[.int .i64 0] 31)) := (brz _ w).alloc (lrz _) _
 have hE := h.more (Q := w.heap.size) hE0 (by simp) (lrz _)
 have kE := Kt.of hE0 hBl
 have hcl := hf hE
 have hne : w.heap.size ≠ B := by omega
 clear hf h
 go_enter_defers func50, ntmps50
 go_wp2_with (go_at_fn f; refine hcl.mono ?_; rintro e w1 (⟨hO, rfl, ⟨F3, ao3, n3, cap3, hK⟩, hk1⟩ | ⟨hO, ⟨k, hk0, rfl⟩, ⟨F3, x3, hK⟩, hk1⟩) <;> (obtain ⟨hc1, hz1⟩ := kerr hk1 hne; try dsimp only [wfz]))
 ·refine leaves_cons (f := 84) (args := #[.pointer (some ⟨w.heap.size, 0, none⟩)]) (by simp) (by simp [go_sem]) ?_
  refine (ywz ⟨w.heap.size, 0, none⟩ _).mono ?_
  rintro e u' w'' ⟨rfl, rfl, rfl⟩
  have hcs : (w1.setCell ⟨w.heap.size, 0, none⟩ (.int .i64 0)).cell? ⟨w.heap.size, 0, none⟩ = some (.int .i64 0) := World.cell?_setCell_same' _ _ _ (by rw [hc1]; rfl)
  have oE := Oth.setCell w1 w.heap.size 0 (.int .i64 0)
  exact ⟨_, res_te results50 rfl rfl hcs, v, 0, x2, X2, ao3, n3, cap3, F3, rfl, (hK.oth oE (.inr rfl) hne).less fun b hb => .inl hb, (kE.trans hk1).put oE (lrz _) hBl, .inl ⟨hO, rfl, rfl, rfl⟩⟩
 ·refine leaves_cons (f := 84) (args := #[.pointer (some ⟨w.heap.size, 0, none⟩)]) (by simp) (by simp [go_sem]) ?_
  refine (kkz ⟨w.heap.size, 0, none⟩ 0 k [] _ hc1 hz1).mono ?_
  rintro e u' w'' ⟨rfl, rfl, rfl⟩
  have hcs : (w1.setCell ⟨w.heap.size, 0, none⟩ (.int .i64 k)).cell? ⟨w.heap.size, 0, none⟩ = some (.int .i64 k) := World.cell?_setCell_same' _ _ _ (by rw [hc1]; rfl)
  have oE := Oth.setCell w1 w.heap.size 0 (.int .i64 k)
  exact ⟨_, res_te results50 rfl rfl hcs, 0, k, x3, X, ao, n, cap, F3, rfl, (hK.oth oE (.inr rfl) hne).less fun b hb => .inl hb, (kE.trans hk1).put oE (lrz _) hBl, .inr ⟨hO, hk0, rfl, rfl⟩⟩
theorem bjz (f : Nat) (lb : Array Value) (ef : ∀ args w, (callFunc f args).run prog w = .ok (.enter f args) w) (h : Kz Z w B T F x t ke ro ao n cap X A)
  (hf : ∀ {Z : Nat → Prop} {W : World}, Kz Z W B T F x t ke ro ao n cap X A → Calls prog f lb W (Ktl OK NO v x2 X2 Z B T t ke ro ao n cap X A W)) :
  Calls prog 25 #[.pointer (some ⟨B, 0, none⟩), .func (.func f) lb #[]] w fun e w' => ∃ V v' k X3 ao3 n3 cap3, e = .returned (.tuple #[.agg V, .int .u64 v', .int .i64 k, .bool true]) ∧ V = #[.int .i64 t, .int .u64 ke, .int .u64 ro, .slice ao3 n3 cap3] ∧ ObsD (Kx Z B w') (Kx Z B w') w' ao3 n3 cap3 X3 ∧ Kt B w w' ∧ Kend OK NO v X X2 v' k X3 := by
 have hBl := h.blk.lt
 have hz2 : ∀ v, (prog.info? 25).map (·.size) = some (#[.int .i64 t, .int .u64 ke, .int .u64 ro, v] : Array Value).size := fun _ => q0z
 have hs2 : ∀ v, zW.size = (#[.int .i64 t, .int .u64 ke, .int .u64 ro, v] : Array Value).size := fun _ => rfl
 have h12 : ∀ ao n cap, (#[.int .i64 t, .int .u64 ke, .int .u64 ro, .slice ao n cap] : Array Value).all (·.oneCell') = true := fun _ _ _ => by kernel_rfl
 have hnil := nil_no f lb
 go_enter func25, ntmps25
 go_wp2_with (first
  | ((with_reducible refine qdz rfl 25 rfl zW wyz ?_); intro R W1 hN1 hR hk1; have hRw : w.heap.size = R := hN1.out.1; have h1 := h.more hk1 hR.lt (Nat.le_of_eq hRw); have kt := Kt.of hk1 hBl; clear hk1)
  | (go_at_call 50; (with_reducible refine (biz f lb ef h1 hf).mono ?_); rintro e w2 ⟨v', k, x3, X3, ao3, n3, cap3, F3, rfl, hK, hk2, hE⟩; have hRg := hK.blk.range 51 4; rw [hK.wld] at hRg; have hR2 : Blk w2 R zW 25 := (hk2.oth R hR.lt (by omega)).trans hR)
  | (with_reducible refine qxz (by kernel_rfl) 25 _ rfl B _ rfl #[.int .i64 t, .int .u64 ke, .int .u64 ro, .slice ao3 n3 cap3] hRg _ underlying25 (by kernel_rfl) (hz2 _) ?_)
  | ((with_reducible refine qbz rfl _ _ _ rfl R rfl #[.int .i64 t, .int .u64 ke, .int .u64 ro, .slice ao3 n3 cap3] rfl zW hR2 (hz2 _) (hs2 _) (h12 _ _ _) ?_); intro W5 hR5 q5))
 have hKo := (hK.oth q5 (.inr rfl) (by omega)).less (Z' := Z) fun b hb => .inl hb
 exact bodyPost_ret (v := .tuple #[.agg #[.int .i64 t, .int .u64 ke, .int .u64 ro, .slice ao3 n3 cap3], .int .u64 v', .int .i64 k, .bool true]) (yXz results25 rfl rfl rfl rfl hR5 rfl) rfl ⟨_, v', k, X3, ao3, n3, cap3, rfl, rfl, hKo.obs, (kt.trans hk2).put q5 (by omega) hBl, hE⟩
theorem bkz (h : Kz Z w B T F x t ke ro ao n cap X A) :
  Calls prog 25 #[.pointer (some ⟨B, 0, none⟩), .nilFunc] w fun e w' => ∃ V, e = .returned (.tuple #[.agg V, .int .u64 0, .int .i64 0, .bool false]) ∧ V.size = 4 ∧ V.all (·.oneCell') = true ∧ Kt B w w' := by
 have hBl := h.blk.lt
 have hz2 : ∀ v, (prog.info? 25).map (·.size) = some (#[.int .i64 t, .int .u64 ke, .int .u64 ro, v] : Array Value).size := fun _ => q0z
 have hs2 : ∀ v, zW.size = (#[.int .i64 t, .int .u64 ke, .int .u64 ro, v] : Array Value).size := fun _ => rfl
 have h12 : ∀ ao n cap, (#[.int .i64 t, .int .u64 ke, .int .u64 ro, .slice ao n cap] : Array Value).all (·.oneCell') = true := fun _ _ _ => by kernel_rfl
 have hnil := nil_yes
 go_enter func25, ntmps25
 go_wp2_with (first
  | ((with_reducible refine qdz rfl 25 rfl zW wyz ?_); intro R W1 hN1 hR hk1; have hRw : w.heap.size = R := hN1.out.1; have hK := h.next hk1; have kt := Kt.of hk1 hBl; have hRg := hK.blk.range 51 4; rw [hK.wld] at hRg; clear hk1)
  | (with_reducible refine qxz (by kernel_rfl) 25 _ rfl B _ rfl #[.int .i64 t, .int .u64 ke, .int .u64 ro, .slice ao n cap] hRg _ underlying25 (by kernel_rfl) (hz2 _) ?_)
  | ((with_reducible refine qbz rfl _ _ _ rfl R rfl #[.int .i64 t, .int .u64 ke, .int .u64 ro, .slice ao n cap] rfl zW hR (hz2 _) (hs2 _) (h12 _ _ _) ?_); intro W5 hR5 q5))
 exact bodyPost_ret (v := .tuple #[.agg #[.int .i64 t, .int .u64 ke, .int .u64 ro, .slice ao n cap], .int .u64 0, .int .i64 0, .bool false]) (yXz results25 rfl rfl rfl rfl hR5 rfl) rfl ⟨_, rfl, rfl, Array.all_eq_true.1 (h12 ao n cap), kt.put q5 (by omega) hBl⟩
end
theorem kcall_16 (p : Value) (w : World) : Calls prog 26 #[p, .int .i64 16] w fun e w' => e = .returned (.func (.func 54) #[p] #[]) ∧ w = w' := by
 have hmf : ∀ (fn : Fn) (first cap : Array Value) (w : World), (Instr.makeFunc fn first cap).run prog w = .ok (.func fn first cap) w := fun _ _ _ _ => rfl
 go_enter func26, ntmps26
 go_wp2
 go_ret
 exact ⟨rfl, rfl⟩
theorem kcall_13 (p : Value) (w : World) : Calls prog 26 #[p, .int .i64 13] w fun e w' => e = .returned (.func (.func 51) #[p] #[]) ∧ w = w' := by
 have hmf : ∀ (fn : Fn) (first cap : Array Value) (w : World), (Instr.makeFunc fn first cap).run prog w = .ok (.func fn first cap) w := fun _ _ _ _ => rfl
 go_enter func26, ntmps26
 go_wp2
 go_ret
 exact ⟨rfl, rfl⟩
theorem kcall_99 (p : Value) (w : World) : Calls prog 26 #[p, .int .i64 99] w fun e w' => e = .returned .nilFunc ∧ w = w' := by
 go_enter func26, ntmps26
 go_wp2
 go_ret
 exact ⟨rfl, rfl⟩
end
section
open Go.ChangeShapes Go.WideShapes Go.ChangeAt Go.RowKit
def symb (P : Program) (ops : Array Oper) (g : Option Value) (o : Oper) (a : Act) : Option (Value × List Obl) :=
 if Region.wanted o (yielded ops a.tmps) then
  match o.op with
  | .build t ps => (P.built t (ps.map fun (i, x) => (i, a.eval x)).toList).map fun c => (.agg c, [])
  | _ => symn P ops g o a
 else some (undef, [])
theorem ybz {P : Program} {ops : Array Oper} {S : World → Prop} {g : Option Value} {o : Oper} {a : Act} {v : Value} {obs : List Obl} (h : symb P ops g o a = some (v, obs)) (k : Obls P S obs) : YieldsIf P ops S o v a := by
 unfold symb at h
 split at h
 ·rename_i hw
  split at h
  ·rename_i t ps ho
   refine .inl ⟨hw, fun w hS => ?_⟩
   cases hb : P.built t (ps.map fun (i, x) => (i, a.eval x)).toList with
   | none => rw [hb] at h; cases h
   | some c =>
    rw [hb] at h
    cases h
    unfold execOp
    simp only [ho, Sem.run_bind, run_build w t _ c hb, Result.andThen_ok]
    rfl
  ·exact wUz h k
 ·rename_i hw; cases h; exact .inr ⟨by simpa using hw, rfl⟩
def w2z (P : Program) (md : Region.Mode) (ops : Array Oper) (Q : Exit → Act → World → Prop) (S : World → Prop) (z : Nat) : Nat → Array Bool → Act → World → Prop
 | 0, listed, a, w => Region.ready md ops listed = [] ∧ Q .normal a w
 | fuel + 1, listed, a, w =>
  (Region.ready md ops listed = [] → Q .normal a w) ∧
  ∀ i ∈ Region.ready md ops listed, wpOp P ops Q i (fun a' w' => ((listed.setIfInBounds i true).getD z true = false → S w') ∧ w2z P md ops Q S z fuel (listed.setIfInBounds i true) a' w') a w
section
variable {P : Program} {ops : Array Oper} {Q : Exit → Act → World → Prop} {md : Region.Mode} {S : World → Prop} {z : Nat}
theorem jhz : ∀ (fuel : Nat) (listed : Array Bool) (a : Act) (w : World), w2z P md ops Q S z fuel listed a w → wpAny P md ops Q fuel listed a w
 | 0, _, _, _, h => h
 | fuel + 1, _, _, _, h => ⟨h.1, fun i hi => wpOp_mono (fun a' w' h' => jhz fuel _ a' w' h'.2) (h.2 i hi)⟩
theorem vfz {i : Nat} {oi : Oper} {v : Value} {ch : List Nat} (hi : ops[i]? = some oi) (hsel : ∀ (j : Nat) (o : Oper) cs b, ops[j]? = some o → o.op ≠ .select cs b)
  (hQ : ∀ c a w, Q (.panic c) (a.put oi.dst v) w → Q (.panic c) a w) (hch : chK md ops i ch = true) (hz : z ∈ ch) (hiz : i ≠ z) :
  ∀ (fuel : Nat) (listed : Array Bool) (a : Act) (w : World),
   (∀ j oj, ops[j]? = some oj → j ≠ i → listed.getD j true = false → (∀ e ∈ oj.after, Region.binds md e = true → e.on ≠ i) → oi.apart ops oj = true) →
   (∀ k ∈ ch, listed.getD k true = false) →
   i ∈ Region.ready md ops listed → YieldsIf P ops S oi v a → S w →
   w2z P md ops Q S z fuel (listed.setIfInBounds i true) (a.put oi.dst v) w → w2z P md ops Q S z (fuel + 1) listed a w := by
 intro fuel
 induction fuel with
 | zero =>
  intro listed a w _ _ hr hy hS H
  refine ⟨fun h => (by rw [h] at hr; cases hr), fun j hj => ?_⟩
  by_cases hji : j = i
  ·subst hji; exact hy.wpOp hi hS ⟨fun _ => hS, H⟩
  ·have := ready_mono hj hji
   rw [H.1] at this
   cases this
 | succ fuel ih =>
  intro listed a w hfree hun hr hy hS H
  refine ⟨fun h => (by rw [h] at hr; cases hr), fun j hj => ?_⟩
  by_cases hji : j = i
  ·subst hji; exact hy.wpOp hi hS ⟨fun _ => hS, H⟩
  ·have hjc : j ∉ ch := yGz hj ch i (mem_ready.1 hr).1 hun hch
   have hjz : j ≠ z := fun e => hjc (e ▸ hz)
   have h1 := H.2 j (ready_mono hj hji)
   obtain ⟨hjun, oj, hoj, hall⟩ := mem_ready.1 hj
   have hnot : ∀ e ∈ oj.after, Region.binds md e = true → e.on ≠ i := fun e he hb heq => by
    have h1 := hall e he hb
    have h0 := (mem_ready.1 hr).1
    rw [heq] at h1
    rcases Nat.lt_or_ge i listed.size with h' | h'
    ·simp [h'] at h0 h1; rw [h0] at h1; cases h1
    ·simp [Array.getElem?_eq_none h'] at h1
   have h2 := wpOp_putIf hoj (hfree j oj hoj hji hjun hnot) (fun cs b => hsel i oi cs b hi) (fun cs b => hsel j oj cs b hoj) hQ hy h1
   have hset : ∀ k, (listed.setIfInBounds j true).getD k true = false → listed.getD k true = false := fun k hun => by
    by_cases hjk : j = k
    ·subst hjk; exact hjun
    ·rw [getD_set_ne true hjk] at hun; exact hun
   have hfree' : ∀ k ok, ops[k]? = some ok → k ≠ i → (listed.setIfInBounds j true).getD k true = false →
     (∀ e ∈ ok.after, Region.binds md e = true → e.on ≠ i) → oi.apart ops ok = true := fun k ok hk hki hun hno => hfree k ok hk hki (hset k hun) hno
   have hun' : ∀ k ∈ ch, (listed.setIfInBounds j true).getD k true = false := fun k hk => by
    have : j ≠ k := fun e => hjc (e ▸ hk)
    rw [getD_set_ne true this]
    exact hun k hk
   have hzl : ((listed.setIfInBounds i true).setIfInBounds j true).getD z true = false := by rw [getD_set_ne true hjz, getD_set_ne true hiz]; exact hun z hz
   refine wpOp_mono (fun a' w' h3 => ⟨fun _ => h3.2.1 hzl, ih (listed.setIfInBounds j true) a' w' hfree' hun' (ready_mono hr (Ne.symm hji)) h3.1 (h3.2.1 hzl) ?_⟩) h2
   rw [Array.setIfInBounds_comm _ _ hji]
   exact h3.2.2
def symM (P : Program) (md : Region.Mode) (ops : Array Oper) (z : Nat) : List (Nat × Option Value × List Nat) → Array Bool → Act → Option (Array Bool × Act × List Obl)
 | [], l, a => some (l, a, [])
 | (i, g, ch) :: gs, l, a =>
  match ops[i]? with
  | none => none
  | some o =>
   if (Region.free md ops l i && (Region.ready md ops l).contains i && chK md ops i (ch ++ [z]) && ((ch ++ [z]).all fun k => !(l.getD k true)) && !(i == z)) = true then
    match symb P ops g o a with
    | none => none
    | some (v, obs) =>
     match symM P md ops z gs (l.setIfInBounds i true) (a.put o.dst v) with
     | none => none
     | some (l', a', obs') => some (l', a', obs ++ obs')
   else none
theorem wlz {w : World} (hs : Region.noSelect ops = true) (hQ : ∀ c a d v w, Q (.panic c) (Act.put a (some d) v) w → Q (.panic c) a w) (hS : S w) : ∀ (gs : List (Nat × Option Value × List Nat)) {l l' : Array Bool} {a a' : Act} {obs : List Obl} {n m : Nat}, m = n + gs.length → symM P md ops z gs l a = some (l', a', obs) → Obls P S obs → w2z P md ops Q S z n l' a' w → w2z P md ops Q S z m l a w
 | [], l, l', a, a', obs, n, m, hm, h, k, q => by cases h; subst hm; exact q
 | (i, g, ch) :: gs, l, l', a, a', obs, n, m, hm, h, k, q => by
  subst hm
  unfold symM at h
  split at h
  ·cases h
  ·rename_i o ho
   split at h
   ·rename_i hf
    rw [Bool.and_eq_true, Bool.and_eq_true, Bool.and_eq_true, Bool.and_eq_true, List.all_eq_true] at hf
    obtain ⟨hf, hiz⟩ := hf
    have hiz : i ≠ z := by simpa using hiz
    split at h
    ·cases h
    ·rename_i v obs1 hv
     split at h
     ·cases h
     ·rename_i l2 a2 obs2 h2
      cases h
      obtain ⟨k1, k2⟩ := Obls.app k
      exact vfz ho (Region.noSelect_spec hs) (fun c a w h => putQ hQ h) hf.1.2 (by simp) hiz _ l a w (Region.free_spec ho hf.1.1.1) (fun k hk => by simpa using hf.2 k hk) (by simpa using hf.1.1.2) (ybz hv k1) hS (wlz hs hQ hS gs rfl h2 k2 q)
   ·cases h
theorem xAz {listed : Array Bool} {a : Act} {w : World} (hr : Region.ready md ops listed = []) (h : Q .normal a w) :
  ∀ fuel, w2z P md ops Q S z fuel listed a w
 | 0 => ⟨hr, h⟩
 | _ + 1 => ⟨fun _ => h, by rw [hr]; simp⟩
theorem wSz {w : World} {l : Array Bool} {a : Act} {i n m : Nat} (hm : m = n + 1) (hr : Region.ready md ops l = [i]) (h : wpOp P ops Q i (fun a' w' => ((l.setIfInBounds i true).getD z true = false → S w') ∧ w2z P md ops Q S z n (l.setIfInBounds i true) a' w') a w) : w2z P md ops Q S z m l a w := by
 subst hm
 refine ⟨fun h0 => (by rw [hr] at h0; cases h0), fun k hk => ?_⟩
 rw [hr] at hk
 obtain rfl : k = i := by simpa using hk
 exact h
theorem wmz {w : World} {l : Array Bool} {a : Act} {i n m : Nat} (hm : m = n + 1) (hr : Region.ready md ops l = [i]) (hz : (l.setIfInBounds i true).getD z true = true) (h : wpOp P ops Q i (fun a' w' => w2z P md ops Q S z n (l.setIfInBounds i true) a' w') a w) : w2z P md ops Q S z m l a w :=
 wSz hm hr (wpOp_mono (fun a' w' h3 => ⟨fun q => (by rw [hz] at q; cases q), h3⟩) h)
theorem vdz {w : World} {a : Act} {i : Nat} {d : Option Tmp} {v : Value} {K : Act → World → Prop} (hi : (ops[i]?).bind (fun o => (symn P ops none o a).map fun r => (o.dst, r)) = some (d, v, [])) (h : K (a.put d v) w) : wpOp P ops Q i K a w := by
 cases ho : ops[i]? with
 | none => rw [ho] at hi; cases hi
 | some o =>
  rw [ho] at hi
  cases hs : symn P ops none o a with
  | none => simp [hs] at hi
  | some r =>
   simp [hs] at hi
   obtain ⟨rfl, rfl⟩ := hi
   exact (wUz (S := fun _ => True) hs trivial).wpOp ho trivial h
theorem xMz {id : Nat} {a : Act} {w : World} (z : Nat) (hm : P.follows .mixedOrders = true)
  (hS : S w.drew) (h : S w.drew → w2z P .any ops Q S z ops.size (Array.replicate ops.size false) a w.drew) : (Code.region id ops true).wp P Q a w :=
 wp_region_any hm (jhz _ _ _ _ (h hS))
end
end
section
open Go.RowKit Go.Shelf
attribute [local go_sem] Oper.semAt_some
def zK : Array Value := zC ++ #[.int .i64 0, .int .u64 0, .int .u64 0, .slice none 0 0, .int .u64 0, .int .u64 0, .int .u64 0, .int .u64 0, .int .u64 0, .int .u64 0, .int .u64 0]
theorem wkz : zK.size = 62 := by kernel_rfl
theorem zeroK (w : World) : (zeroValue 69).run prog w = .ok (.agg zK) w := by kernel_rfl
theorem zeroKo (w : World) : (zeroValue 72).run prog w = .ok (.agg zK) w := by kernel_rfl
variable {F : Array Value}
theorem sizeK (h : F.size = 62) : (prog.info? 69).map (·.size) = some F.size := by rw [h]; kernel_rfl
theorem sizeKo (h : F.size = 62) : (prog.info? 72).map (·.size) = some F.size := by rw [h]; kernel_rfl
def argV (A : List Int) : Array Value := #[.int .u64 (A.getD 0 0), .int .u64 (A.getD 1 0), .int .u64 (A.getD 2 0), .int .u64 (A.getD 3 0), .int .u64 (A.getD 4 0), .int .u64 (A.getD 5 0), .int .u64 (A.getD 6 0)]
theorem arg_at (A : List Int) {i : Nat} (hi : i < 7) : (argV A)[i]? = some (.int .u64 (A.getD i 0)) := by
 match i, hi with
 | 0, _ => rfl
 | 1, _ => rfl
 | 2, _ => rfl
 | 3, _ => rfl
 | 4, _ => rfl
 | 5, _ => rfl
 | 6, _ => rfl
 | j + 7, q => exact absurd q (by omega)
theorem yIz (parts : List (Nat × Value)) : prog.built 69 parts = Instr.fill (fun i => (#[(0, 51), (51, 4), (55, 7)] : Array (Nat × Nat))[i]?) zK parts := by kernel_rfl
theorem v0z (parts : List (Nat × Value)) : prog.built 72 parts = Instr.fill (fun i => (#[(0, 62)] : Array (Nat × Nat))[i]?) zK parts := by kernel_rfl
theorem built_k {C G A : Array Value} (hC : C.size = 51) (hG : G.size = 4) (hA : A.size = 7) : ∃ F, prog.built 69 [(0, .agg C), (1, .agg G), (2, .agg A)] = some F ∧ F.size = 62 ∧ (∀ i, i < 51 → F[i]? = C[i]?) ∧ (∀ i, i < 4 → F[51 + i]? = G[i]?) ∧ ∀ i, i < 7 → F[55 + i]? = A[i]? := by
 rw [yIz]
 obtain ⟨a1, a2⟩ := wZz 0 C.toList 0 zK (by rw [wkz]; simp [hC])
 obtain ⟨b1, b2⟩ := wZz 51 G.toList 0 ((C.toList.zipIdx 0).foldl (fun (c : Array Value) (p : Value × Nat) => c.setIfInBounds (0 + p.2) p.1) zK) (by rw [a1, wkz]; simp [hG])
 obtain ⟨c1, c2⟩ := wZz 55 A.toList 0 ((G.toList.zipIdx 0).foldl (fun (c : Array Value) (p : Value × Nat) => c.setIfInBounds (51 + p.2) p.1) ((C.toList.zipIdx 0).foldl (fun (c : Array Value) (p : Value × Nat) => c.setIfInBounds (0 + p.2) p.1) zK)) (by rw [b1, a1, wkz]; simp [hA])
 refine ⟨_, ?_, c1.trans (b1.trans (a1.trans wkz)), fun i hi => ?_, fun i hi => ?_, fun i hi => ?_⟩
 ·rw [wQz (o := 0) (n := 51) rfl hC (by rw [wkz, hC]; decide), wQz (o := 51) (n := 4) rfl hG (by rw [a1, wkz, hG]; decide), wQz (o := 55) (n := 7) rfl hA (by rw [b1, a1, wkz, hA]; decide)]
  rfl
 ·rw [c2 i, if_neg (by omega), b2 i, if_neg (by omega), a2 i, if_pos (by simp [hC]; omega)]
  simp
 ·rw [c2 (51 + i), if_neg (by omega), b2 (51 + i), if_pos (by simp [hG]; omega)]
  simp
 ·rw [c2 (55 + i), if_pos (by simp [hA]; omega)]
  simp
theorem uyz (hF : F.size = 62) : prog.built 72 [(0, .agg F)] = some F := by
 rw [v0z]
 obtain ⟨a1, a2⟩ := wZz 0 F.toList 0 zK (by rw [wkz]; simp [hF])
 rw [wQz (o := 0) (n := 62) rfl hF (by rw [wkz, hF]; decide)]
 have e : ((F.toList.zipIdx 0).foldl (fun (c : Array Value) (p : Value × Nat) => c.setIfInBounds (0 + p.2) p.1) zK) = F := by
  apply Array.ext_getElem?
  intro i
  by_cases hi : i < 62
  ·rw [a2 i, if_pos (by simp [hF]; omega)]
   simp
  ·rw [Array.getElem?_eq_none (by rw [a1, wkz]; omega), Array.getElem?_eq_none (by omega)]
 rw [e]
 rfl
theorem k_parts {C G A F : Array Value} (hC : C.size = 51) (hG : G.size = 4) (hA : A.size = 7) (h1 : F.size = 62) (h2 : ∀ i, i < 51 → F[i]? = C[i]?) (h3 : ∀ i, i < 4 → F[51 + i]? = G[i]?) (h4 : ∀ i, i < 7 → F[55 + i]? = A[i]?) (oC : C.all (·.oneCell') = true) (oG : G.all (·.oneCell') = true) (oA : A.all (·.oneCell') = true) : F.all (·.oneCell') = true ∧ F.extract 0 51 = C ∧ F.extract 51 (51 + 4) = G := by
 refine ⟨?_, ?_, ?_⟩
 ·apply w1z
  intro j v e
  by_cases hj : j < 51
  ·rw [h2 j hj] at e
   exact wqz oC e
  ·have hl : j < 62 := by rw [← h1]; exact (Array.getElem?_eq_some_iff.1 e).1
   by_cases hj2 : j < 55
   ·obtain ⟨m, rfl⟩ : ∃ m, j = 51 + m := ⟨j - 51, by omega⟩
    rw [h3 m (by omega)] at e
    exact wqz oG e
   ·obtain ⟨m, rfl⟩ : ∃ m, j = 55 + m := ⟨j - 55, by omega⟩
    rw [h4 m (by omega)] at e
    exact wqz oA e
 ·apply Array.ext_getElem?
  intro i
  by_cases hi : i < 51
  ·rw [kXz h1 hi, h2 i hi]
  ·rw [Array.getElem?_eq_none (by simp; omega), Array.getElem?_eq_none (by omega)]
 ·apply Array.ext_getElem?
  intro i
  by_cases hi : i < 4
  ·rw [q1z (by omega) hi, h3 i hi]
  ·rw [Array.getElem?_eq_none (by simp; omega), Array.getElem?_eq_none (by omega)]
theorem res_k {fn : Func} {p : Tmp} (h : fn.results = #[.cell p 69]) {tmps : Array Value} {w : World} {B : Nat} {C : Array Value} (hp : tmps.getD p undef = .pointer (some ⟨B, 0, none⟩)) (hB : Blk w B C 69) (hs : C.size = 62) : (results fn tmps).run prog w = .ok (.agg C) w :=
 results_cell_row h tmps w B 69 C (0, 0) _ hp hB underlying69 rfl (sizeK hs)
def yJz (ops : Array Oper) (o : Oper) (a : Act) : Option (TypeId × List (Nat × Value) × Option Tmp) :=
 if Region.wanted o (yielded ops a.tmps) then
  match o.op with
  | .build t parts => some (t, (parts.map fun (i, x) => (i, a.eval x)).toList, o.dst)
  | _ => none
 else none
theorem v4z {ops : Array Oper} {Q : Exit → Act → World → Prop} {w : World} {a : Act} {i : Nat} {ty : TypeId} {vs : List (Nat × Value)} {d : Option Tmp} {K : Act → World → Prop} (hi : (ops[i]?).bind (fun o => yJz ops o a) = some (ty, vs, d)) (hf : prog.built ty vs = some F) (h : K (a.put d (.agg F)) w) : wpOp prog ops Q i K a w := by
 cases ho : ops[i]? with
 | none => rw [ho] at hi; cases hi
 | some o =>
  rw [ho] at hi
  have hi' : yJz ops o a = _ := hi
  unfold yJz at hi'
  split at hi'
  ·rename_i hw
   split at hi'
   ·rename_i t parts hop
    cases hi'
    unfold wpOp
    simp only [ho, hw, if_true]
    left
    exact wp_build ty parts hop (by rw [hf]; rfl) (by rw [hf]; exact h)
   ·cases hi'
  ·cases hi'
section
variable {w : World} {t ke ro i : Int} {ao : Option Addr} {n cap : Nat} {X : List Ob} {A : List Int}
theorem knew_v {D0 : Nat → Prop} (hD : ∀ b, D0 b → b < w.heap.size) (h : ObsD D0 D0 w ao n cap X) (hs : Srt X) (hn : n < 1024) (hsm : q3z X) (h0 : fnd X 0 = none) : Calls prog 24 #[.agg #[.int .i64 t, .int .u64 ke, .int .u64 ro, .slice ao n cap], .int .u64 i, .agg (argV A)] w fun e w' => ∃ F ao2 n2 cap2, e = .returned (.agg F) ∧ (F.size = 62 ∧ F.all (·.oneCell') = true ∧ F.extract 51 (51 + 4) = #[.int .i64 t, .int .u64 ke, .int .u64 ro, .slice ao2 n2 cap2] ∧ ∀ j, j < 7 → F[55 + j]? = some (.int .u64 (A.getD j 0))) ∧ ObD (fun b => D0 b ∨ New w w' b) w' (F.extract 0 51) (fO X i) ∧ ObsD (fun b => D0 b ∨ New w w' b) (fun b => D0 b ∨ New w w' b) w' ao2 n2 cap2 X ∧ Below w.heap.size w w' := by
 have hmx : prog.follows .mixedOrders = true := by kernel_rfl
 have hO : ∀ {W : World}, Below w.heap.size w W → ObsD D0 D0 W ao n cap X := fun hk => h.laterK (fun b hb => hk.block b (hD b hb)) fun b hb => hk.block b (hD b hb)
 have hfd := fun {W : World} (hk : Below w.heap.size w W) => bDz (t := t) (ke := ke) (ro := ro) (i := i) ((hO hk).wide (fun b hb => ltz (hD b hb) hk.size) fun b hb => ltz (hD b hb) hk.size) hs (by omega) hsm
 have hdr := fun {W : World} (hk : Below w.heap.size w W) => drop_w (t := t) (ke := ke) (ro := ro) (i := 0) (D0 := D0) (fun b hb => ltz (hD b hb) hk.size) ((hO hk).wide (fun b hb => hb) fun b hb => ltz (hD b hb) hk.size) hs hn hsm
 simp only [uuz hs h0] at hdr
 obtain ⟨bf, hbf⟩ : ∃ b, Hid ((fnd X i).isSome = b) := ⟨_, rfl⟩
 simp only [hbf.out] at hfd
 have hzg : ∀ v, (prog.info? 25).map (·.size) = some (#[.int .i64 t, .int .u64 ke, .int .u64 ro, v] : Array Value).size := fun _ => q0z
 have oG : ∀ ao n cap, (#[.int .i64 t, .int .u64 ke, .int .u64 ro, .slice ao n cap] : Array Value).all (·.oneCell') = true := fun _ _ _ => by kernel_rfl
 obtain ⟨V, hV⟩ : ∃ V : Array Value, Hid (#[.int .i64 t, .int .u64 ke, .int .u64 ro, .slice ao n cap] = V) := ⟨_, rfl⟩
 have zV : (prog.info? 25).map (·.size) = some V.size := by rw [← hV.out]; exact hzg _
 obtain ⟨AA, hA⟩ : ∃ AA : Array Value, Hid (argV A = AA) := ⟨_, rfl⟩
 have zA7 : AA.size = 7 := by rw [← hA.out]; rfl
 have oA : AA.all (·.oneCell') = true := by rw [← hA.out]; kernel_rfl
 have zA : (prog.info? 27).map (·.size) = some AA.size := by rw [zA7]; kernel_rfl
 have aA : ∀ j, j < 7 → AA[j]? = some (.int .u64 (A.getD j 0)) := fun j hj => by rw [← hA.out]; exact arg_at A hj
 rw [hA.out]
 simp only [hV.out] at hfd hdr ⊢
 have hk := brz w.heap.size w
 clear hsm hs h0 hn h
 go_enter func24, ntmps24
 go_upto_region 2 with (first
  | go_skip
  | (with_reducible refine qcz rfl 25 _ rfl V rfl ?_; intro P W0 hN0 hP hk0; replace hk := btz hk hk0; clear hk0)
  | (with_reducible refine qcz rfl 27 _ rfl AA rfl ?_; intro Q W1 hN1 hQ hk1; replace hP := hP.next hk1; replace hk := btz hk hk1; clear hk1)
  | ((with_reducible refine qdz rfl 69 rfl zK zeroK ?_); intro R W2 hN2 hR hk2; replace hP := hP.next hk2; replace hQ := hQ.next hk2; have hRg := hk.size; have hRw := hN2.out.1; replace hk := btz hk hk2; clear hk2)
  | (with_reducible refine qhz (by kernel_rfl) 25 _ rfl P rfl V hP _ underlying25 (by kernel_rfl) zV ?_)
  | (go_at_call 48; (with_reducible refine (hfd hk).mono ?_); rintro e w3 ⟨C, rfl, oC, hb3, _⟩; replace hP := hP.next hb3; replace hQ := hQ.next hb3; replace hR := hR.next hb3; have hk2 := hk; replace hk := btz hk hb3; have zC1 := oC.size; have oC1 := oC.one)
  | ((with_reducible refine qdz rfl 55 rfl zC qsz ?_); intro O W4 hN4 hO4 hk4; replace hP := hP.next hk4; replace hQ := hQ.next hk4; replace hR := hR.next hk4; have hOw := hN4.out.1; have hOg := hk.size; replace hk := btz hk hk4; have oC4 := oC.laterK (w' := W4) fun b hb => hk4.block b hb.2)
  | ((with_reducible refine qbz rfl _ _ _ rfl O rfl C rfl zC hO4 (qfz zC1) (qoz.trans zC1.symm) oC1 ?_); intro W5 hO5 q5; have hR4 := hR.lt; have hR3 : R < w3.heap.size := (by have := hb3.size; have := hN2.out.2; omega); replace hP := hP.other q5 (by have := hP.lt; have := hN0.out; have := hN2.out; omega); replace hQ := hQ.other q5 (by have := hN1.out; have := hN2.out; omega); replace hR := hR.other q5 (by omega)))
 replace hk : Below w.heap.size w W5 := q5.below _ _ (by omega) hk
 have oC5 : ObD (New W2 w3) W5 C (fO X i) := oC4.laterK fun b hb => q5.block b (by have := hb.2; omega)
 have h25 : W2.heap.size ≤ w3.heap.size := hb3.size
 have h35 : w3.heap.size ≤ W5.heap.size := by have := hk4.size; have := q5.size; omega
 have hkz := brz W5.heap.size W5
 have hdr5 := fun {W : World} (k : Below W5.heap.size W5 W) => hdr (btz hk k)
 refine jPz (S := fun W => Blk W O C 55 ∧ Blk W P V 25 ∧ Blk W Q AA 27 ∧ Blk W R zK 69 ∧ Below W5.heap.size W5 W) 5 hmx (⟨hO5.next (brz _ _).drew, hP.next (brz _ _).drew, hQ.next (brz _ _).drew, hR.next (brz _ _).drew, hkz.trans ((brz _ _).drew.mono hkz.size)⟩) (fun hS2 => ?_)
 generalize W5.drew = v2 at hS2 ⊢
 refine wAz (by kernel_rfl) (fun _ _ _ _ _ h => h) hS2 [(0, some (.agg C), []), (1, some (.agg V), []), (3, some (.agg AA), [])] (l' := #[tt, tt, ff, tt, ff, ff]) (a' := { tmps := #[.agg V, .int .u64 i, .agg AA, .pointer (some ⟨P, 0, none⟩), undef, .pointer (some ⟨Q, 0, none⟩), .pointer (some ⟨R, 0, none⟩), .pointer (some ⟨O, 0, none⟩), .bool bf, .tuple #[.agg C, .bool bf], .agg V, .int .u64 i, .tuple #[.agg C, .bool bf], .agg C, .bool bf, .agg C, .agg V, undef, .agg AA, undef], defers := [] }) (obs := [.load 55 O 0 (.agg C), .load 25 P 0 (.agg V), .load 27 Q 0 (.agg AA)]) (n := 3) (by kernel_rfl) (by kernel_rfl) ⟨qBz (fun W hS => hS.1) underlying55 rfl (qfz zC1), qBz (fun W hS => hS.2.1) underlying25 rfl zV, qBz (fun W hS => hS.2.2.1) underlying27 rfl zA, trivial⟩ ?_
 refine qUz (i := 2) (n := 2) rfl (by kernel_rfl) ?_
 refine quz (f := 49) (vs := [.agg V, .int .u64 0]) (d := some 17) (by kernel_rfl) call49 (hdr5 hS2.2.2.2.2) ?_
 rintro e w21 ⟨ao2, n2, cap2, rfl, hO6, hb6⟩
 obtain ⟨F, hbt, f1, f2, f3, f4⟩ := built_k (C := C) (G := #[.int .i64 t, .int .u64 ke, .int .u64 ro, .slice ao2 n2 cap2]) (A := AA) zC1 rfl zA7
 have hS21 : Blk w21 O C 55 ∧ Blk w21 P V 25 ∧ Blk w21 Q AA 27 ∧ Blk w21 R zK 69 ∧ Below W5.heap.size W5 w21 := ⟨hS2.1.next hb6, hS2.2.1.next hb6, hS2.2.2.1.next hb6, hS2.2.2.2.1.next hb6, hS2.2.2.2.2.trans (hb6.mono hS2.2.2.2.2.size)⟩
 refine ⟨_, rfl, fun _ => hS21, ?_⟩
 refine qUz (i := 4) (n := 1) rfl (by kernel_rfl) ?_
 refine v4z (ty := 69) (vs := [(0, .agg C), (1, .agg #[.int .i64 t, .int .u64 ke, .int .u64 ro, .slice ao2 n2 cap2]), (2, .agg AA)]) (d := some 19) (by kernel_rfl) hbt ⟨fun _ => hS21, ?_⟩
 obtain ⟨oF, e1, e2⟩ := k_parts zC1 rfl zA7 f1 f2 f3 f4 oC1 (oG _ _ _) oA
 obtain ⟨W9, hr9, hR9, q9⟩ := qPz (ty := 69) hS21.2.2.2.1 (C := F) (sizeK f1) (wkz.trans f1.symm) oF
 refine qUz (i := 5) (n := 0) rfl (by kernel_rfl) ?_
 refine qQz (ty := 69) (B := R) (off := 0) (v := .agg F) (d := none) (by kernel_rfl) hr9 ?_
 refine ⟨(fun q => absurd rfl q), ?_⟩
 refine kFz (by kernel_rfl) ?_ _
 go_wp2
 have hRo := hN2.out
 have kS := hS21.2.2.2.2
 have k6 : Below w.heap.size w w21 := btz hk kS
 have s6 := kS.size
 have s9 := q9.size
 have g6 : v2.heap.size ≤ w21.heap.size := hb6.size
 exact bodyPost_ret (v := .agg F) (res_k results24 rfl hR9 f1) rfl ⟨F, ao2, n2, cap2, rfl, ⟨f1, oF, e2, fun j hj => (f4 j hj).trans (aA j hj)⟩, by
  rw [e1]
  exact (oC5.laterK fun b hb => (q9.block b (by have := hb.1; omega)).trans (kS.block b (by have := hb.2; omega))).wide fun b hb => .inr ⟨by have := hb.1; omega, by have := hb.2; omega⟩, by
  have hne : ∀ b, (D0 b ∨ New v2 w21 b) → b ≠ R := fun b hb => by
   rcases hb with q | q
   ·have := hD b q; omega
   ·have := q.1; have := hR.lt; have := hS2.2.2.2.2.size; omega
  exact (hO6.laterK (fun b hb => q9.block b (hne b hb)) fun b hb => q9.block b (hne b (.inr hb))).wide (fun b hb => hb.imp id fun q => ⟨by have := q.1; have := hS2.2.2.2.2.size; omega, by have := q.2; omega⟩) fun b hb => .inr ⟨by have := hb.1; have := hS2.2.2.2.2.size; omega, by have := hb.2; omega⟩, q9.below _ _ (by omega) k6⟩
theorem k_of {u w3 W4 W5 w0 : World} {R S : Nat} {T : TypeId} {F : Array Value} {x : Ob} {ao2 : Option Addr} {n2 cap2 : Nat} (hS5 : Blk W5 S F T) (f1 : F.size = 62) (oF : F.all (·.oneCell') = true) (e2 : F.extract 51 (51 + 4) = #[.int .i64 t, .int .u64 ke, .int .u64 ro, .slice ao2 n2 cap2]) (aF : ∀ j, j < 7 → F[55 + j]? = some (.int .u64 (A.getD j 0))) (oC : ObD (fun b => LtN w0 b ∨ New u w3 b) w3 (F.extract 0 51) x) (oO : ObsD (fun b => LtN w0 b ∨ New u w3 b) (fun b => LtN w0 b ∨ New u w3 b) w3 ao2 n2 cap2 X) (h03 : w0.heap.size ≤ u.heap.size) (h3 : u.heap.size ≤ w3.heap.size) (hR : R < u.heap.size) (hR0 : R ≥ w0.heap.size) (k4 : Below w3.heap.size w3 W4) (q5 : Oth S W4 W5) (hS : S = w3.heap.size) : Kz (fun b => b = R) W5 S T F x t ke ro ao2 n2 cap2 X A := by
 have s4 := k4.size
 have s5 := q5.size
 have hSl := hS5.lt
 have g1 : ∀ b, (LtN w0 b ∨ New u w3 b) → b < w3.heap.size ∧ b ≠ R := fun b hb => by
  rcases hb with q | q
  ·exact ⟨by have : b < w0.heap.size := q; omega, by have : b < w0.heap.size := q; omega⟩
  ·exact ⟨q.2, by have := q.1; omega⟩
 have g2 : ∀ b, (LtN w0 b ∨ New u w3 b) → W5.heap[b]? = w3.heap[b]? := fun b hb => (q5.block b (by have := g1 b hb; omega)).trans (k4.block b (g1 b hb).1)
 have g3 : ∀ b, (LtN w0 b ∨ New u w3 b) → Kx (fun b => b = R) S W5 b := fun b hb => ⟨⟨by have := g1 b hb; omega, by have := g1 b hb; omega⟩, (g1 b hb).2⟩
 exact ⟨hS5, f1, oF, (oC.laterK g2).wide g3, e2, (oO.laterK g2 g2).wide g3 g3, aF, fun b hb => by rw [hb]; omega⟩
theorem kdo_v {nn : Int} {f : Nat} (ef : ∀ args w, (callFunc f args).run prog w = .ok (.enter f args) w) (hcl : ∀ (p : Value) (w : World), Calls prog 26 #[p, .int .i64 nn] w fun e w' => e = .returned (.func (.func f) #[p] #[]) ∧ w = w')
  {OK NO : Prop} {v : Int} {x2 : Ob} {X2 : List Ob} (h : Obs w ao n cap X) (hs : Srt X) (hn : n < 1024) (hsm : q3z X) (h0 : fnd X 0 = none)
  (hf : ∀ {Z : Nat → Prop} {B : Nat} {T : TypeId} {F : Array Value} {W : World} {ao2 : Option Addr} {n2 cap2 : Nat}, Kz Z W B T F (fO X i) t ke ro ao2 n2 cap2 X A → Calls prog f #[.pointer (some ⟨B, 0, none⟩)] W (Ktl OK NO v x2 X2 Z B T t ke ro ao2 n2 cap2 X A W)) :
  Calls prog 10 #[.agg #[.int .i64 t, .int .u64 ke, .int .u64 ro, .slice ao n cap], .int .u64 i, .int .i64 nn, .agg (argV A)] w fun e w' => ∃ V' v' k X3, e = .returned (.tuple #[.agg V', .int .u64 v', .int .i64 k, .bool true]) ∧ Wr w' V' t ke ro X3 ∧ Below w.heap.size w w' ∧ Kend OK NO v X X2 v' k X3 := by
 have hz2 : ∀ v, (prog.info? 25).map (·.size) = some (#[.int .i64 t, .int .u64 ke, .int .u64 ro, v] : Array Value).size := fun _ => q0z
 have hs2 : ∀ v, zW.size = (#[.int .i64 t, .int .u64 ke, .int .u64 ro, v] : Array Value).size := fun _ => rfl
 have h12 : ∀ ao n cap, (#[.int .i64 t, .int .u64 ke, .int .u64 ro, .slice ao n cap] : Array Value).all (·.oneCell') = true := fun _ _ _ => by kernel_rfl
 have hnw := fun {W : World} (hk : Below w.heap.size w W) => knew_v (t := t) (ke := ke) (ro := ro) (i := i) (A := A) (D0 := LtN w) (fun b hb => ltz hb hk.size) (h.laterK (fun b hb => hk.block b hb) fun b hb => hk.block b hb) hs hn hsm h0
 obtain ⟨V, hV⟩ : ∃ V : Array Value, Hid (#[.int .i64 t, .int .u64 ke, .int .u64 ro, .slice ao n cap] = V) := ⟨_, rfl⟩
 have zV : (prog.info? 25).map (·.size) = some V.size := by rw [← hV.out]; exact hz2 _
 obtain ⟨AA, hA⟩ : ∃ AA : Array Value, Hid (argV A = AA) := ⟨_, rfl⟩
 have zA7 : AA.size = 7 := by rw [← hA.out]; rfl
 have zA : (prog.info? 27).map (·.size) = some AA.size := by rw [zA7]; kernel_rfl
 simp only [hV.out, hA.out] at hnw ⊢
 have hk := brz w.heap.size w
 clear hsm hs h0 hn h
 go_enter func10, ntmps10
 go_wp2_with (first
  | (with_reducible refine qcz rfl 25 _ rfl V rfl ?_; intro P W0 hN0 hP hk0; replace hk := btz hk hk0; clear hk0)
  | (with_reducible refine qcz rfl 27 _ rfl AA rfl ?_; intro Q W1 hN1 hQ hk1; replace hP := hP.next hk1; replace hk := btz hk hk1; clear hk1)
  | ((with_reducible refine qdz rfl 25 rfl zW wyz ?_); intro R W2 hN2 hR hk2; replace hP := hP.next hk2; replace hQ := hQ.next hk2; have hRg := hk.size; have hRw := hN2.out.1; replace hk := btz hk hk2; clear hk2)
  | (with_reducible refine qhz (by kernel_rfl) 25 _ rfl P rfl V hP _ underlying25 (by kernel_rfl) zV ?_)
  | (with_reducible refine qhz (by kernel_rfl) 27 _ rfl Q rfl AA hQ _ underlying27 (by kernel_rfl) zA ?_)
  | (go_at_call 24; (with_reducible refine (hnw hk).mono ?_); rintro e w3 ⟨F, ao2, n2, cap2, rfl, ⟨f1, oF, e2, aF⟩, oC, oO, hb3⟩; have hR2 := hR.lt; replace hR := hR.next hb3; have h03 := hk.size; replace hk := btz hk hb3; clear hP hQ)
  | ((with_reducible refine qyz rfl 72 [(0, _)] rfl F ?hf ?_); (case hf => exact uyz f1))
  | ((with_reducible refine qdz rfl 72 rfl zK zeroKo ?_); intro S W4 hN4 hS hk4; replace hR := hR.next hk4; have hSw := hN4.out.1; have h34 := hb3.size; have h04 := hk.size; replace hk := btz hk hk4)
  | ((with_reducible refine qbz rfl _ _ _ rfl S rfl F rfl zK hS (sizeKo f1) (wkz.trans f1.symm) oF ?_); intro W5 hS5 q5; replace hR := hR.other q5 (by omega); have hKz := k_of hS5 f1 oF e2 aF oC oO h03 hb3.size hR2 (show R ≥ w.heap.size by omega) (hk4.trans (brz _ _)) q5 hSw.symm; replace hk := q5.below _ _ (by omega) hk)
  | (go_at_call 26; (with_reducible refine (hcl _ _).mono ?_); rintro e w6 ⟨rfl, rfl⟩)
  | (go_at_call 25; (with_reducible refine (bjz f _ ef hKz hf).mono ?_); rintro e w7 ⟨V2, v', k, X3, ao3, n3, cap3, rfl, hV2, hO3, hk7, hE⟩; have hR7 : Blk w7 R zW 25 := (hk7.oth R hR.lt (by omega)).trans hR; have zV2 : V2.size = 4 := (by rw [hV2]; rfl); have oV2 : V2.all (·.oneCell') = true := (by rw [hV2]; exact h12 _ _ _); have sV2 : zW.size = V2.size := (by rw [zV2]; rfl); have iV2 : (prog.info? 25).map (·.size) = some V2.size := (by rw [zV2]; exact q0z); replace hV2 : Hid _ := hV2)
  | ((with_reducible refine qbz rfl _ _ _ rfl R rfl V2 rfl zW hR7 iV2 sV2 oV2 ?_); intro W8 hR8 q8))
 have s8 := q8.size
 exact bodyPost_ret (v := .tuple #[.agg V2, .int .u64 v', .int .i64 k, .bool true]) (yXz results10 rfl rfl rfl rfl hR8 zV2) rfl ⟨V2, v', k, X3, rfl, ⟨ao3, n3, cap3, hV2.out, (hO3.laterK (fun b hb => q8.block b hb.2) fun b hb => q8.block b hb.2).wide (fun b hb => by have := hb.1.1; show _ < _; omega) fun b hb => by have := hb.1.1; show _ < _; omega⟩, q8.below _ _ (by omega) (hk.trans (hk7.low.mono (by omega))), hE⟩
theorem kdo_99 (h : Obs w ao n cap X) (hs : Srt X) (hn : n < 1024) (hsm : q3z X) (h0 : fnd X 0 = none) : Calls prog 10 #[.agg #[.int .i64 t, .int .u64 ke, .int .u64 ro, .slice ao n cap], .int .u64 i, .int .i64 99, .agg (argV A)] w fun e w' => ∃ V', V'.size = 4 ∧ V'.all (·.oneCell') = true ∧ e = .returned (.tuple #[.agg V', .int .u64 0, .int .i64 0, .bool false]) ∧ Below w.heap.size w w' := by
 have hz2 : ∀ v, (prog.info? 25).map (·.size) = some (#[.int .i64 t, .int .u64 ke, .int .u64 ro, v] : Array Value).size := fun _ => q0z
 have hs2 : ∀ v, zW.size = (#[.int .i64 t, .int .u64 ke, .int .u64 ro, v] : Array Value).size := fun _ => rfl
 have h12 : ∀ ao n cap, (#[.int .i64 t, .int .u64 ke, .int .u64 ro, .slice ao n cap] : Array Value).all (·.oneCell') = true := fun _ _ _ => by kernel_rfl
 have hnw := fun {W : World} (hk : Below w.heap.size w W) => knew_v (t := t) (ke := ke) (ro := ro) (i := i) (A := A) (D0 := LtN w) (fun b hb => ltz hb hk.size) (h.laterK (fun b hb => hk.block b hb) fun b hb => hk.block b hb) hs hn hsm h0
 obtain ⟨V, hV⟩ : ∃ V : Array Value, Hid (#[.int .i64 t, .int .u64 ke, .int .u64 ro, .slice ao n cap] = V) := ⟨_, rfl⟩
 have zV : (prog.info? 25).map (·.size) = some V.size := by rw [← hV.out]; exact hz2 _
 obtain ⟨AA, hA⟩ : ∃ AA : Array Value, Hid (argV A = AA) := ⟨_, rfl⟩
 have zA7 : AA.size = 7 := by rw [← hA.out]; rfl
 have zA : (prog.info? 27).map (·.size) = some AA.size := by rw [zA7]; kernel_rfl
 simp only [hV.out, hA.out] at hnw ⊢
 have hk := brz w.heap.size w
 clear hsm hs h0 hn h
 go_enter func10, ntmps10
 go_wp2_with (first
  | (with_reducible refine qcz rfl 25 _ rfl V rfl ?_; intro P W0 hN0 hP hk0; replace hk := btz hk hk0; clear hk0)
  | (with_reducible refine qcz rfl 27 _ rfl AA rfl ?_; intro Q W1 hN1 hQ hk1; replace hP := hP.next hk1; replace hk := btz hk hk1; clear hk1)
  | ((with_reducible refine qdz rfl 25 rfl zW wyz ?_); intro R W2 hN2 hR hk2; replace hP := hP.next hk2; replace hQ := hQ.next hk2; have hRg := hk.size; have hRw := hN2.out.1; replace hk := btz hk hk2; clear hk2)
  | (with_reducible refine qhz (by kernel_rfl) 25 _ rfl P rfl V hP _ underlying25 (by kernel_rfl) zV ?_)
  | (with_reducible refine qhz (by kernel_rfl) 27 _ rfl Q rfl AA hQ _ underlying27 (by kernel_rfl) zA ?_)
  | (go_at_call 24; (with_reducible refine (hnw hk).mono ?_); rintro e w3 ⟨F, ao2, n2, cap2, rfl, ⟨f1, oF, e2, aF⟩, oC, oO, hb3⟩; have hR2 := hR.lt; replace hR := hR.next hb3; have h03 := hk.size; replace hk := btz hk hb3; clear hP hQ)
  | ((with_reducible refine qyz rfl 72 [(0, _)] rfl F ?hf ?_); (case hf => exact uyz f1))
  | ((with_reducible refine qdz rfl 72 rfl zK zeroKo ?_); intro S W4 hN4 hS hk4; replace hR := hR.next hk4; have hSw := hN4.out.1; have h34 := hb3.size; have h04 := hk.size; replace hk := btz hk hk4)
  | ((with_reducible refine qbz rfl _ _ _ rfl S rfl F rfl zK hS (sizeKo f1) (wkz.trans f1.symm) oF ?_); intro W5 hS5 q5; replace hR := hR.other q5 (by omega); have hKz := k_of hS5 f1 oF e2 aF oC oO h03 hb3.size hR2 (show R ≥ w.heap.size by omega) (hk4.trans (brz _ _)) q5 hSw.symm; replace hk := q5.below _ _ (by omega) hk)
  | (go_at_call 26; (with_reducible refine (kcall_99 _ _).mono ?_); rintro e w6 ⟨rfl, rfl⟩)
  | (go_at_call 25; (with_reducible refine (bkz hKz).mono ?_); rintro e w7 ⟨V2, rfl, zV2, oV2, hk7⟩; have hR7 : Blk w7 R zW 25 := (hk7.oth R hR.lt (by omega)).trans hR; have sV2 : zW.size = V2.size := (by rw [zV2]; rfl); have iV2 : (prog.info? 25).map (·.size) = some V2.size := (by rw [zV2]; exact q0z))
  | ((with_reducible refine qbz rfl _ _ _ rfl R rfl V2 rfl zW hR7 iV2 sV2 oV2 ?_); intro W8 hR8 q8))
 exact bodyPost_ret (v := .tuple #[.agg V2, .int .u64 0, .int .i64 0, .bool false]) (yXz results10 rfl rfl rfl rfl hR8 zV2) rfl ⟨V2, zV2, oV2, rfl, q8.below _ _ (by omega) (hk.trans (hk7.low.mono (by omega)))⟩
end
variable {C : Array Value} {w : World} {x : Ob}
theorem ObD.newid {D : Nat → Prop} (h : ObD D w C x) (i : Int) : ObD D w (C.setIfInBounds 0 (.int .u64 i)) { x with id := i } := by
 have e : ∀ j, (C.setIfInBounds 0 (.int .u64 i))[j]? = if 0 = j then some (.int .u64 i) else C[j]? := fun j => qEz (by rw [h.size]; omega)
 have n : ∀ j, 0 ≠ j → (C.setIfInBounds 0 (.int .u64 i))[j]? = C[j]? := fun j q => by rw [e, if_neg q]
 have a : ThF D w (fun i_1 => (C.setIfInBounds 0 (.int .u64 i))[8 + i_1]?) x.th := h.th.congr fun j hj => (n (8 + j) (by omega)).symm
 have b : GtF D w (fun i_1 => (C.setIfInBounds 0 (.int .u64 i))[43 + i_1]?) x.gt := h.gt.congr fun j hj => (n (43 + j) (by omega)).symm
 exact ⟨by simp [h.size], wgz h.one rfl, by rw [e, if_pos rfl], (n 1 (by omega)).trans h.kind, by rw [n 2 (by omega)]; exact h.label, (n 3 (by omega)).trans h.quota, (n 4 (by omega)).trans h.fixed, by rw [n 5 (by omega)]; exact h.links, by rw [n 6 (by omega)]; exact h.data, by rw [n 7 (by omega)]; exact h.maps, a, b, by rw [n 49 (by omega)]; exact h.inn, by rw [n 50 (by omega)]; exact h.out⟩
variable {Z : Nat → Prop} {ao : Option Addr} {F : Array Value} {A : List Int} {n cap : Nat} {X : List Ob} {T : TypeId} {B : Nat} {o : Ob} {key a b : Nat}
theorem jvz {t ro : Int} {d : Int} (h : Kz Z w B T F x t (key : Int) ro ao n cap X A) (hg : Kg X n x) (hL1 : Lays (puR X (spO x ((a + 1 : Nat) : Int) b))) (ha : x.th.lo = (a : Int)) (hb : x.th.hi = (b : Int)) (hab : a < b) (hb2 : b ≤ 2305843009213693952) (ho : ObD (Kx Z B w) w C o) (hos : Small o) (hol : o.label.length < 1048576) (hE : attE (puR X (spO x ((a + 1 : Nat) : Int) b)) d { o with id := ((Pm.nameN key a : Nat) : Int) } = 0) : Calls prog 91 #[.pointer (some ⟨B, 0, none⟩), .int .u64 d, .agg C] w fun e w' => e = .returned (.int .u64 (Pm.nameN key a : Nat)) ∧ (∃ F' ao2 n2 cap2, Kz Z w' B T F' (spO x ((a + 1 : Nat) : Int) b) t (key : Int) ro ao2 n2 cap2 (attX (puR X (spO x ((a + 1 : Nat) : Int) b)) d { o with id := ((Pm.nameN key a : Nat) : Int) }) A) ∧ Kt B w w' := by
 have hmx : prog.follows .mixedOrders = true := by kernel_rfl
 have hBl := h.blk.lt
 have hzC := ho.size
 have hx1 : Small (spO x ((a + 1 : Nat) : Int) b) := kpz hg.sm _ _
 have hln := yqz X (spO x ((a + 1 : Nat) : Int) b)
 have hnl : X.length = n := h.obs.1
 have hkn := hg.len
 have hnm := fun {W : World} {Z' : Nat → Prop} {F' : Array Value} (h : Kz Z' W B T F' x t (key : Int) ro ao n cap X A) => ugz h ha hb hab hb2
 obtain ⟨nm, hnme⟩ : ∃ nm : Int, ((Pm.nameN key a : Nat) : Int) = nm := ⟨_, rfl⟩
 simp only [hnme] at hnm hE ⊢
 obtain ⟨x1, hx1e⟩ : ∃ x1, spO x ((a + 1 : Nat) : Int) b = x1 := ⟨_, rfl⟩
 have hnm2 : ∀ {W : World} {Z' : Nat → Prop} {F' : Array Value}, Kz Z' W B T F' x t (key : Int) ro ao n cap X A → Calls prog 140 #[.pointer (some ⟨B, 0, none⟩)] W fun e w' => e = .returned (.int .u64 nm) ∧ (∃ F', Kz Z' w' B T F' x1 t (key : Int) ro ao n cap X A) ∧ Kt B W w' := by rw [← hx1e]; exact hnm
 rw [hx1e] at hL1 hx1 hE hln ⊢
 clear hnm ha hb hab hb2 hnme hx1e
 obtain ⟨C2, hC2⟩ : ∃ C2, Hid (C.setIfInBounds 0 (.int .u64 nm) = C2) := ⟨_, rfl⟩
 have hos2 : Small { o with id := nm } := ⟨hos.c2, hos.c5, hos.c6, hos.c7, hos.c25, hos.c36, hos.c39, hos.c40, hos.c41, hos.c42, hos.c43, hos.c44, hos.c49, hos.c50⟩
 have ho2 := ho.newid nm
 rw [hC2.out] at ho2
 have hz2 := ho2.size
 have hi2 := ho2.id
 have hk : Kt B w w := Kt.refl B w
 go_enter func91, ntmps91
 go_upto_region 2 with (first
  | go_skip
  | (with_reducible refine qcz rfl 55 _ rfl C rfl ?_; intro Q W1 hN1 hQ hk1; replace h := h.more hk1 hQ.lt (Nat.le_of_eq hN1.out.1); have hBQ : B < Q ∧ B < W1.heap.size := (by have := hN1.out; omega); have hwQ : w.heap.size = Q := hN1.out.1; replace ho2 := (ho2.laterK (w' := W1) fun b hb => hk1.block b hb.1.1); replace hk := hk.trans (Kt.of hk1 hBl))
  | (go_at_call 140; (with_reducible refine (hnm2 h).mono ?_); rintro e w2 ⟨rfl, ⟨F2, h2⟩, hk2⟩; replace hQ : Blk w2 Q C 55 := (hk2.oth Q hQ.lt (by omega)).trans hQ; replace ho2 := (ho2.laterK (w' := w2) fun b hb => hk2.oth b (ltz hb.1.1 hk1.size) hb.1.2); replace hk := hk.trans hk2; have hw2 := hk2.low.size)
  | ((with_reducible refine qiz rfl 22 _ _ rfl Q 0 rfl (.int .u64 nm) rfl rfl C _ hQ (by kernel_rfl) (by rw [hzC]; decide) rfl ?_); intro W3 hQ3 q3; rw [hC2.out] at hQ3; replace h2 := h2.oth q3 (.inr rfl) (by omega); replace ho2 := (ho2.laterK (w' := W3) fun b hb => q3.block b (by have := hb.1.1; omega)); replace hk := hk.put q3 (by omega) hBl))
 have hB := h2.blk
 have hzF := h2.size
 have hwl := h2.wld
 have hk0 := brz W3.heap.size W3
 have hB3 := h2.blk.lt
 have hw3 := hk.low.size
 obtain ⟨CO, hCO⟩ : ∃ CO, F2.extract 0 51 = CO := ⟨_, rfl⟩
 obtain ⟨D, hD⟩ : ∃ D : Array Value, Hid (D = #[.int .i64 t, .int .u64 (key : Int), .int .u64 ro, .slice ao n cap]) := ⟨_, rfl⟩
 rw [← hD.out] at hwl
 have hZB : ∀ b, (fun b => Z b ∨ b = Q) b → b < W3.heap.size := h2.zlt
 have hput : ∀ {W : World}, Below W3.heap.size W3 W → Calls prog 142 #[.agg D, .agg CO] W fun e w' => ∃ ao2 n2 cap2, e = .returned (.agg #[.int .i64 t, .int .u64 (key : Int), .int .u64 ro, .slice ao2 n2 cap2]) ∧ ObsD (New W w') (fun b => Kx (fun b => Z b ∨ b = Q) B W b ∨ New W w' b) w' ao2 n2 cap2 (puR X x1) ∧ Below W.heap.size W w' := fun {W} k => by
  rw [hD.out, ← hCO]
  exact put_w (D0 := Kx (fun b => Z b ∨ b = Q) B W) (fun b hb => hb.1.1) ((h2.next k).obs.wide (fun b hb => hb) fun b hb => hb.1.1) hg.lay.srt (by omega) hg.lay.sms (h2.next k).ob hx1
 have hatt : ∀ {W : World} {ao2 : Option Addr} {n2 cap2 : Nat}, Below W3.heap.size W3 W → ObsD (Kx (fun b => Z b ∨ b = Q) B W) (Kx (fun b => Z b ∨ b = Q) B W) W ao2 n2 cap2 (puR X x1) → Calls prog 141 #[.agg #[.int .i64 t, .int .u64 (key : Int), .int .u64 ro, .slice ao2 n2 cap2], .int .u64 d, .agg C2] W fun e w' => ∃ ao3 n3 cap3, e = .returned (.tuple #[.agg #[.int .i64 t, .int .u64 (key : Int), .int .u64 ro, .slice ao3 n3 cap3], .int .i64 (attE (puR X x1) d { o with id := nm })]) ∧ ObsD (New W w') (fun b => Kx (fun b => Z b ∨ b = Q) B W b ∨ New W w' b) w' ao3 n3 cap3 (attX (puR X x1) d { o with id := nm }) ∧ Below W.heap.size W w' := fun {W} {ao2} {n2} {cap2} k hO => by
  obtain ⟨Cf, hF⟩ := (hO.wide (fun b hb => hb) fun b hb => hb.1.1 : ObsD (LtN W) (Kx (fun b => Z b ∨ b = Q) B W) W ao2 n2 cap2 (puR X x1)).fam
  exact uAz (fun b hb => hb.1.1) hF hL1 (by rw [← hO.1]; omega) ((ho2.laterK (w' := W) fun b hb => k.block b (by have := hb.1.1; omega)).wide fun b hb => ⟨⟨by have := hb.1.1; have := k.size; omega, hb.1.2⟩, fun q => q.elim hb.2 fun e => by have := hb.1.1; omega⟩) hos2 hol
 have hkz := hk0
 replace hQ := hQ3
 clear hQ3
 simp only [hE] at hatt
 refine jPz (S := fun W => Blk W B F2 T ∧ Blk W Q C2 55 ∧ Below W3.heap.size W3 W) 15 hmx (⟨hB.next (brz _ _).drew, hQ.next (brz _ _).drew, hkz.trans ((brz _ _).drew.mono hkz.size)⟩) (fun hS0 => ?_)
 generalize W3.drew = v0 at hS0 ⊢
 refine wAz (by kernel_rfl) (fun _ _ _ _ _ h => h) hS0 [(0, none, []), (1, none, [2, 3, 4, 9, 12]), (2, none, [3, 4, 9, 12]), (3, none, [4, 9, 12]), (4, some (.agg D), [9, 12]), (5, none, [6, 7, 8, 9, 12]), (6, none, [7, 8, 9, 12]), (7, none, [8, 9, 12]), (8, some (.agg CO), [9, 12]), (10, none, [12]), (11, some (.agg C2), [12])] (l' := #[tt, tt, tt, tt, tt, tt, tt, tt, tt, ff, tt, tt, ff, ff, ff, ff]) (a' := { tmps := #[.pointer (some ⟨B, 0, none⟩), .int .u64 d, .agg C, undef, undef, .pointer (some ⟨Q, 0, none⟩), .int .u64 0, .pointer (some ⟨B, 0, none⟩), .int .u64 nm, .pointer (some ⟨Q, 0, none⟩), .pointer (some ⟨B, 0, none⟩), .pointer (some ⟨B, 0, none⟩), .pointer (some ⟨B, 0, none⟩), .pointer (some ⟨B, 51, none⟩), .agg D, .pointer (some ⟨B, 0, none⟩), .pointer (some ⟨B, 0, none⟩), .pointer (some ⟨B, 0, none⟩), .agg CO, undef, .int .u64 d, .agg C2, undef, undef, undef, undef, undef, undef], defers := [] }) (obs := [.load 25 B 51 (.agg D), .load 55 B 0 (.agg CO), .load 55 Q 0 (.agg C2)]) (n := 5) (by kernel_rfl) (by kernel_rfl) ⟨qIz 4 (fun W hS => hS.1) hwl (by rw [hzF]; decide) underlying25 rfl (by kernel_rfl), qIz 51 (fun W hS => hS.1) (by rw [Nat.zero_add]; exact hCO) (by rw [hzF]; decide) underlying55 rfl (by kernel_rfl), qBz (fun W hS => hS.2.1) underlying55 rfl (qfz hz2), trivial⟩ ?_
 refine qUz (i := 9) (n := 4) rfl (by kernel_rfl) ?_
 refine quz (f := 142) (vs := [.agg D, .agg CO]) (d := some 19) (by kernel_rfl) call142 (hput hS0.2.2) ?_
 rintro e w01 ⟨ao2, n2, cap2, rfl, hO, hb5⟩
 have hO1 := ufz hO hb5.size (by have := hS0.2.2.size; omega) fun b hb => ltz (hZB b hb) hS0.2.2.size
 have hS01 : Blk w01 B F2 T ∧ Blk w01 Q C2 55 ∧ Below W3.heap.size W3 w01 := ⟨hS0.1.next hb5, hS0.2.1.next hb5, hS0.2.2.trans (hb5.mono hS0.2.2.size)⟩
 refine ⟨_, rfl, fun _ => hS01, ?_⟩
 refine qUz (i := 12) (n := 3) rfl (by kernel_rfl) ?_
 refine quz (f := 141) (vs := [.agg #[.int .i64 t, .int .u64 (key : Int), .int .u64 ro, .slice ao2 n2 cap2], .int .u64 d, .agg C2]) (d := some 22) (by kernel_rfl) call141 (hatt hS01.2.2 hO1) ?_
 rintro e w02 ⟨ao3, n3, cap3, rfl, hO2, hb6⟩
 have hO3 := ufz hO2 hb6.size (by have := hS01.2.2.size; omega) fun b hb => ltz (hZB b hb) hS01.2.2.size
 have hS02 : Blk w02 B F2 T ∧ Blk w02 Q C2 55 ∧ Below W3.heap.size W3 w02 := ⟨hS01.1.next hb6, hS01.2.1.next hb6, hS01.2.2.trans (hb6.mono hS01.2.2.size)⟩
 refine ⟨_, rfl, fun _ => hS02, ?_⟩
 refine wAz (by kernel_rfl) (fun _ _ _ _ _ h => h) hS02 [(13, none, []), (14, none, [])] (l' := #[tt, tt, tt, tt, tt, tt, tt, tt, tt, tt, tt, tt, tt, tt, tt, ff]) (a' := { tmps := #[.pointer (some ⟨B, 0, none⟩), .int .u64 d, .agg C, undef, undef, .pointer (some ⟨Q, 0, none⟩), .int .u64 0, .pointer (some ⟨B, 0, none⟩), .int .u64 nm, .pointer (some ⟨Q, 0, none⟩), .pointer (some ⟨B, 0, none⟩), .pointer (some ⟨B, 0, none⟩), .pointer (some ⟨B, 0, none⟩), .pointer (some ⟨B, 51, none⟩), .agg D, .pointer (some ⟨B, 0, none⟩), .pointer (some ⟨B, 0, none⟩), .pointer (some ⟨B, 0, none⟩), .agg CO, .agg #[.int .i64 t, .int .u64 (key : Int), .int .u64 ro, .slice ao2 n2 cap2], .int .u64 d, .agg C2, .tuple #[.agg #[.int .i64 t, .int .u64 (key : Int), .int .u64 ro, .slice ao3 n3 cap3], .int .i64 0], .agg #[.int .i64 t, .int .u64 (key : Int), .int .u64 ro, .slice ao3 n3 cap3], .int .i64 0, undef, undef, undef], defers := [] }) (obs := []) (n := 1) (by kernel_rfl) (by kernel_rfl) trivial ?_
 refine qUz (i := 15) (n := 0) rfl (by kernel_rfl) ?_
 refine quz (f := 95) (vs := [.pointer (some ⟨B, 0, none⟩), .agg #[.int .i64 t, .int .u64 (key : Int), .int .u64 ro, .slice ao3 n3 cap3], .int .i64 0]) (d := some 25) (by kernel_rfl) call95 (giz (h2.next hS02.2.2) rfl hO3) ?_
 rintro e w03 ⟨rfl, ⟨F4, h4⟩, hk4⟩
 refine ⟨_, rfl, (fun q => absurd rfl q), ?_⟩
 refine kFz (by kernel_rfl) ?_ _
 have hk7 := Kt.of (B := B) hS02.2.2 (by omega)
 replace hQ : Blk w03 Q C2 55 := (hk4.oth Q hS02.2.1.lt (by omega)).trans hS02.2.1
 go_wp2_with (first
  | (with_reducible refine qaz (by kernel_rfl) _ _ rfl Q 0 rfl _ _ hQ _ hi2 isAgg22 ?_))
 go_ret
 exact ⟨rfl, ⟨F4, ao3, n3, cap3, h4.less fun b hb => .inl hb⟩, hk.trans (hk7.trans hk4)⟩
theorem uYz {t ro : Int} {d : Int} (h : Kz Z w B T F x t (key : Int) ro ao n cap X A) (hg : Kg X n x) (hL1 : Lays (puR X (spO x ((a + 1 : Nat) : Int) b))) (ha : x.th.lo = (a : Int)) (hb : x.th.hi = (b : Int)) (hab : a < b) (hb2 : b ≤ 2305843009213693952) (ho : ObD (Kx Z B w) w C o) (hos : Small o) (hol : o.label.length < 1048576) (hE : attE (puR X (spO x ((a + 1 : Nat) : Int) b)) d { o with id := ((Pm.nameN key a : Nat) : Int) } ≠ 0) : Calls prog 91 #[.pointer (some ⟨B, 0, none⟩), .int .u64 d, .agg C] w fun e w' => e = .panicked (wfz (attE (puR X (spO x ((a + 1 : Nat) : Int) b)) d { o with id := ((Pm.nameN key a : Nat) : Int) })) ∧ (∃ F', Kz Z w' B T F' (spO x ((a + 1 : Nat) : Int) b) t (key : Int) ro ao n cap X A) ∧ Kt B w w' := by
 have hmx : prog.follows .mixedOrders = true := by kernel_rfl
 have hBl := h.blk.lt
 have hzC := ho.size
 have hx1 : Small (spO x ((a + 1 : Nat) : Int) b) := kpz hg.sm _ _
 have hln := yqz X (spO x ((a + 1 : Nat) : Int) b)
 have hnl : X.length = n := h.obs.1
 have hkn := hg.len
 have hnm := fun {W : World} {Z' : Nat → Prop} {F' : Array Value} (h : Kz Z' W B T F' x t (key : Int) ro ao n cap X A) => ugz h ha hb hab hb2
 obtain ⟨nm, hnme⟩ : ∃ nm : Int, ((Pm.nameN key a : Nat) : Int) = nm := ⟨_, rfl⟩
 simp only [hnme] at hnm hE ⊢
 obtain ⟨x1, hx1e⟩ : ∃ x1, spO x ((a + 1 : Nat) : Int) b = x1 := ⟨_, rfl⟩
 have hnm2 : ∀ {W : World} {Z' : Nat → Prop} {F' : Array Value}, Kz Z' W B T F' x t (key : Int) ro ao n cap X A → Calls prog 140 #[.pointer (some ⟨B, 0, none⟩)] W fun e w' => e = .returned (.int .u64 nm) ∧ (∃ F', Kz Z' w' B T F' x1 t (key : Int) ro ao n cap X A) ∧ Kt B W w' := by rw [← hx1e]; exact hnm
 rw [hx1e] at hL1 hx1 hE hln ⊢
 clear hnm ha hb hab hb2 hnme hx1e
 obtain ⟨C2, hC2⟩ : ∃ C2, Hid (C.setIfInBounds 0 (.int .u64 nm) = C2) := ⟨_, rfl⟩
 have hos2 : Small { o with id := nm } := ⟨hos.c2, hos.c5, hos.c6, hos.c7, hos.c25, hos.c36, hos.c39, hos.c40, hos.c41, hos.c42, hos.c43, hos.c44, hos.c49, hos.c50⟩
 have ho2 := ho.newid nm
 rw [hC2.out] at ho2
 have hz2 := ho2.size
 have hi2 := ho2.id
 have hk : Kt B w w := Kt.refl B w
 go_enter func91, ntmps91
 go_upto_region 2 with (first
  | go_skip
  | (with_reducible refine qcz rfl 55 _ rfl C rfl ?_; intro Q W1 hN1 hQ hk1; replace h := h.more hk1 hQ.lt (Nat.le_of_eq hN1.out.1); have hBQ : B < Q ∧ B < W1.heap.size := (by have := hN1.out; omega); have hwQ : w.heap.size = Q := hN1.out.1; replace ho2 := (ho2.laterK (w' := W1) fun b hb => hk1.block b hb.1.1); replace hk := hk.trans (Kt.of hk1 hBl))
  | (go_at_call 140; (with_reducible refine (hnm2 h).mono ?_); rintro e w2 ⟨rfl, ⟨F2, h2⟩, hk2⟩; replace hQ : Blk w2 Q C 55 := (hk2.oth Q hQ.lt (by omega)).trans hQ; replace ho2 := (ho2.laterK (w' := w2) fun b hb => hk2.oth b (ltz hb.1.1 hk1.size) hb.1.2); replace hk := hk.trans hk2; have hw2 := hk2.low.size)
  | ((with_reducible refine qiz rfl 22 _ _ rfl Q 0 rfl (.int .u64 nm) rfl rfl C _ hQ (by kernel_rfl) (by rw [hzC]; decide) rfl ?_); intro W3 hQ3 q3; rw [hC2.out] at hQ3; replace h2 := h2.oth q3 (.inr rfl) (by omega); replace ho2 := (ho2.laterK (w' := W3) fun b hb => q3.block b (by have := hb.1.1; omega)); replace hk := hk.put q3 (by omega) hBl))
 have hB := h2.blk
 have hzF := h2.size
 have hwl := h2.wld
 have hk0 := brz W3.heap.size W3
 have hB3 := h2.blk.lt
 have hw3 := hk.low.size
 obtain ⟨CO, hCO⟩ : ∃ CO, F2.extract 0 51 = CO := ⟨_, rfl⟩
 obtain ⟨D, hD⟩ : ∃ D : Array Value, Hid (D = #[.int .i64 t, .int .u64 (key : Int), .int .u64 ro, .slice ao n cap]) := ⟨_, rfl⟩
 rw [← hD.out] at hwl
 have hZB : ∀ b, (fun b => Z b ∨ b = Q) b → b < W3.heap.size := h2.zlt
 have hput : ∀ {W : World}, Below W3.heap.size W3 W → Calls prog 142 #[.agg D, .agg CO] W fun e w' => ∃ ao2 n2 cap2, e = .returned (.agg #[.int .i64 t, .int .u64 (key : Int), .int .u64 ro, .slice ao2 n2 cap2]) ∧ ObsD (New W w') (fun b => Kx (fun b => Z b ∨ b = Q) B W b ∨ New W w' b) w' ao2 n2 cap2 (puR X x1) ∧ Below W.heap.size W w' := fun {W} k => by
  rw [hD.out, ← hCO]
  exact put_w (D0 := Kx (fun b => Z b ∨ b = Q) B W) (fun b hb => hb.1.1) ((h2.next k).obs.wide (fun b hb => hb) fun b hb => hb.1.1) hg.lay.srt (by omega) hg.lay.sms (h2.next k).ob hx1
 have hatt : ∀ {W : World} {ao2 : Option Addr} {n2 cap2 : Nat}, Below W3.heap.size W3 W → ObsD (Kx (fun b => Z b ∨ b = Q) B W) (Kx (fun b => Z b ∨ b = Q) B W) W ao2 n2 cap2 (puR X x1) → Calls prog 141 #[.agg #[.int .i64 t, .int .u64 (key : Int), .int .u64 ro, .slice ao2 n2 cap2], .int .u64 d, .agg C2] W fun e w' => ∃ ao3 n3 cap3, e = .returned (.tuple #[.agg #[.int .i64 t, .int .u64 (key : Int), .int .u64 ro, .slice ao3 n3 cap3], .int .i64 (attE (puR X x1) d { o with id := nm })]) ∧ ObsD (New W w') (fun b => Kx (fun b => Z b ∨ b = Q) B W b ∨ New W w' b) w' ao3 n3 cap3 (attX (puR X x1) d { o with id := nm }) ∧ Below W.heap.size W w' := fun {W} {ao2} {n2} {cap2} k hO => by
  obtain ⟨Cf, hF⟩ := (hO.wide (fun b hb => hb) fun b hb => hb.1.1 : ObsD (LtN W) (Kx (fun b => Z b ∨ b = Q) B W) W ao2 n2 cap2 (puR X x1)).fam
  exact uAz (fun b hb => hb.1.1) hF hL1 (by rw [← hO.1]; omega) ((ho2.laterK (w' := W) fun b hb => k.block b (by have := hb.1.1; omega)).wide fun b hb => ⟨⟨by have := hb.1.1; have := k.size; omega, hb.1.2⟩, fun q => q.elim hb.2 fun e => by have := hb.1.1; omega⟩) hos2 hol
 have hkz := hk0
 replace hQ := hQ3
 clear hQ3
 obtain ⟨k, hke⟩ : ∃ k, attE (puR X x1) d { o with id := nm } = k := ⟨_, rfl⟩
 simp only [hke] at hatt hE ⊢
 refine jPz (S := fun W => Blk W B F2 T ∧ Blk W Q C2 55 ∧ Below W3.heap.size W3 W) 15 hmx (⟨hB.next (brz _ _).drew, hQ.next (brz _ _).drew, hkz.trans ((brz _ _).drew.mono hkz.size)⟩) (fun hS0 => ?_)
 generalize W3.drew = v0 at hS0 ⊢
 refine wAz (by kernel_rfl) (fun _ _ _ _ _ h => h) hS0 [(0, none, []), (1, none, [2, 3, 4, 9, 12]), (2, none, [3, 4, 9, 12]), (3, none, [4, 9, 12]), (4, some (.agg D), [9, 12]), (5, none, [6, 7, 8, 9, 12]), (6, none, [7, 8, 9, 12]), (7, none, [8, 9, 12]), (8, some (.agg CO), [9, 12]), (10, none, [12]), (11, some (.agg C2), [12])] (l' := #[tt, tt, tt, tt, tt, tt, tt, tt, tt, ff, tt, tt, ff, ff, ff, ff]) (a' := { tmps := #[.pointer (some ⟨B, 0, none⟩), .int .u64 d, .agg C, undef, undef, .pointer (some ⟨Q, 0, none⟩), .int .u64 0, .pointer (some ⟨B, 0, none⟩), .int .u64 nm, .pointer (some ⟨Q, 0, none⟩), .pointer (some ⟨B, 0, none⟩), .pointer (some ⟨B, 0, none⟩), .pointer (some ⟨B, 0, none⟩), .pointer (some ⟨B, 51, none⟩), .agg D, .pointer (some ⟨B, 0, none⟩), .pointer (some ⟨B, 0, none⟩), .pointer (some ⟨B, 0, none⟩), .agg CO, undef, .int .u64 d, .agg C2, undef, undef, undef, undef, undef, undef], defers := [] }) (obs := [.load 25 B 51 (.agg D), .load 55 B 0 (.agg CO), .load 55 Q 0 (.agg C2)]) (n := 5) (by kernel_rfl) (by kernel_rfl) ⟨qIz 4 (fun W hS => hS.1) hwl (by rw [hzF]; decide) underlying25 rfl (by kernel_rfl), qIz 51 (fun W hS => hS.1) (by rw [Nat.zero_add]; exact hCO) (by rw [hzF]; decide) underlying55 rfl (by kernel_rfl), qBz (fun W hS => hS.2.1) underlying55 rfl (qfz hz2), trivial⟩ ?_
 refine qUz (i := 9) (n := 4) rfl (by kernel_rfl) ?_
 refine quz (f := 142) (vs := [.agg D, .agg CO]) (d := some 19) (by kernel_rfl) call142 (hput hS0.2.2) ?_
 rintro e w01 ⟨ao2, n2, cap2, rfl, hO, hb5⟩
 have hO1 := ufz hO hb5.size (by have := hS0.2.2.size; omega) fun b hb => ltz (hZB b hb) hS0.2.2.size
 have hS01 : Blk w01 B F2 T ∧ Blk w01 Q C2 55 ∧ Below W3.heap.size W3 w01 := ⟨hS0.1.next hb5, hS0.2.1.next hb5, hS0.2.2.trans (hb5.mono hS0.2.2.size)⟩
 refine ⟨_, rfl, fun _ => hS01, ?_⟩
 refine qUz (i := 12) (n := 3) rfl (by kernel_rfl) ?_
 refine quz (f := 141) (vs := [.agg #[.int .i64 t, .int .u64 (key : Int), .int .u64 ro, .slice ao2 n2 cap2], .int .u64 d, .agg C2]) (d := some 22) (by kernel_rfl) call141 (hatt hS01.2.2 hO1) ?_
 rintro e w02 ⟨ao3, n3, cap3, rfl, hO2, hb6⟩
 have hO3 := ufz hO2 hb6.size (by have := hS01.2.2.size; omega) fun b hb => ltz (hZB b hb) hS01.2.2.size
 have hS02 : Blk w02 B F2 T ∧ Blk w02 Q C2 55 ∧ Below W3.heap.size W3 w02 := ⟨hS01.1.next hb6, hS01.2.1.next hb6, hS01.2.2.trans (hb6.mono hS01.2.2.size)⟩
 refine ⟨_, rfl, fun _ => hS02, ?_⟩
 refine wAz (by kernel_rfl) (fun _ _ _ _ _ h => h) hS02 [(13, none, []), (14, none, [])] (l' := #[tt, tt, tt, tt, tt, tt, tt, tt, tt, tt, tt, tt, tt, tt, tt, ff]) (a' := { tmps := #[.pointer (some ⟨B, 0, none⟩), .int .u64 d, .agg C, undef, undef, .pointer (some ⟨Q, 0, none⟩), .int .u64 0, .pointer (some ⟨B, 0, none⟩), .int .u64 nm, .pointer (some ⟨Q, 0, none⟩), .pointer (some ⟨B, 0, none⟩), .pointer (some ⟨B, 0, none⟩), .pointer (some ⟨B, 0, none⟩), .pointer (some ⟨B, 51, none⟩), .agg D, .pointer (some ⟨B, 0, none⟩), .pointer (some ⟨B, 0, none⟩), .pointer (some ⟨B, 0, none⟩), .agg CO, .agg #[.int .i64 t, .int .u64 (key : Int), .int .u64 ro, .slice ao2 n2 cap2], .int .u64 d, .agg C2, .tuple #[.agg #[.int .i64 t, .int .u64 (key : Int), .int .u64 ro, .slice ao3 n3 cap3], .int .i64 k], .agg #[.int .i64 t, .int .u64 (key : Int), .int .u64 ro, .slice ao3 n3 cap3], .int .i64 k, undef, undef, undef], defers := [] }) (obs := []) (n := 1) (by kernel_rfl) (by kernel_rfl) trivial ?_
 refine qUz (i := 15) (n := 0) rfl (by kernel_rfl) ?_
 refine wLz (f := 95) (vs := [.pointer (some ⟨B, 0, none⟩), .agg #[.int .i64 t, .int .u64 (key : Int), .int .u64 ro, .slice ao3 n3 cap3], .int .i64 k]) (d := some 25) (by kernel_rfl) call95 (gjz rfl hE) ?_
 rintro e w9 ⟨rfl, hb9⟩
 refine .inr ⟨_, rfl, ?_⟩
 have hk9 := (hS02.2.2).trans (hb9.mono hS02.2.2.size)
 exact ⟨by first | rfl | rw [hke], by first | rfl | rw [hke], ⟨F2, (h2.next hk9).less fun b hb => .inl hb⟩, hk.trans (Kt.of hk9 (by omega))⟩
theorem wEz {S : World → Prop} {b o i : Nat} (hi : i < 7) : Obl.holds prog S (.ia 27 (.pointer (some ⟨b, o, none⟩)) (.int .i64 (i : Int)) (.pointer (some ⟨b, o + i, none⟩))) := fun w hS => xDz hi w
variable {t ke ro : Int} {L : Bool}
theorem bWz (h : Kz Z w B T F x t ke ro ao n cap X A) (hg : Kg X n x) (ho : ObD (LtN w) w C o) (hE : dirE X x.label (A.getD 0 0) true ≠ 0) : Calls prog 88 #[.pointer (some ⟨B, 0, none⟩), .agg C, .bool L] w fun e w' => (∃ k, k ≠ 0 ∧ e = .panicked (wfz k)) ∧ Below w.heap.size w w' := by
 have hmx : prog.follows .mixedOrders = true := by kernel_rfl
 have hBl := h.blk.lt
 have hzC := ho.size
 have ha0 := h.arg 0 (by omega)
 generalize A.getD 0 0 = d at ha0 hE ⊢
 obtain ⟨C2, hC2⟩ : ∃ C2, Hid (C.setIfInBounds 0 (.int .u64 1) = C2) := ⟨_, rfl⟩
 have ho2 := ho.newid 1
 rw [hC2.out] at ho2
 have hz2 := ho2.size
 have hk := brz w.heap.size w
 go_enter func88, ntmps88
 go_upto_region 1 with (first
  | go_skip
  | (with_reducible refine qcz rfl 55 _ rfl C rfl ?_; intro Q W1 hN1 hQ hk1; replace h := h.next hk1; replace hk := hk.trans hk1; have hQw : w.heap.size = Q := hN1.out.1; replace ho2 := (ho2.laterK (w' := W1) fun b hb => hk1.block b hb)))
 have hB := h.blk
 have hkz := brz W1.heap.size W1
 refine PgM.region_out (S := fun W => Blk W B F T ∧ Blk W Q C 55 ∧ Below W1.heap.size W1 W) hmx (⟨hB.next (brz _ _).drew, hQ.next (brz _ _).drew, hkz.trans ((brz _ _).drew.mono hkz.size)⟩) (fun hS0 => ?_)
 generalize W1.drew = v0 at hS0 ⊢
 refine qCz (by kernel_rfl) (fun _ _ _ _ _ h => h) hS0 [(0, none), (1, none), (2, none), (3, none), (4, none), (5, none), (6, none), (7, some (.pointer (some ⟨B, 55, none⟩))), (8, some (.int .u64 d))] (l' := #[tt, tt, tt, tt, tt, tt, tt, tt, tt, ff]) (a' := { tmps := #[.pointer (some ⟨B, 0, none⟩), .agg C, .bool L, undef, .pointer (some ⟨Q, 0, none⟩), undef, .pointer (some ⟨B, 0, none⟩), .pointer (some ⟨B, 0, none⟩), .pointer (some ⟨B, 0, none⟩), .pointer (some ⟨B, 0, none⟩), .pointer (some ⟨B, 0, none⟩), .pointer (some ⟨B, 0, none⟩), .pointer (some ⟨B, 55, none⟩), .pointer (some ⟨B, 55, none⟩), .int .u64 d, ud, ud, ud, ud, ud, ud, undef], defers := [] }) (obs := [.ia 27 (.pointer (some ⟨B, 55, none⟩)) (.int .i64 0) (.pointer (some ⟨B, 55, none⟩)), .load 22 B 55 (.int .u64 d)]) (n := 1) (by kernel_rfl) (by kernel_rfl) ⟨wEz (i := 0) (by omega), qez (fun W hS => hS.1) ha0 isAgg22, trivial⟩ ?_
 refine qkz (i := 9) (n := 0) rfl (by kernel_rfl) ?_
 refine wLz (f := 93) (vs := [.pointer (some ⟨B, 0, none⟩), .int .u64 d, .bool true]) (d := some 15) (by kernel_rfl) call93 (kdir_no (h.next hS0.2.2) hg hE) ?_
 rintro e w9 ⟨rfl, hb9⟩
 refine .inr ⟨_, rfl, ?_⟩
 exact ⟨rfl, ⟨_, hE, rfl⟩, hk.trans ((hS0.2.2.trans (hb9.mono hS0.2.2.size)).mono hk.size)⟩
theorem bVz (h : Kz Z w B T F x t ke ro ao n cap X A) (hg : Kg X n x) (ho : ObD (LtN w) w C o) (hE : dirE X x.label (A.getD 0 0) true = 0) (hL : L = false) : Calls prog 88 #[.pointer (some ⟨B, 0, none⟩), .agg C, .bool L] w fun e w' => (∃ k, k ≠ 0 ∧ e = .panicked (wfz k)) ∧ Below w.heap.size w w' := by
 subst hL
 have hmx : prog.follows .mixedOrders = true := by kernel_rfl
 have hBl := h.blk.lt
 have hzC := ho.size
 have ha0 := h.arg 0 (by omega)
 generalize A.getD 0 0 = d at ha0 hE
 obtain ⟨C2, hC2⟩ : ∃ C2, Hid (C.setIfInBounds 0 (.int .u64 1) = C2) := ⟨_, rfl⟩
 have ho2 := ho.newid 1
 rw [hC2.out] at ho2
 have hz2 := ho2.size
 have hk := brz w.heap.size w
 go_enter func88, ntmps88
 go_upto_region 1 with (first
  | go_skip
  | (with_reducible refine qcz rfl 55 _ rfl C rfl ?_; intro Q W1 hN1 hQ hk1; replace h := h.next hk1; replace hk := hk.trans hk1; have hQw : w.heap.size = Q := hN1.out.1; replace ho2 := (ho2.laterK (w' := W1) fun b hb => hk1.block b hb)))
 have hB := h.blk
 have hkz := brz W1.heap.size W1
 refine PgM.region_out (S := fun W => Blk W B F T ∧ Blk W Q C 55 ∧ Below W1.heap.size W1 W) hmx (⟨hB.next (brz _ _).drew, hQ.next (brz _ _).drew, hkz.trans ((brz _ _).drew.mono hkz.size)⟩) (fun hS0 => ?_)
 generalize W1.drew = v0 at hS0 ⊢
 refine qCz (by kernel_rfl) (fun _ _ _ _ _ h => h) hS0 [(0, none), (1, none), (2, none), (3, none), (4, none), (5, none), (6, none), (7, some (.pointer (some ⟨B, 55, none⟩))), (8, some (.int .u64 d))] (l' := #[tt, tt, tt, tt, tt, tt, tt, tt, tt, ff]) (a' := { tmps := #[.pointer (some ⟨B, 0, none⟩), .agg C, .bool false, undef, .pointer (some ⟨Q, 0, none⟩), undef, .pointer (some ⟨B, 0, none⟩), .pointer (some ⟨B, 0, none⟩), .pointer (some ⟨B, 0, none⟩), .pointer (some ⟨B, 0, none⟩), .pointer (some ⟨B, 0, none⟩), .pointer (some ⟨B, 0, none⟩), .pointer (some ⟨B, 55, none⟩), .pointer (some ⟨B, 55, none⟩), .int .u64 d, ud, ud, ud, ud, ud, ud, undef], defers := [] }) (obs := [.ia 27 (.pointer (some ⟨B, 55, none⟩)) (.int .i64 0) (.pointer (some ⟨B, 55, none⟩)), .load 22 B 55 (.int .u64 d)]) (n := 1) (by kernel_rfl) (by kernel_rfl) ⟨wEz (i := 0) (by omega), qez (fun W hS => hS.1) ha0 isAgg22, trivial⟩ ?_
 refine qkz (i := 9) (n := 0) rfl (by kernel_rfl) ?_
 refine quz (f := 93) (vs := [.pointer (some ⟨B, 0, none⟩), .int .u64 d, .bool true]) (d := some 15) (by kernel_rfl) call93 (yvz (h.next hS0.2.2) hg hE) ?_
 rintro e w01 ⟨C6, rfl, _, hb5⟩
 have hS01 : Blk w01 B F T ∧ Blk w01 Q C 55 ∧ Below W1.heap.size W1 w01 := ⟨hS0.1.next hb5, hS0.2.1.next hb5, hS0.2.2.trans (hb5.mono hS0.2.2.size)⟩
 refine ⟨_, rfl, hS01, ?_⟩
 refine wpAnyH_done (by kernel_rfl) ?_ _
 have hkS := hS01.2.2
 have hkw : w.heap.size ≤ W1.heap.size := hk.size
 replace hQ := hS01.2.1
 replace hk := btz hk hkS
 go_wp2_with (first
  | (go_at_call 101; (with_reducible refine (kvz _ _).mono ?_); rintro e w9 ⟨rfl, rfl⟩)
  | ((with_reducible refine qiz rfl 22 _ _ rfl Q 0 rfl (.int .u64 1) rfl rfl C _ hQ (by kernel_rfl) (by rw [hzC]; decide) rfl ?_); intro W3 hQ3 q3; rw [hC2.out] at hQ3; have hk4 := q3.below _ _ (Nat.le_of_eq hQw) hk; replace ho2 := (ho2.laterK (w' := W3) fun b hb => (q3.block b (by have : b < w.heap.size := hb; omega)).trans (hkS.block b (by have : b < w.heap.size := hb; have := hkw; omega))).wide (D' := LtN W3) fun b hb => ltz hb hk4.size)
  | (with_reducible refine qhz (by kernel_rfl) 55 _ rfl Q rfl C2 hQ3 _ underlying55 (by kernel_rfl) (qfz hz2) ?_)
  | (go_at_call 136; (with_reducible refine ((kIz ho2).yes hso).mono ?_); rintro e w5 ⟨rfl, hb5⟩; replace hk4 := btz hk4 hb5))
 exact ⟨rfl, ⟨2, by decide, rfl⟩, hk⟩
theorem bUz (h : Kz Z w B T F x t ke ro ao n cap X A) (hg : Kg X n x) (ho : ObD (LtN w) w C o) (hE : dirE X x.label (A.getD 0 0) true = 0) (hL : L = true) (hso : ¬ q9z { o with id := 1 } = true) : Calls prog 88 #[.pointer (some ⟨B, 0, none⟩), .agg C, .bool L] w fun e w' => (∃ k, k ≠ 0 ∧ e = .panicked (wfz k)) ∧ Below w.heap.size w w' := by
 subst hL
 have hmx : prog.follows .mixedOrders = true := by kernel_rfl
 have hBl := h.blk.lt
 have hzC := ho.size
 have ha0 := h.arg 0 (by omega)
 generalize A.getD 0 0 = d at ha0 hE
 obtain ⟨C2, hC2⟩ : ∃ C2, Hid (C.setIfInBounds 0 (.int .u64 1) = C2) := ⟨_, rfl⟩
 have ho2 := ho.newid 1
 rw [hC2.out] at ho2
 have hz2 := ho2.size
 have hk := brz w.heap.size w
 go_enter func88, ntmps88
 go_upto_region 1 with (first
  | go_skip
  | (with_reducible refine qcz rfl 55 _ rfl C rfl ?_; intro Q W1 hN1 hQ hk1; replace h := h.next hk1; replace hk := hk.trans hk1; have hQw : w.heap.size = Q := hN1.out.1; replace ho2 := (ho2.laterK (w' := W1) fun b hb => hk1.block b hb)))
 have hB := h.blk
 have hkz := brz W1.heap.size W1
 refine PgM.region_out (S := fun W => Blk W B F T ∧ Blk W Q C 55 ∧ Below W1.heap.size W1 W) hmx (⟨hB.next (brz _ _).drew, hQ.next (brz _ _).drew, hkz.trans ((brz _ _).drew.mono hkz.size)⟩) (fun hS0 => ?_)
 generalize W1.drew = v0 at hS0 ⊢
 refine qCz (by kernel_rfl) (fun _ _ _ _ _ h => h) hS0 [(0, none), (1, none), (2, none), (3, none), (4, none), (5, none), (6, none), (7, some (.pointer (some ⟨B, 55, none⟩))), (8, some (.int .u64 d))] (l' := #[tt, tt, tt, tt, tt, tt, tt, tt, tt, ff]) (a' := { tmps := #[.pointer (some ⟨B, 0, none⟩), .agg C, .bool true, undef, .pointer (some ⟨Q, 0, none⟩), undef, .pointer (some ⟨B, 0, none⟩), .pointer (some ⟨B, 0, none⟩), .pointer (some ⟨B, 0, none⟩), .pointer (some ⟨B, 0, none⟩), .pointer (some ⟨B, 0, none⟩), .pointer (some ⟨B, 0, none⟩), .pointer (some ⟨B, 55, none⟩), .pointer (some ⟨B, 55, none⟩), .int .u64 d, ud, ud, ud, ud, ud, ud, undef], defers := [] }) (obs := [.ia 27 (.pointer (some ⟨B, 55, none⟩)) (.int .i64 0) (.pointer (some ⟨B, 55, none⟩)), .load 22 B 55 (.int .u64 d)]) (n := 1) (by kernel_rfl) (by kernel_rfl) ⟨wEz (i := 0) (by omega), qez (fun W hS => hS.1) ha0 isAgg22, trivial⟩ ?_
 refine qkz (i := 9) (n := 0) rfl (by kernel_rfl) ?_
 refine quz (f := 93) (vs := [.pointer (some ⟨B, 0, none⟩), .int .u64 d, .bool true]) (d := some 15) (by kernel_rfl) call93 (yvz (h.next hS0.2.2) hg hE) ?_
 rintro e w01 ⟨C6, rfl, _, hb5⟩
 have hS01 : Blk w01 B F T ∧ Blk w01 Q C 55 ∧ Below W1.heap.size W1 w01 := ⟨hS0.1.next hb5, hS0.2.1.next hb5, hS0.2.2.trans (hb5.mono hS0.2.2.size)⟩
 refine ⟨_, rfl, hS01, ?_⟩
 refine wpAnyH_done (by kernel_rfl) ?_ _
 have hkS := hS01.2.2
 have hkw : w.heap.size ≤ W1.heap.size := hk.size
 replace hQ := hS01.2.1
 replace hk := btz hk hkS
 go_wp2_with (first
  | (go_at_call 101; (with_reducible refine (xTz _ _).mono ?_); rintro e w9 ⟨rfl, rfl⟩)
  | (go_at_call 101; (with_reducible refine (kvz _ _).mono ?_); rintro e w9 ⟨rfl, rfl⟩)
  | ((with_reducible refine qiz rfl 22 _ _ rfl Q 0 rfl (.int .u64 1) rfl rfl C _ hQ (by kernel_rfl) (by rw [hzC]; decide) rfl ?_); intro W3 hQ3 q3; rw [hC2.out] at hQ3; have hk4 := q3.below _ _ (Nat.le_of_eq hQw) hk; replace ho2 := (ho2.laterK (w' := W3) fun b hb => (q3.block b (by have : b < w.heap.size := hb; omega)).trans (hkS.block b (by have : b < w.heap.size := hb; have := hkw; omega))).wide (D' := LtN W3) fun b hb => ltz hb hk4.size)
  | (with_reducible refine qhz (by kernel_rfl) 55 _ rfl Q rfl C2 hQ3 _ underlying55 (by kernel_rfl) (qfz hz2) ?_)
  | (go_at_call 136; (with_reducible refine ((kIz ho2).no hso).mono ?_); rintro e w5 ⟨rfl, hb5⟩; replace hk4 := btz hk4 hb5))
 exact ⟨rfl, ⟨4, by decide, rfl⟩, hk4⟩
theorem uBz (h : Kz Z w B T F x t ke ro ao n cap X A) (hg : Kg X n x) (ho : ObD (LtN w) w C o) (hE : dirE X x.label (A.getD 0 0) true = 0) (hL : L = true) (hso : q9z { o with id := 1 } = true) : Calls prog 88 #[.pointer (some ⟨B, 0, none⟩), .agg C, .bool L] w fun e w' => e = .returned (.tuple #[]) ∧ Below w.heap.size w w' := by
 subst hL
 have hmx : prog.follows .mixedOrders = true := by kernel_rfl
 have hBl := h.blk.lt
 have hzC := ho.size
 have ha0 := h.arg 0 (by omega)
 generalize A.getD 0 0 = d at ha0 hE
 obtain ⟨C2, hC2⟩ : ∃ C2, Hid (C.setIfInBounds 0 (.int .u64 1) = C2) := ⟨_, rfl⟩
 have ho2 := ho.newid 1
 rw [hC2.out] at ho2
 have hz2 := ho2.size
 have hk := brz w.heap.size w
 go_enter func88, ntmps88
 go_upto_region 1 with (first
  | go_skip
  | (with_reducible refine qcz rfl 55 _ rfl C rfl ?_; intro Q W1 hN1 hQ hk1; replace h := h.next hk1; replace hk := hk.trans hk1; have hQw : w.heap.size = Q := hN1.out.1; replace ho2 := (ho2.laterK (w' := W1) fun b hb => hk1.block b hb)))
 have hB := h.blk
 have hkz := brz W1.heap.size W1
 refine PgM.region_out (S := fun W => Blk W B F T ∧ Blk W Q C 55 ∧ Below W1.heap.size W1 W) hmx (⟨hB.next (brz _ _).drew, hQ.next (brz _ _).drew, hkz.trans ((brz _ _).drew.mono hkz.size)⟩) (fun hS0 => ?_)
 generalize W1.drew = v0 at hS0 ⊢
 refine qCz (by kernel_rfl) (fun _ _ _ _ _ h => h) hS0 [(0, none), (1, none), (2, none), (3, none), (4, none), (5, none), (6, none), (7, some (.pointer (some ⟨B, 55, none⟩))), (8, some (.int .u64 d))] (l' := #[tt, tt, tt, tt, tt, tt, tt, tt, tt, ff]) (a' := { tmps := #[.pointer (some ⟨B, 0, none⟩), .agg C, .bool true, undef, .pointer (some ⟨Q, 0, none⟩), undef, .pointer (some ⟨B, 0, none⟩), .pointer (some ⟨B, 0, none⟩), .pointer (some ⟨B, 0, none⟩), .pointer (some ⟨B, 0, none⟩), .pointer (some ⟨B, 0, none⟩), .pointer (some ⟨B, 0, none⟩), .pointer (some ⟨B, 55, none⟩), .pointer (some ⟨B, 55, none⟩), .int .u64 d, ud, ud, ud, ud, ud, ud, undef], defers := [] }) (obs := [.ia 27 (.pointer (some ⟨B, 55, none⟩)) (.int .i64 0) (.pointer (some ⟨B, 55, none⟩)), .load 22 B 55 (.int .u64 d)]) (n := 1) (by kernel_rfl) (by kernel_rfl) ⟨wEz (i := 0) (by omega), qez (fun W hS => hS.1) ha0 isAgg22, trivial⟩ ?_
 refine qkz (i := 9) (n := 0) rfl (by kernel_rfl) ?_
 refine quz (f := 93) (vs := [.pointer (some ⟨B, 0, none⟩), .int .u64 d, .bool true]) (d := some 15) (by kernel_rfl) call93 (yvz (h.next hS0.2.2) hg hE) ?_
 rintro e w01 ⟨C6, rfl, _, hb5⟩
 have hS01 : Blk w01 B F T ∧ Blk w01 Q C 55 ∧ Below W1.heap.size W1 w01 := ⟨hS0.1.next hb5, hS0.2.1.next hb5, hS0.2.2.trans (hb5.mono hS0.2.2.size)⟩
 refine ⟨_, rfl, hS01, ?_⟩
 refine wpAnyH_done (by kernel_rfl) ?_ _
 have hkS := hS01.2.2
 have hkw : w.heap.size ≤ W1.heap.size := hk.size
 replace hQ := hS01.2.1
 replace hk := btz hk hkS
 go_wp2_with (first
  | (go_at_call 101; (with_reducible refine (xTz _ _).mono ?_); rintro e w9 ⟨rfl, rfl⟩)
  | ((with_reducible refine qiz rfl 22 _ _ rfl Q 0 rfl (.int .u64 1) rfl rfl C _ hQ (by kernel_rfl) (by rw [hzC]; decide) rfl ?_); intro W3 hQ3 q3; rw [hC2.out] at hQ3; have hk4 := q3.below _ _ (Nat.le_of_eq hQw) hk; replace ho2 := (ho2.laterK (w' := W3) fun b hb => (q3.block b (by have : b < w.heap.size := hb; omega)).trans (hkS.block b (by have : b < w.heap.size := hb; have := hkw; omega))).wide (D' := LtN W3) fun b hb => ltz hb hk4.size)
  | (with_reducible refine qhz (by kernel_rfl) 55 _ rfl Q rfl C2 hQ3 _ underlying55 (by kernel_rfl) (qfz hz2) ?_)
  | (go_at_call 136; (with_reducible refine ((kIz ho2).yes hso).mono ?_); rintro e w5 ⟨rfl, hb5⟩; replace hk4 := btz hk4 hb5))
 go_end0
 exact ⟨rfl, hk4⟩
def creB (x : Ob) (L : Lb) : Bool := CkM.ownsNo L && (!CkM.abvB L && (leqB x.label L && leqB L x.th.clear))
def atN (X : List Ob) (x : Ob) (key a b : Nat) (d : Int) (o : Ob) : Int := attE (puR X (spO x ((a + 1 : Nat) : Int) b)) d { o with id := ((Pm.nameN key a : Nat) : Int) }
def atX (X : List Ob) (x : Ob) (key a b : Nat) (d : Int) (o : Ob) : List Ob := attX (puR X (spO x ((a + 1 : Nat) : Int) b)) d { o with id := ((Pm.nameN key a : Nat) : Int) }
structure Kw (x : Ob) (a b : Nat) : Prop where
 lo : x.th.lo = (a : Int)
 hi : x.th.hi = (b : Int)
 le : b ≤ 2305843009213693952
 ab : a ≤ b
theorem thing_ok {t ro : Int} (h : Kz Z w B T F x t (key : Int) ro ao n cap X A) (hg : Kg X n x) (hx : fnd X x.id = some x) (hw : Kw x a b) (hc : x.th.clear.length < 1048576) (ho : ObD (Kx Z B w) w C o) (hos : Small o) (hol : o.label.length < 1048576) (hE : dirE X x.label (A.getD 0 0) true = 0 ∧ creB x o.label = true ∧ q9z { o with id := 1 } = true) (hab : a < b) (hA : atN X x key a b (A.getD 0 0) o = 0) : Calls prog 85 #[.pointer (some ⟨B, 0, none⟩), .agg C] w fun e w' => e = .returned (.int .u64 (Pm.nameN key a : Nat)) ∧ (∃ F' ao2 n2 cap2, Kz Z w' B T F' (spO x ((a + 1 : Nat) : Int) b) t (key : Int) ro ao2 n2 cap2 (atX X x key a b (A.getD 0 0) o) A) ∧ Kt B w w' := by
 have hmx : prog.follows .mixedOrders = true := by kernel_rfl
 have hBl := h.blk.lt
 have hzC := ho.size
 have ha0 := h.arg 0 (by omega)
 have hk := Kt.refl B w
 obtain ⟨aL, nL, cL, eL, lL⟩ := ho.label
 have kL : nL < 1048576 := by rw [← lL.1]; exact hol
 have hcr := fun {W : World} (hk : Below w.heap.size w W) => bLz (h.next hk) hg.lab hc ((lL.laterK fun b hb => hk.block b hb.1.1).wide (D' := LtN W) fun b hb => ltz hb.1.1 hk.size) kL
 change ∀ {W : World}, Below w.heap.size w W → Calls prog _ _ W fun e w' => e = .returned (.bool (creB x o.label)) ∧ _ at hcr
 have hal : ∀ {W : World}, Below w.heap.size w W → ObD (LtN W) W C o → Calls prog 88 #[.pointer (some ⟨B, 0, none⟩), .agg C, .bool (creB x o.label)] W fun e w' => e = .returned (.tuple #[]) ∧ Below W.heap.size W w' := fun hk hO => by
  rw [hE.2.1]
  exact uBz (h.next hk) hg hO hE.1 rfl hE.2.2
 unfold atN at hA
 unfold atX
 generalize A.getD 0 0 = d at ha0 hE hA hal ⊢
 go_enter func85, ntmps85
 go_upto_region 1 with (first
  | go_skip
  | (with_reducible refine qcz rfl 55 _ rfl C rfl ?_; intro Q W1 hN1 hQ hk1; have hQw : w.heap.size = Q := hN1.out.1))
 have hB := h.blk.next hk1
 refine PgM.region_out (S := fun W => Blk W B F T ∧ Blk W Q C 55 ∧ Below w.heap.size w W) hmx (⟨hB.next (brz _ _).drew, hQ.next (brz _ _).drew, hk1.trans ((brz _ _).drew.mono hk1.size)⟩) (fun hS0 => ?_)
 generalize W1.drew = v0 at hS0 ⊢
 refine qCz (by kernel_rfl) (fun _ _ _ _ _ h => h) hS0 [(0, none), (1, some (.agg C)), (2, none), (3, none), (4, none), (5, none), (6, some (.slice aL nL cL))] (l' := #[tt, tt, tt, tt, tt, tt, tt, ff, ff]) (a' := { tmps := #[.pointer (some ⟨B, 0, none⟩), .agg C, undef, .pointer (some ⟨Q, 0, none⟩), .int .u64 0, .pointer (some ⟨B, 0, none⟩), .agg C, .pointer (some ⟨B, 0, none⟩), .pointer (some ⟨B, 0, none⟩), .pointer (some ⟨B, 0, none⟩), .pointer (some ⟨Q, 2, none⟩), .slice aL nL cL, ud, ud, ud, ud, ud, ud, ud, ud, ud, ud, ud, ud, undef], defers := [] }) (obs := [.load 55 Q 0 (.agg C), .load 39 Q 2 (.slice aL nL cL)]) (n := 2) (by kernel_rfl) (by kernel_rfl) ⟨qBz (fun W hS => hS.2.1) underlying55 rfl (qfz hzC), qez (fun W hS => hS.2.1) eL isAgg39, trivial⟩ ?_
 refine qkz (i := 7) (n := 1) rfl (by kernel_rfl) ?_
 refine quz (f := 92) (vs := [.pointer (some ⟨B, 0, none⟩), .slice aL nL cL]) (d := some 12) (by kernel_rfl) call92 (hcr hS0.2.2) ?_
 rintro e w01 ⟨rfl, hb5⟩
 have hS01 : Blk w01 B F T ∧ Blk w01 Q C 55 ∧ Below w.heap.size w w01 := ⟨hS0.1.next hb5, hS0.2.1.next hb5, hS0.2.2.trans (hb5.mono hS0.2.2.size)⟩
 refine ⟨_, rfl, hS01, ?_⟩
 refine qkz (i := 8) (n := 0) rfl (by kernel_rfl) ?_
 refine quz (f := 88) (vs := [.pointer (some ⟨B, 0, none⟩), .agg C, .bool (creB x o.label)]) (d := some 13) (by kernel_rfl) call88 (hal hS01.2.2 ((ho.laterK fun b hb => hS01.2.2.block b hb.1.1).wide fun b hb => ltz hb.1.1 hS01.2.2.size)) ?_
 rintro e w02 ⟨rfl, hb6⟩
 have hS02 : Blk w02 B F T ∧ Blk w02 Q C 55 ∧ Below w.heap.size w w02 := ⟨hS01.1.next hb6, hS01.2.1.next hb6, hS01.2.2.trans (hb6.mono hS01.2.2.size)⟩
 refine ⟨_, rfl, hS02, ?_⟩
 refine wpAnyH_done (by kernel_rfl) ?_ _
 have hk5 := hS02.2.2
 have hQ5 := hS02.2.1
 go_upto_region 2 with (first | go_skip)
 refine xMz (S := fun W => Blk W B F T ∧ Blk W Q C 55 ∧ Below w.heap.size w W) 10 hmx (⟨hS02.1.next (brz _ _).drew, hQ5.next (brz _ _).drew, hk5.trans ((brz _ _).drew.mono hk5.size)⟩) (fun hS5 => ?_)
 generalize w02.drew = v5 at hS5 ⊢
 refine wlz (by kernel_rfl) (fun _ _ _ _ _ h => h) hS5 [(0, none, [1, 2]), (1, none, [2]), (2, none, []), (3, none, [4, 5, 6, 7, 8]), (4, none, [5, 6, 7, 8]), (5, none, [6, 7, 8]), (6, none, [7, 8]), (7, some (.pointer (some ⟨B, 55, none⟩)), [8]), (8, some (.int .u64 d), []), (9, some (.agg C), [])] (l' := #[tt, tt, tt, tt, tt, tt, tt, tt, tt, tt, ff, ff]) (a' := { tmps := #[.pointer (some ⟨B, 0, none⟩), .agg C, undef, .pointer (some ⟨Q, 0, none⟩), .int .u64 0, .pointer (some ⟨B, 0, none⟩), .agg C, .pointer (some ⟨B, 0, none⟩), .pointer (some ⟨B, 0, none⟩), .pointer (some ⟨B, 0, none⟩), .pointer (some ⟨Q, 2, none⟩), .slice aL nL cL, .bool (creB x o.label), .tuple #[], .pointer (some ⟨B, 0, none⟩), .pointer (some ⟨B, 0, none⟩), .pointer (some ⟨B, 0, none⟩), .pointer (some ⟨B, 0, none⟩), .pointer (some ⟨B, 0, none⟩), .pointer (some ⟨B, 0, none⟩), .pointer (some ⟨B, 55, none⟩), .pointer (some ⟨B, 55, none⟩), .int .u64 d, .agg C, undef], defers := [] }) (obs := [.ia 27 (.pointer (some ⟨B, 55, none⟩)) (.int .i64 0) (.pointer (some ⟨B, 55, none⟩)), .load 22 B 55 (.int .u64 d), .load 55 Q 0 (.agg C)]) (n := 2) (by kernel_rfl) (by kernel_rfl) ⟨wEz (i := 0) (by omega), qez (fun W hS => hS.1) ha0 isAgg22, qBz (fun W hS => hS.2.1) underlying55 rfl (qfz hzC), trivial⟩ ?_
 refine wmz (i := 10) (n := 1) rfl (by kernel_rfl) (by kernel_rfl) ?_
 refine quz (f := 91) (vs := [.pointer (some ⟨B, 0, none⟩), .int .u64 d, .agg C]) (d := some 24) (by kernel_rfl) call91 (jvz (h.next hS5.2.2) hg (jIz hg.lay hx _ _) hw.lo hw.hi hab hw.le ((ho.laterK fun b hb => hS5.2.2.block b hb.1.1).wide fun b hb => ⟨⟨ltz hb.1.1 hS5.2.2.size, hb.1.2⟩, hb.2⟩) hos hol hA) ?_
 rintro e w51 ⟨rfl, hK, hk9⟩
 refine ⟨_, rfl, ?_⟩
 refine wmz (i := 11) (n := 0) rfl (by kernel_rfl) (by kernel_rfl) ?_
 refine vdz (d := some 4) (v := .int .u64 (Pm.nameN key a : Nat)) (by kernel_rfl) ?_
 refine xAz (by kernel_rfl) ?_ _
 go_wp2
 go_ret
 exact ⟨rfl, hK, (Kt.of hS5.2.2 hBl).trans hk9⟩
def nsO (L : Lb) (q : Int) (m : Nat) : Ob := ⟨0, 1, L, q, false, [], List.replicate m 0, [], zTh, zGt, [], []⟩
theorem bSz (aL aD : Option Addr) (nL cL m cD : Nat) (q : Int) : prog.built 55 [(1, .int .i64 1), (2, .slice aL nL cL), (3, .int .i64 q), (6, .slice aD m cD)] = some ((comC (.int .u64 0) (.int .i64 1) (.slice aL nL cL) (.int .i64 q) (.bool false)).setIfInBounds 6 (.slice aD m cD)) := by kernel_rfl
theorem uWz (m : Nat) : (madeCells (Value.int .u64 0).cells (m * 1)).toList = qNz (List.replicate m 0) := by
 apply List.ext_getElem
 ·simp [madeCells, qNz]
 ·intro i h1 h2
  simp [madeCells, qNz, Value.cells, Nat.mod_one]
theorem own_ct' {base : Nat} {a : Option Addr} {m c : Nat} {L : List Int} (h : w.ownsRow base 22 1 (.slice a m c) m (qNz L)) : CtD (fun b => base ≤ b ∧ b < w.heap.size) w a m c L := by
 obtain ⟨_, _, e, hc⟩ := RowC.of_owns h
 cases e
 exact hc.ct
theorem ns_small {L : Lb} (q : Int) (m : Nat) (hL : L.length < 1048576) (hm : m ≤ 65536) : Small (nsO L q m) :=
 ⟨show L.length < _ by omega, show (0 : Nat) < _ by decide, (show (List.replicate m (0 : Int)).length < _ by rw [List.length_replicate]; omega), show (0 : Nat) < _ by decide, show (0 : Nat) < _ by decide, show (0 : Nat) < _ by decide, show (0 : Nat) < _ by decide, show (0 : Nat) < _ by decide, show (0 : Nat) < _ by decide, show (0 : Nat) < _ by decide, show (0 : Nat) < _ by decide, show (0 : Nat) < _ by decide, show (0 : Nat) < _ by decide, show (0 : Nat) < _ by decide⟩
theorem ctv_of {D : Nat → Prop} {a : Option Addr} {m c : Nat} {L : List Int} (h : CtD D w a m c L) : CtV D w (some (.slice a m c)) L := ⟨_, _, _, rfl, h⟩
section
variable {Z : Nat → Prop} {w w' : World} {B : Nat} {T : TypeId} {F : Array Value} {x : Ob} {t ro : Int} {key a b : Nat} {ao : Option Addr} {n cap : Nat} {X : List Ob} {A : List Int}
theorem mkseg_ok {k m : Nat} {q : Int} (h : Kz Z w B T F x t (key : Int) ro ao n cap X A) (hg : Kg X n x) (hx : fnd X x.id = some x) (hw : Kw x a b) (hc : x.th.clear.length < 1048576) (hk1 : A.getD 1 0 = (k : Int)) (hk4 : k < 4) (hq : IntKind.i64.wrap (A.getD 2 0) = q) (hm : A.getD 3 0 = (m : Int)) (hm6 : m ≤ 65536) (hll : (labT x.th k).length < 1048576)
  (hE : dirE X x.label (A.getD 0 0) true = 0 ∧ creB x (labT x.th k) = true ∧ q9z { nsO (labT x.th k) q m with id := 1 } = true) (hab : a < b) (hA : atN X x key a b (A.getD 0 0) (nsO (labT x.th k) q m) = 0) :
  Calls prog 51 #[.pointer (some ⟨B, 0, none⟩)] w fun e w' => e = .returned (.int .u64 (Pm.nameN key a : Nat)) ∧ (∃ F' ao2 n2 cap2, Kz Z w' B T F' (spO x ((a + 1 : Nat) : Int) b) t (key : Int) ro ao2 n2 cap2 (atX X x key a b (A.getD 0 0) (nsO (labT x.th k) q m)) A) ∧ Kt B w w' := by
 obtain ⟨i0, hi, hz0, hz1, hz2⟩ := info_parts yxz
 have hB := h.blk
 have hBl := h.blk.lt
 have ha3 := h.arg 3 (by omega)
 rw [hm] at ha3
 have hi7 := fun W => xDz (b := B) (o := 55) (i := 3) (by omega) W
 have hm7 : (m : Int) ≤ 65536 := by omega
 have hzl := h.zlt
 have hlb : ∀ {W : World}, Kz Z W B T F x t (key : Int) ro ao n cap X A → Calls prog 86 #[.pointer (some ⟨B, 0, none⟩), .int .i64 1] W fun e w' => ∃ v, e = .returned v ∧ LbV (Kx Z B W) W (some v) (labT x.th k) ∧ W = w' := fun h => bgz h (i := 1) (by omega) hk1 hk4
 have hnb : ∀ {W : World}, Kz Z W B T F x t (key : Int) ro ao n cap X A → Calls prog 87 #[.pointer (some ⟨B, 0, none⟩), .int .i64 2] W fun e w' => e = .returned (.int .i64 q) ∧ W = w' := fun h => number_v h (i := 2) (by omega) hq
 have hth := fun {W : World} {C : Array Value} (h : Kz Z W B T F x t (key : Int) ro ao n cap X A) (ho : ObD (Kx Z B W) W C (nsO (labT x.th k) q m)) => thing_ok h hg hx hw hc ho (ns_small _ _ hll hm6) hll hE hab hA
 go_enter func51, ntmps51
 go_wp2_with (first
  | (with_reducible refine qVz (by kernel_rfl) _ _ _ rfl _ _ rfl rfl _ (hi7 _) ?_)
  | (with_reducible refine qaz (by kernel_rfl) _ _ rfl B _ rfl _ _ hB _ ha3 isAgg22 ?_)
  | (at_make; (refine wpList_make_full _ rfl (.tmp 10) (.tmp 10) 40 rfl w.heap.size 22 i0 (.int .u64 0) 1 underlying40 hi hz0 hz1 .u64 .u64 _ _ m rfl rfl (if_neg (by omega)) (if_neg (by omega)) (by rw [hz2]; omega) (by unfold maxLen; omega) (lrz _) ?_; intro W1 hown hgr; rw [uWz] at hown; have hb1 : Below w.heap.size w W1 := (brz _ _).grown hgr (lrz _) (fun k e => by cases e); have hz1 := h.next hb1; have hct := (own_ct' hown).wide (D' := Kx Z B W1) fun b hb => ⟨⟨hb.2, by have := hb.1; omega⟩, fun q => by have := hb.1; have := hzl b q; omega⟩; clear hB ha3))
  | (go_at_call 86; (with_reducible refine (hlb hz1).mono ?_); rintro e w2 ⟨_, rfl, ⟨aL, nL, cL, e9, hL⟩, rfl⟩; cases e9)
  | (go_at_call 87; (with_reducible refine (hnb hz1).mono ?_); rintro e w3 ⟨rfl, rfl⟩)
  | (with_reducible refine qyz rfl 55 [(1, .const (.int .i64 1)), (2, .tmp 16), (3, .tmp 18), (6, .tmp 19)] rfl _ (bSz _ _ _ _ _ _ _) ?_)
  | (go_at_call 85; (with_reducible refine (hth hz1 ((xyz hL).set6 (ctv_of hct) rfl)).mono ?_); rintro e w4 ⟨rfl, hK, hk9⟩))
 go_ret
 exact ⟨rfl, hK, (Kt.of hb1 hBl).trans hk9⟩
end
theorem share_no {Z : Nat → Prop} {w : World} {B : Nat} {T : TypeId} {F : Array Value} {x : Ob} {t ke ro : Int} {ao : Option Addr} {n cap : Nat} {X : List Ob} {A : List Int} {a b : Nat} (h : Kz Z w B T F x t ke ro ao n cap X A) (ha : x.th.lo = (a : Int)) (hb : x.th.hi = (b : Int)) (hab : a ≤ b) (hb2 : b ≤ 2305843009213693952) (hs : SrM.share a b = 0) : Calls prog 90 #[.pointer (some ⟨B, 0, none⟩)] w fun e w' => e = .panicked (wfz 7) ∧ Below w.heap.size w w' := by
 obtain ⟨S, hS⟩ : ∃ S : Array Value, Hid (S = #[.int .u64 (a : Int), .int .u64 (b : Int)]) := ⟨_, rfl⟩
 obtain ⟨S3, hS3⟩ : ∃ S : Array Value, Hid (S = #[.int .u64 0, .int .u64 0]) := ⟨_, rfl⟩
 have zS : S.size = 2 := by rw [hS.out]; rfl
 have oS : S.all (·.oneCell') = true := by rw [hS.out]; kernel_rfl
 have zS3 : S3.size = 2 := by rw [hS3.out]; rfl
 have oS3 : S3.all (·.oneCell') = true := by rw [hS3.out]; kernel_rfl
 have ht := fun w => SrM.split_none hab hb2 hs w
 rw [← hS.out, ← hS3.out] at ht
 have hzz : (#[.int .u64 0, .int .u64 0] : Array Value).size = S.size := by rw [zS]; rfl
 have hzz3 : (#[.int .u64 0, .int .u64 0] : Array Value).size = S3.size := by rw [zS3]; rfl
 have hk := brz w.heap.size w
 have tk0 : True := trivial
 have tk1 : True := trivial
 have tk2 : True := trivial
 replace ha : Hid _ := ha
 replace hb : Hid _ := hb
 clear hs hab hb2
 go_enter func90, ntmps90
 go_wp2_with (first
  | (with_reducible refine qxz (by kernel_rfl) 48 _ rfl B _ rfl S (ydz h hS.out ha.out hb.out) _ underlying48 (by kernel_rfl) (w4z zS) ?_)
  | (clear tk0; (with_reducible refine qdz rfl 48 rfl _ kBz ?_); intro R W0 hN0 hR hk0; replace hk := btz hk hk0; replace h := h.next hk0)
  | (go_at_call 138; (with_reducible refine (ht _).mono ?_); rintro e w1 ⟨rfl, hb1⟩; replace hk := btz hk hb1)
  | (clear tk1; (with_reducible refine qdz rfl 48 rfl _ kBz ?_); intro P2 W2 hN2 hP hk2; have hle := hN2.out.1)
  | (clear tk2; (with_reducible refine qdz rfl 48 rfl _ kBz ?_); intro P3 W3 hN3 hQ hk3; have hle3 := hN3.out.1; have hlt3 : P2 < P3 := (by have := hP.lt; omega); replace hP := hP.next hk3)
  | ((with_reducible refine qbz rfl _ _ _ rfl P2 rfl S rfl _ hP (w4z zS) hzz oS ?_); intro W4 hP4 q4; replace hQ := hQ.other q4 (by omega))
  | ((with_reducible refine qbz rfl _ _ _ rfl P3 rfl S3 rfl _ hQ (w4z zS3) hzz3 oS3 ?_); intro W5 hQ5 q5; have k5 : Below w1.heap.size w1 W5 := q5.below _ _ (by omega) (q4.below _ _ (by omega) (btz hk2 hk3)); replace hk := btz hk k5)
  | (go_at_call 139; (with_reducible refine (ysz (by decide) _).mono ?_); rintro e w9 ⟨rfl, rfl⟩))
 exact ⟨rfl, rfl, hk⟩
end
end Go.Proofs.YtloghnpfplljgaaGreat
