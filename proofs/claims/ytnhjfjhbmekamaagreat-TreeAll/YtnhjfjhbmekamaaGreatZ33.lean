/-
 PROVED HERE: what slices.Index, slices.Contains of words, and package tree's Holders return when they are called (contracts. What is asked stands at each.
-/
import Derived.Test.YtnhjfjhbmekamaaGreatZ23
import Derived.Test.YtnhjfjhbmekamaaGreatZ24
import Derived.Test.YtnhjfjhbmekamaaGreatZ28
import Derived.Test.YtnhjfjhbmekamaaGreatZ32
namespace Go.Proofs.YtnhjfjhbmekamaaGreat
set_option maxRecDepth 100000
set_option maxHeartbeats 8000000
open Go.RowKit Go.Shelf
set_option linter.unusedVariables false
attribute [local go_sem] Oper.semAt_some

theorem indexW_any {w : World} {al : Option Addr} {nl cl : Nat} {L : List Int} {i : Int} (h : CtD (LtN w) w al nl cl L) : Calls Tryz.prog 87 #[.slice al nl cl, .int .u64 i] w fun e w' => ∃ r : Int, e = .returned (.int .i64 r) ∧ Hid ((0 ≤ r ↔ i ∈ L) ∧ -1 ≤ r ∧ r ≤ cl) ∧ Below w.heap.size w w' := by
 have hn : Hid (L.length = nl) := h.1
 have hnc := h.2.1
 have hcm := h.2.2.1.1
 have ga1 := Tryz.isAgg22
 go_enter Tryz.func87, Tryz.ntmps87
 go_wp2
 go_loopw [8] (fun j wr => ∃ k : Nat, k ≤ nl ∧ j = .int .i64 k ∧ Hid (∀ q, q < k → L.getD q 0 ≠ i) ∧ wr = w) (fun j _ => nl - (intOf j).toNat)
 case atStart => exact ⟨0, Nat.zero_le _, rfl, fun q hq => absurd hq (by omega), rfl⟩
 case round =>
  obtain ⟨k, hk, rfl, hal, rfl⟩ := hrel
  by_cases hkn : k < nl
  ·obtain ⟨b, off, rfl, hb, hc⟩ := ct_at h hkn
   have hkn' : (k : Int) < nl := by omega
   go_wp2_with (first
    | (with_reducible refine wpList_loadc (by kernel_rfl) _ _ rfl b _ rfl _ hc ga1 ?_)
    | ((with_reducible refine wpList_test (by kernel_rfl) .eql _ _ _ _ rfl _ _ rfl rfl (eqg_int _ _ _ _ _ _) ?_ ?_) <;> intro hq))
   ·go_ret
    refine ⟨(k : Int), rfl, ⟨⟨fun _ => ?_, fun _ => by omega⟩, by omega, by omega⟩, Below.refl _ _⟩
    rw [hq.out]
    exact getD_mem (by rw [hn.out]; exact hkn)
   ·go_roundw
    case rel => exact ⟨k + 1, by omega, by go_num, fn_succ hal.out (fun e => hq.out e.symm), trivial⟩
    case measure => simp [intOf]; omega
  ·obtain rfl : k = nl := by omega
   go_wp2
   go_ret
   have hq : ¬ i ∈ L := by
    intro e
    obtain ⟨j, hj, q⟩ := List.getElem_of_mem e
    have := hal.out j (by rw [← hn.out]; exact hj)
    rw [List.getD_eq_getElem?_getD, List.getElem?_eq_getElem hj] at this
    exact this q
   exact ⟨-1, rfl, ⟨⟨fun e => absurd e (by decide), fun e => absurd e hq⟩, by decide, by omega⟩, Below.refl _ _⟩
theorem contW_any {w : World} {al : Option Addr} {nl cl : Nat} {L : List Int} {i : Int} (h : CtD (LtN w) w al nl cl L) : Asks 55 #[.slice al nl cl, .int .u64 i] (i ∈ L) w := by
 unfold Asks
 go_enter Tryz.func55, Tryz.ntmps55
 go_wp2_with (first
  | (go_at_call 87; (with_reducible refine (indexW_any h).mono ?_); rintro e w1 ⟨r, rfl, hr, hb1⟩))
 go_ret
 exact ⟨_, rfl, (show (decide (0 ≤ r) = true) ↔ i ∈ L from decide_eq_true_iff.trans hr.out.1), hb1⟩
theorem holders_w {w : World} {t ke ro : Int} {ao : Option Addr} {n cap : Nat} {X : List Ob} {i : Int} (h : Obs w ao n cap X) (hn16 : n ≤ 4096) : Calls Tryz.prog 19 #[.agg #[.int .i64 t, .int .u64 ke, .int .u64 ro, .slice ao n cap], .int .u64 i] w fun e w' => ∃ v, e = .returned v ∧ w'.ownsRow w.heap.size 22 1 v (holL X i).length (wordsC (holL X i)) ∧ Below w.heap.size w w' := by
 have hn : Hid (X.length = n) := h.1
 have hnc := h.2.1
 have hcm := h.2.2.1.1
 have ga1 := Tryz.isAgg22
 have ga3 := Tryz.isAgg23
 have ga4 := Tryz.isAgg28
 have c3 : (#[.int .i64 t, .int .u64 ke, .int .u64 ro, .slice ao n cap] : Array Value)[3]? = some (.slice ao n cap) := rfl
 obtain ⟨G, hG⟩ : ∃ G : Array Value, G = #[.int .i64 t, .int .u64 ke, .int .u64 ro, .slice ao n cap] := ⟨_, rfl⟩
 rw [← hG] at c3
 rw [← hG]
 clear hG
 go_enter Tryz.func19, Tryz.ntmps19
 go_wp2_with (first
  | (with_reducible refine wpList_box rfl _ _ rfl G rfl ?_; intro B W hB hb hk)
  | (with_reducible refine wpList_load1 (by kernel_rfl) _ _ rfl B _ rfl _ _ hb _ c3 ga3 ?_))
 have hBl : Hid (w.heap.size = B ∧ W.heap.size = B + 1) := hB
 clear hB
 go_loopw [5, 11] (fun v j wr => ∃ k : Nat, k ≤ n ∧ j = .int .i64 k ∧ wr.ownsRow W.heap.size 22 1 v (holL (X.take k) i).length (wordsC (holL (X.take k) i)) ∧ Below W.heap.size W wr) (fun _ j _ => n - (intOf j).toNat)
 case atStart => exact ⟨0, Nat.zero_le _, rfl, World.ownsRow_nil _ _ _ _, Below.refl _ _⟩
 case round =>
  obtain ⟨k, hkn1, rfl, hown, hb0⟩ := hrel
  have hbw := hk.trans (hb0.mono hk.size)
  replace hb := hb.next hb0
  have hb0s := hb0.size
  by_cases hkn : k < n
  ·obtain ⟨b, off, C, rfl, hbb, hC, hr⟩ := obs_at (obs_next h hbw) hkn
   obtain ⟨al, nl, cl, c5, hLk⟩ := hC.links
   have hkn' : (k : Int) < n := by omega
   have c0 := hC.id
   have hz := hC.size
   have h1c := hC.one
   have hsu := holL_succ (i := i) (show k < X.length by rw [hn.out]; exact hkn)
   have hl : (holL (X.take k) i).length ≤ k := by unfold holL; rw [List.length_map]; exact Nat.le_trans (List.length_filter_le ..) (by simp; omega)
   go_wp2_with (first
    | (with_reducible refine wpList_loadm (by kernel_rfl) 43 _ rfl b _ rfl C hr _ Tryz.underlying43 (by kernel_rfl) (size40C hz) ?_)
    | ((with_reducible refine wpList_alloc rfl _ rfl zC zero40 ?_); intro R W3 hB3 hR3 hk3)
    | ((with_reducible refine wpList_store_blk rfl _ _ _ rfl R rfl C rfl zC hR3 (size40C hz) (zC_size.trans hz.symm) h1c ?_); intro W4 hR4 o4; have k4 := o4.below wr.heap.size wr (by have := hB3.out.1; omega) hk3; have hL4 := (hLk.laterK fun b hb => k4.block b hb).wide (fun b (hb : b < wr.heap.size) => Nat.lt_of_lt_of_le hb k4.size))
    | (with_reducible refine wpList_load1 (by kernel_rfl) _ _ rfl R _ rfl _ _ hR4 _ c5 ga4 ?_)
    | (go_at_call 55; (with_reducible refine (contW_any hL4).on ?_ ?_) <;> (intro w1 hq hb1'; have hR1 := hR4.next hb1'; have hb1 := k4.trans (hb1'.mono k4.size); replace hb := hb.next hb1))
    | (with_reducible refine wpList_load1 (by kernel_rfl) _ _ rfl R _ rfl _ _ hR1 _ c0 ga1 ?_)
    | ((with_reducible refine wpList_bsw rfl _ rfl (oat X k).id rfl ?_); intro Bq W8 hBq hbq hk8; have hown8 := own_next (own_next hown hb1) hk8)
    | (at_builtin; refine wpList_append_row infoW Tryz.underlying28 rfl (by omega) rfl _ _ rfl W.heap.size _ _ _ rfl hown8 _ _ _ _ [.int .u64 (oat X k).id] rfl (row_word hbq) (fun u hu => by rw [List.mem_singleton] at hu; rw [hu]; rfl) (by unfold maxLen; omega) (by omega) (Nat.le_trans hb0s (Nat.le_trans hb1.size hk8.size)) ?_; intro v' w2 hown' hgrow))
   ·go_roundw
    case rel =>
     rw [if_pos hq.out] at hsu
     have hb2 : Below W.heap.size W w2 := ((hb0.trans (hb1.mono hb0s)).trans (hk8.mono (Nat.le_trans hb0s hb1.size))).grown hgrow (Nat.le_trans hb0s (Nat.le_trans hb1.size hk8.size)) (own_ge hown8)
     refine ⟨k + 1, by omega, by go_num, ?_, hb2⟩
     rw [hsu, List.length_append]
     have e : wordsC (holL (X.take k) i ++ [(oat X k).id]) = wordsC (holL (X.take k) i) ++ [.int .u64 (oat X k).id] := by simp [wordsC]
     rw [e]
     exact hown'
    case measure => simp [intOf]; omega
   ·go_roundw
    case rel =>
     rw [if_neg hq.out, List.append_nil] at hsu
     exact ⟨k + 1, by omega, by go_num, by rw [hsu]; exact own_next hown hb1, hb0.trans (hb1.mono hb0s)⟩
    case measure => simp [intOf]; omega
  ·obtain rfl : k = n := by omega
   go_wp2
   go_ret
   have ht : X.take k = X := by rw [← hn.out]; exact List.take_length
   rw [ht] at hown
   refine ⟨_, rfl, ⟨hown.1, ?_⟩, hbw⟩
   rcases hown.2 with q | ⟨g, c, cur, q1, q2, q3⟩
   ·exact .inl q
   ·exact .inr ⟨g, c, cur, q1, Nat.le_trans hk.size q2, q3⟩
end Go.Proofs.YtnhjfjhbmekamaaGreat
namespace Go.Proofs.YtnhjfjhbmekamaaGreat
set_option maxRecDepth 100000
set_option maxHeartbeats 8000000
open Go.RowKit Go.Shelf
set_option linter.unusedVariables false
attribute [local go_sem] Oper.semAt_some

theorem iaw_at {S : World → Prop} {b off i n cap : Nat} (hi : i < n) : Obl.holds Tryz.prog S (.ia 28 (.slice (some ⟨b, off, none⟩) n cap) (.int .i64 i) (.pointer (some ⟨b, off + i, none⟩))) := fun w hS => by
 have hi' : (i : Int) < n := by omega
 go_simp
theorem ob_word {S : World → Prop} {P : Program} {ty : TypeId} {b o : Nat} {v : Value} (hc : ∀ w, S w → w.cell? ⟨b, o, none⟩ = some v) (hg : ∀ w, (isAgg ty).run P w = .ok false w) : Obl.holds P S (.load ty b o v) := fun w hS => by
 simp [loadVar, hg, hc w hS]
theorem ob_lt {w W W' : World} {C : Array Value} {x : Ob} (h : ObD (LtN w) W C x) (k : Below w.heap.size w W) (q : Below W.heap.size W W') : ObD (LtN w) W' C x :=
 h.laterK fun b hb => q.block b (Nat.lt_of_lt_of_le hb k.size)
theorem ob_oth {w W W' : World} {P : Nat} {C : Array Value} {x : Ob} (h : ObD (LtN w) W C x) (hP : w.heap.size ≤ P) (q : Oth P W W') : ObD (LtN w) W' C x :=
 h.laterK fun b hb => q.block b (by have : b < w.heap.size := hb; omega)
theorem ob_up {w W : World} {C : Array Value} {x : Ob} (h : ObD (LtN w) W C x) (k : Below w.heap.size w W) : ObD (LtN W) W C x :=
 h.wide fun b hb => Nat.lt_of_lt_of_le hb k.size
theorem rfind_at {w W : World} {t ke ro : Int} {ao : Option Addr} {n cap : Nat} {X : List Ob} {i : Int} (h : Obs w ao n cap X) (k : Below w.heap.size w W) : Calls Tryz.prog 32 #[.agg #[.int .i64 t, .int .u64 ke, .int .u64 ro, .slice ao n cap], .int .u64 i] W fun e w' => ∃ C', e = .returned (.tuple #[.agg C', .bool (fnd X i).isSome]) ∧ ObD (LtN w) w' C' (fO X i) ∧ Below W.heap.size W w' :=
 rfind_d (D0 := LtN w) (fun _ hb => Nat.lt_of_lt_of_le hb k.size) (obsD_next h (fun _ hb => hb) k)
end Go.Proofs.YtnhjfjhbmekamaaGreat
namespace Go.Proofs.YtnhjfjhbmekamaaGreat
set_option maxRecDepth 100000
set_option maxHeartbeats 8000000
open Go.RowKit Go.Shelf
set_option linter.unusedVariables false
attribute [local go_sem] Oper.semAt_some

theorem own_ct {base : Nat} {w : World} {v : Value} {L : List Int} (h : w.ownsRow base 22 1 v L.length (wordsC L)) : ∃ al cl, v = .slice al L.length cl ∧ CtD (fun b => base ≤ b ∧ b < w.heap.size) w al L.length cl L := by
 obtain ⟨ao, cap, e, h1, h2, h3, h4⟩ := RowC.of_owns h
 refine ⟨ao, cap, e, rfl, h2, h3, fun hn => ?_⟩
 obtain ⟨b, off, ea, hb, hr⟩ := h4 hn
 refine ⟨b, off, ea, hb, fun i hi => ?_⟩
 refine hr i _ ?_
 unfold wordsC
 rw [List.getElem?_map, List.getElem?_eq_getElem hi, List.getD_eq_getElem?_getD, List.getElem?_eq_getElem hi]
 rfl
theorem own_base {W : World} {b b' : Nat} {e : TypeId} {size : Nat} {v : Value} {k : Nat} {xs : List Value} (hb : b' ≤ b) (h : W.ownsRow b e size v k xs) : W.ownsRow b' e size v k xs := by
 refine ⟨h.1, ?_⟩
 rcases h.2 with q | ⟨g, c, cur, q1, q2, q3⟩
 ·exact .inl q
 ·exact .inr ⟨g, c, cur, q1, Nat.le_trans hb q2, q3⟩
theorem abv_step {X : List Ob} {m : Nat} {j h : Int} {r : List Int} (e : holL X j = h :: r) : abvL X (m + 1) j = h :: abvL X m h := by
 conv => lhs; unfold abvL
 rw [e]
theorem abv_stop {X : List Ob} {m : Nat} {j : Int} (e : holL X j = []) : abvL X m j = [] := by
 cases m with
 | zero => rfl
 | succ m => unfold abvL; rw [e]
theorem rabove_w {w : World} {t ke ro : Int} {ao : Option Addr} {n cap : Nat} {X : List Ob} {i : Int} (h : Obs w ao n cap X) (hn16 : n ≤ 4096) : Calls Tryz.prog 22 #[.agg #[.int .i64 t, .int .u64 ke, .int .u64 ro, .slice ao n cap], .int .u64 i] w fun e w' => ∃ v, e = .returned v ∧ w'.ownsRow w.heap.size 22 1 v (rabv X i).length (wordsC (rabv X i)) ∧ Below w.heap.size w w' := by
 have hn : Hid (X.length = n) := h.1
 have ga1 := Tryz.isAgg22
 have ga3 := Tryz.isAgg23
 have c3 : (#[.int .i64 t, .int .u64 ke, .int .u64 ro, .slice ao n cap] : Array Value)[3]? = some (.slice ao n cap) := rfl
 have hzw : (Tryz.prog.info? 25).map (·.size) = some (#[.int .i64 t, .int .u64 ke, .int .u64 ro, .slice ao n cap] : Array Value).size := by kernel_rfl
 have hho := fun (W : World) (i : Int) (hk : Below w.heap.size w W) => rholders_any (t := t) (ke := ke) (ro := ro) (i := i) (obs_next h hk) hn16
 obtain ⟨G, hG⟩ : ∃ G : Array Value, G = #[.int .i64 t, .int .u64 ke, .int .u64 ro, .slice ao n cap] := ⟨_, rfl⟩
 rw [← hG] at c3 hzw hho
 rw [← hG]
 clear hG
 obtain ⟨A, hA⟩ : ∃ A, Hid (A = abvL X (n + 1) i) := ⟨_, rfl⟩
 obtain ⟨RV, hRV⟩ : ∃ RV, Hid (rabv X i = RV) := ⟨_, rfl⟩
 have hrv : Hid (RV = if A.length ≤ n then A else []) := by show RV = _; rw [← hRV.out]; unfold rabv; rw [hn.out, hA.out]
 rw [hRV.out]
 go_enter Tryz.func22, Tryz.ntmps22
 go_wp2_with (first
  | (with_reducible refine wpList_box rfl 25 _ rfl G rfl ?_; intro B2 W2 hN2 hB2 hk0))
 have hs0 := hk0.size
 clear hN2
 go_loopw [1, 5] (fun vi vo wr => ∃ (j : Int) (pre : List Int), vi = .int .u64 j ∧ pre.length ≤ n + 1 ∧ wr.ownsRow W2.heap.size 22 1 vo pre.length (wordsC pre) ∧ Hid (pre ++ abvL X (n + 1 - pre.length) j = A) ∧ Below W2.heap.size W2 wr) (fun _ vo _ => match vo with | .slice _ k _ => n + 1 - k | _ => 0)
 case atStart => exact ⟨i, [], rfl, Nat.zero_le _, World.ownsRow_nil _ _ _ _, hA.out.symm, Below.refl _ _⟩
 case round =>
  obtain ⟨j, pre, rfl, hpl, hown, hpa, hk2⟩ := hrel
  replace hB2 := hB2.next hk2
  have hk := hk0.trans (hk2.mono hs0)
  obtain ⟨al, cl, rfl, hct⟩ := own_ct hown
  by_cases hle : pre.length ≤ n
  ·have hle' : ((pre.length : Nat) : Int) ≤ n := by omega
   obtain ⟨m, hm⟩ : ∃ m, Hid (n + 1 - pre.length = m + 1) := ⟨n - pre.length, by show _ = _; omega⟩
   rw [hm.out] at hpa
   have hhj := hho wr j hk
   cases hj : holL X j with
   | nil =>
    rw [hj] at hhj
    have hA2 : Hid (A = pre) := by show A = pre; rw [← hpa.out, abv_stop hj, List.append_nil]
    go_wp2_with (first
     | (with_reducible refine wpList_load1 (by kernel_rfl) _ _ rfl B2 _ rfl _ _ hB2 _ c3 ga3 ?_)
     | (with_reducible refine wpList_loadb (by kernel_rfl) _ _ rfl B2 rfl G hB2 _ Tryz.underlying25 (by kernel_rfl) hzw ?_)
     | (go_at_call 20; (with_reducible refine hhj.mono ?_); rintro e w1 ⟨v, rfl, hown1, hb1⟩; obtain ⟨al1, cl1, rfl, hct1⟩ := own_ct hown1; replace hk := hk.trans (hb1.mono hk.size); have hown2 := own_next hown hb1))
    go_ret
    refine ⟨_, rfl, ?_, hk⟩
    have e : RV = pre := by rw [hrv.out, hA2.out, if_pos hle]
    rw [e]
    exact own_base hs0 hown2
   | cons a r =>
    rw [hj] at hhj
    have hst := abv_step (m := m) hj
    go_wp2_with (first
     | (with_reducible refine wpList_load1 (by kernel_rfl) _ _ rfl B2 _ rfl _ _ hB2 _ c3 ga3 ?_)
     | (with_reducible refine wpList_loadb (by kernel_rfl) _ _ rfl B2 rfl G hB2 _ Tryz.underlying25 (by kernel_rfl) hzw ?_)
     | (go_at_call 20; (with_reducible refine hhj.mono ?_); rintro e w1 ⟨v, rfl, hown1, hb1⟩; obtain ⟨al1, cl1, rfl, hct1⟩ := own_ct hown1; obtain ⟨b1, off1, rfl, hbb1, hc1⟩ := ct_at hct1 (i := 0) (by simp); have hB2' := hB2.next hb1; have hk1 := hk.trans (hb1.mono hk.size); have hown2 := own_next hown hb1; have hlr : (0 : Int) < ((a :: r).length : Nat) := (by simp only [List.length_cons]; omega); have hlz : ((((a :: r).length : Nat) : Int) == 0) = false := (by rw [beq_eq_false_iff_ne]; omega); simp only [List.getD_cons_zero] at hc1)
     | (with_reducible refine wpList_loadc (by kernel_rfl) _ _ rfl b1 _ rfl _ hc1 ga1 ?_)
     | ((with_reducible refine wpList_bsw rfl _ rfl a rfl ?_); intro Bq W8 hBq hbq hk8; have hown8 := own_next hown2 hk8)
     | (at_builtin; refine wpList_append_row infoW Tryz.underlying28 rfl (by omega) rfl _ _ rfl W2.heap.size _ _ _ rfl hown8 _ _ _ _ [.int .u64 a] rfl (row_word hbq) (fun u hu => by rw [List.mem_singleton] at hu; rw [hu]; rfl) (by unfold maxLen; omega) (by omega) (Nat.le_trans hk2.size (Nat.le_trans hb1.size hk8.size)) ?_; intro v' w2 hown' hgrow))
    go_roundw
    case rel =>
     have hk8' : Below W2.heap.size W2 W8 := (hk2.trans (hb1.mono hk2.size)).trans (hk8.mono (Nat.le_trans hk2.size hb1.size))
     have hb2 : Below W2.heap.size W2 w2 := hk8'.grown hgrow hk8'.size (own_ge hown8)
     refine ⟨a, pre ++ [a], rfl, by simp; omega, ?_, ?_, hb2⟩
     ·have e : wordsC (pre ++ [a]) = wordsC pre ++ [.int .u64 a] := by simp [wordsC]
      rw [e, List.length_append]
      exact hown'
     ·show pre ++ [a] ++ abvL X (n + 1 - (pre ++ [a]).length) a = A
      have e : n + 1 - (pre ++ [a]).length = m := by have := hm.out; simp; omega
      rw [e, ← hpa.out, hst, List.append_assoc]
      rfl
    case measure =>
     obtain ⟨al9, cl9, rfl, _⟩ := RowC.of_owns hown'
     simp only []
     omega
  ·have hle' : ¬ ((pre.length : Nat) : Int) ≤ n := by omega
   have hpn : Hid (pre.length = n + 1) := by show _ = _; omega
   have hA2 : Hid (A = pre) := by show A = pre; rw [← hpa.out, hpn.out, Nat.sub_self]; unfold abvL; rw [List.append_nil]
   go_wp2_with (first
    | (with_reducible refine wpList_load1 (by kernel_rfl) _ _ rfl B2 _ rfl _ _ hB2 _ c3 ga3 ?_))
   go_ret
   refine ⟨_, rfl, ?_, hk⟩
   have e : RV = [] := by rw [hrv.out, hA2.out, if_neg hle]
   rw [e]
   exact World.ownsRow_nil _ _ _ _
end Go.Proofs.YtnhjfjhbmekamaaGreat
namespace Go.Proofs.YtnhjfjhbmekamaaGreat
set_option maxRecDepth 100000
set_option maxHeartbeats 8000000
open Go.RowKit Go.Shelf
set_option linter.unusedVariables false
attribute [local go_sem] Oper.semAt_some

def insW (L : List Int) (i : Int) : List Int := L.take (ahW L i) ++ i :: L.drop (ahW L i)
theorem words_one {L : List Int} : ∀ u ∈ wordsC L, u.oneCell' = true := by
 intro u hu
 obtain ⟨x, _, rfl⟩ := List.mem_map.1 hu
 rfl
theorem sliceW_to {ao : Option Addr} {n cap k : Nat} (hk : k ≤ n) (hn : n ≤ cap) (W : World) : (Instr.sliceAt 28 (.slice ao n cap) none (some (.int .i64 (k : Int))) none).run Tryz.prog W = .ok (.slice ao k cap) W := by
 have h2 : k ≤ cap := by omega
 unfold Instr.sliceAt Instr.slice Instr.sliceBounds
 simp [go_sem, run_underlying Tryz.underlying28, Result.andThen, h2]
theorem ct_take {D : Nat → Prop} {w : World} {ao : Option Addr} {n cap k : Nat} {L : List Int} (h : CtD D w ao n cap L) (hk : k ≤ n) : CtD D w ao k cap (L.take k) := by
 obtain ⟨h1, h2, h3, h4⟩ := h
 refine ⟨by rw [List.length_take]; omega, by omega, h3, fun hz => ?_⟩
 obtain ⟨b, off, e, hb, hx⟩ := h4 (by omega)
 refine ⟨b, off, e, hb, fun i hi => ?_⟩
 rw [hx i (by omega)]
 congr 2
 simp only [List.getD_eq_getElem?_getD, List.getElem?_take, if_pos hi]
theorem sliceW_from {D : Nat → Prop} {w : World} {ao : Option Addr} {n cap k : Nat} {L : List Int} (h : CtD D w ao n cap L) (hk : k ≤ n) : ∃ a', CtD D w a' (n - k) (cap - k) (L.drop k) ∧ (∀ W, (Instr.sliceAt 28 (.slice ao n cap) (some (.int .i64 (k : Int))) none none).run Tryz.prog W = .ok (.slice a' (n - k) (cap - k)) W) := by
 cases ao with
 | none =>
  have h0 := h.2.2.1.2 rfl
  have hn := h.2.1
  obtain rfl : n = 0 := by omega
  obtain rfl : k = 0 := by omega
  subst h0
  refine ⟨none, by simpa using h, fun W => ?_⟩
  unfold Instr.sliceAt Instr.slice Instr.sliceBounds
  simp [go_sem, run_underlying Tryz.underlying28, Result.andThen]
 | some a =>
  have hn := h.2.1
  by_cases hc : cap = k
  ·have hkn : k = n := by omega
   refine ⟨some a, ?_, fun W => ?_⟩
   ·obtain ⟨h1, h2, h3, h4⟩ := h
    exact ⟨by rw [List.length_drop]; omega, by omega, ⟨by omega, fun e => by cases e⟩, fun hz => by omega⟩
   ·subst hc
    unfold Instr.sliceAt Instr.slice Instr.sliceBounds
    simp [go_sem, run_underlying Tryz.underlying28, Result.andThen, hk]
  ·refine ⟨some (a.add k), ?_, fun W => ?_⟩
   ·obtain ⟨h1, h2, h3, h4⟩ := h
    refine ⟨by rw [List.length_drop]; omega, by omega, ⟨by omega, fun e => by cases e⟩, fun hz => ?_⟩
    obtain ⟨b, off, e, hb, hx⟩ := h4 (by omega)
    cases e
    refine ⟨b, off + k, ?_, hb, fun i hi => ?_⟩
    ·unfold Addr.add
     split
     ·rename_i h0; rw [h0]; rfl
     ·rfl
    ·rw [show off + k + i = off + (k + i) by omega, hx _ (by omega)]
     congr 2
     simp only [List.getD_eq_getElem?_getD, List.getElem?_drop]
   ·unfold Instr.sliceAt Instr.slice Instr.sliceBounds
    simp [go_sem, run_underlying Tryz.underlying28, Result.andThen, hk, hc]
theorem infoSW : (Tryz.prog.info? 28).map (fun i => (i.zero, i.size, i.bytes)) = some (some (.slice none 0 0), 1, 24) := by kernel_rfl
theorem run_bs3W {a0 a1 a2 : Option Addr} {n0 n1 n2 c0 c1 c2 : Nat} (w : World) : (Instr.buildSlice 161 3 #[(0, .slice a0 n0 c0), (1, .slice a1 n1 c1), (2, .slice a2 n2 c2)]).run Tryz.prog w = .ok (.slice (some ⟨w.heap.size, 0, none⟩) 3 3) (w.alloc (.cells #[.slice a0 n0 c0, .slice a1 n1 c1, .slice a2 n2 c2] 28)) := by
 obtain ⟨i0, hi, hz0, hz1, hz2⟩ := info_parts infoSW
 refine run_buildSlice w _ _ 3 _ _ i0 _ Tryz.underlying161 hi hz0 (by rw [hz1]; omega) (by rw [hz1]; omega) ?_
 rw [hz1]
 have := Great.fill_whole (s := 1) (by omega) [.slice a0 n0 c0, .slice a1 n1 c1, .slice a2 n2 c2] ((Array.range (3 * 1)).map ((Value.slice none 0 0).cells[· % (Value.slice none 0 0).cells.size]!)) (by simp [Value.cells]) (by simp)
 simpa [Value.cells] using this
theorem linked_v {w : World} {al : Option Addr} {nl cl : Nat} {L : List Int} {i : Int} (h : CtD (LtN w) w al nl cl L) (hs : L.Pairwise (· < ·)) (hn16 : nl ≤ 4096) : Calls Tryz.prog 94 #[.slice al nl cl, .int .u64 i] w fun e w' => ∃ v, e = .returned v ∧ w'.ownsRow w.heap.size 22 1 v (insW L i).length (wordsC (insW L i)) ∧ Below w.heap.size w w' := by
 have hmx : Tryz.prog.follows .mixedOrders = true := by kernel_rfl
 have hbs := bsw_any (i := i) h hs hn16
 obtain ⟨k, hke⟩ : ∃ k, ahW L i = k := ⟨_, rfl⟩
 have hkl : k ≤ nl := by rw [← hke, ← h.1]; exact ahW_le L i
 have hlc := h.2.1
 have hLl : L.length = nl := h.1
 rw [hke] at hbs
 have h1 := ct_take h hkl
 obtain ⟨a3, h3, hs3⟩ := sliceW_from h hkl
 go_enter Tryz.func94, Tryz.ntmps94
 go_wp2_with (first
  | (go_at_call 123; (with_reducible refine hbs.mono ?_); rintro e w1 ⟨bb, rfl, rfl⟩))
 refine PgM.region_out (S := fun W => Below w1.heap.size w1 W) hmx ((Below.refl _ _).drew) (fun hS => ?_)
 generalize w1.drew = W5 at hS ⊢
 refine wpAnyH_sym (by kernel_rfl) (fun _ _ _ _ _ h => h) hS [(0, none), (1, none), (2, some (.slice al k cl)), (3, none), (5, none), (6, none), (7, some (.slice a3 (nl - k) (cl - k)))] (l' := #[true, true, true, true, false, true, true, true, false, false, false]) (a' := { tmps := #[.slice al nl cl, .int .u64 i, ud, undef, .slice none 0 0, .int .i64 k, .bool bb, .tuple #[.int .i64 k, .bool bb], .slice al nl cl, .int .u64 i, .tuple #[.int .i64 k, .bool bb], .int .i64 k, .bool bb, .slice al nl cl, .int .i64 k, .slice al k cl, .int .u64 i, undef, .slice al nl cl, .int .i64 k, .slice a3 (nl - k) (cl - k), ud, undef], defers := [] }) (obs := [.sl 28 (.slice al nl cl) (none) (some (.int .i64 k)) (none) (.slice al k cl), .sl 28 (.slice al nl cl) (some (.int .i64 k)) (none) (none) (.slice a3 (nl - k) (cl - k))]) (n := 4) (by kernel_rfl) (by kernel_rfl) ⟨fun W _ => sliceW_to hkl hlc W, fun W _ => hs3 W, trivial⟩ ?_
 refine wpAnyH_single (i := 4) (n := 3) rfl (by kernel_rfl) ?_
 refine wpOp_bsL (t := 28) (n := 1) (vs := [(0, .int .u64 i)]) (d := some 17) (by kernel_rfl) (run_bsw W5) ?_
 have kq := (Below.refl W5.heap.size W5).alloc (Nat.le_refl _) (.cells #[.int .u64 i] 22)
 have hq := Blk.new W5 #[.int .u64 i] 22
 generalize W5.alloc (.cells #[.int .u64 i] 22) = W6 at kq hq ⊢
 replace hS : Below w1.heap.size w1 W6 := hS.trans (kq.mono hS.size)
 clear kq
 generalize W5.heap.size = Bi at hq ⊢
 refine ⟨hS, ?_⟩
 refine wpAnyH_single (i := 8) (n := 2) rfl (by kernel_rfl) ?_
 refine wpOp_bsL (t := 161) (n := 3) (vs := [(0, .slice al k cl), (1, .slice (some ⟨Bi, 0, none⟩) 1 1), (2, .slice a3 (nl - k) (cl - k))]) (d := some 21) (by kernel_rfl) (run_bs3W W6) ?_
 have kq2 := (Below.refl W6.heap.size W6).alloc (Nat.le_refl _) (.cells #[.slice al k cl, .slice (some ⟨Bi, 0, none⟩) 1 1, .slice a3 (nl - k) (cl - k)] 28)
 have hq2 := Blk.new W6 #[.slice al k cl, .slice (some ⟨Bi, 0, none⟩) 1 1, .slice a3 (nl - k) (cl - k)] 28
 generalize W6.alloc (.cells #[.slice al k cl, .slice (some ⟨Bi, 0, none⟩) 1 1, .slice a3 (nl - k) (cl - k)] 28) = W7 at kq2 hq2 ⊢
 replace hq := hq.next kq2
 replace hS : Below w1.heap.size w1 W7 := hS.trans (kq2.mono hS.size)
 clear kq2
 generalize W6.heap.size = Bq at hq2 ⊢
 refine ⟨hS, ?_⟩
 have hcat := concatW_any (w := W7) (Bq := Bq) (m := 3) (af := fun i => if i = 0 then al else if i = 1 then some ⟨Bi, 0, none⟩ else a3) (nf := fun i => if i = 0 then k else if i = 1 then 1 else nl - k) (cf := fun i => if i = 0 then cl else if i = 1 then 1 else cl - k) (sf := fun q => if q = 0 then wordsC (L.take k) else if q = 1 then [.int .u64 i] else wordsC (L.drop k)) hq2
  (fun i hi => by rcases i with _ | _ | _ | i <;> first | rfl | (exfalso; omega))
  (fun i hi => by rcases i with _ | _ | _ | i <;> first | exact h1.row.next hS | exact row_word hq | exact h3.row.next hS | (exfalso; omega))
  (fun i hi => by rcases i with _ | _ | _ | i <;> first | exact words_one | (intro u hu; rw [List.mem_singleton.1 hu]; rfl) | (exfalso; omega)) (by omega) (by show 0 + k + 1 + (nl - k) < 4294967296; omega)
 refine wpAnyH_callL (i := 9) (fuel := 1) (f := 124) (vs := [.slice (some ⟨Bq, 0, none⟩) 3 3]) (d := some 22) (by kernel_rfl) (by kernel_rfl) (by kernel_rfl) Tryz.call124 hcat ?_
 rintro e W8 ⟨V, rfl, hown, kb⟩
 have hS8 : Below w1.heap.size w1 W8 := hS.trans (kb.mono hS.size)
 refine ⟨_, rfl, hS8, ?_⟩
 refine wpAnyH_sym (by kernel_rfl) (fun _ _ _ _ _ h => h) hS8 [(10, none)] (l' := #[true, true, true, true, true, true, true, true, true, true, true]) (a' := { tmps := #[.slice al nl cl, .int .u64 i, ud, undef, V, .int .i64 k, .bool bb, .tuple #[.int .i64 k, .bool bb], .slice al nl cl, .int .u64 i, .tuple #[.int .i64 k, .bool bb], .int .i64 k, .bool bb, .slice al nl cl, .int .i64 k, .slice al k cl, .int .u64 i, .slice (some ⟨Bi, 0, none⟩) 1 1, .slice al nl cl, .int .i64 k, .slice a3 (nl - k) (cl - k), .slice (some ⟨Bq, 0, none⟩) 3 3, V], defers := [] }) (obs := []) (n := 0) (by kernel_rfl) (by kernel_rfl) trivial ?_
 refine wpAnyH_done (by kernel_rfl) ?_ _
 go_wp2
 go_ret
 refine ⟨V, rfl, ?_, hS8⟩
 have e1 : insW L i = L.take k ++ [i] ++ L.drop k := by unfold insW; rw [hke]; simp
 have e2 : (insW L i).length = k + 1 + (nl - k) := by rw [e1]; simp; omega
 have e3 : wordsC (insW L i) = wordsC (L.take k) ++ [.int .u64 i] ++ wordsC (L.drop k) := by rw [e1]; simp [wordsC]
 rw [e2, e3]
 have := own_base hS.size hown
 simpa [psum, pcat] using this
end Go.Proofs.YtnhjfjhbmekamaaGreat
namespace Go.Proofs.YtnhjfjhbmekamaaGreat
set_option maxRecDepth 100000
set_option maxHeartbeats 8000000
open Go.RowKit Go.Shelf
set_option linter.unusedVariables false
attribute [local go_sem] Oper.semAt_some

theorem res43b {fn : Func} {p u : Tmp} (h : fn.results = #[.cell p 25, .tmp u]) {tmps : Array Value} {w : World} {B : Nat} {C : Array Value} {v : Value} (hp : tmps.getD p undef = .pointer (some ⟨B, 0, none⟩)) (hu : tmps.getD u undef = v) (hB : Blk w B C 25) (hs : C.size = 4) : (results fn tmps).run Tryz.prog w = .ok (.tuple #[.agg C, v]) w := by
 rw [results_cell_tmp h, hp, hu]
 have := run_loadVar_mid (P := Tryz.prog) w B 0 25 C.toList _ hB.range0 Tryz.underlying25 rfl (by rw [size43]; simp [hs])
 rw [Array.toArray_toList] at this
 simp [asAddr, this, Result.andThen]
abbrev ObsN (w : World) (D0 : Nat → Prop) (w' : World) (ao : Option Addr) (n cap : Nat) (X : List Ob) : Prop := ObsD (New w w') (fun b => D0 b ∨ New w w' b) w' ao n cap X
theorem ObsN.store {w w' w'' : World} {D0 : Nat → Prop} {ao : Option Addr} {n cap : Nat} {X : List Ob} {R : Nat} (h : ObsN w D0 w' ao n cap X) (q : Oth R w' w'') (hR : R < w.heap.size) (hD : ∀ b, D0 b → b ≠ R) : ObsN w D0 w'' ao n cap X := by
 have e : w''.heap.size = w'.heap.size := q.size
 have h1 := h.laterK (w' := w'') (fun b hb => q.block b (by rcases hb with c | c; exact hD b c; have := c.1; omega)) (fun b hb => q.block b (by have := hb.1; omega))
 exact h1.wide (fun b hb => hb.imp id fun c => ⟨c.1, by rw [e]; exact c.2⟩) (fun b hb => ⟨hb.1, by rw [e]; exact hb.2⟩)
theorem ObsN.low {w W w' : World} {D0 : Nat → Prop} {ao : Option Addr} {n cap : Nat} {X : List Ob} (h : ObsN W D0 w' ao n cap X) (k : w.heap.size ≤ W.heap.size) : ObsN w D0 w' ao n cap X :=
 ObsD.wide h (fun b hb => hb.imp id fun c => ⟨Nat.le_trans k c.1, c.2⟩) (fun b hb => ⟨Nat.le_trans k hb.1, hb.2⟩)
theorem ObsN.next {w w' w'' : World} {D0 : Nat → Prop} {ao : Option Addr} {n cap : Nat} {X : List Ob} (h : ObsN w D0 w' ao n cap X) (hD : ∀ b, D0 b → b < w'.heap.size) (k : Below w'.heap.size w' w'') : ObsN w D0 w'' ao n cap X := by
 have h1 := ObsD.laterK h (w' := w'') (fun b hb => k.block b (by rcases hb with c | c; exact hD b c; exact c.2)) (fun b hb => k.block b hb.2)
 exact h1.wide (fun b hb => hb.imp id fun c => ⟨c.1, Nat.lt_of_lt_of_le c.2 k.size⟩) (fun b hb => ⟨hb.1, Nat.lt_of_lt_of_le hb.2 k.size⟩)
theorem refused_v {w : World} {t ke ro er : Int} {ao : Option Addr} {n cap : Nat} {X : List Ob} {D0 : Nat → Prop} (hD : ∀ b, D0 b → b < w.heap.size) (h : ObsD (LtN w) D0 w ao n cap X) (hs : Srt X) (hn16 : n < 1024) (hsm : Smalls X) (hid : fnd X 0 = none) : Calls Tryz.prog 60 #[.agg #[.int .i64 t, .int .u64 ke, .int .u64 ro, .slice ao n cap], .int .i64 er] w fun e w' => ∃ ao2 n2 cap2, e = .returned (.tuple #[.agg #[.int .i64 t, .int .u64 ke, .int .u64 ro, .slice ao2 n2 cap2], .int .i64 er]) ∧ ObsN w D0 w' ao2 n2 cap2 X ∧ Below w.heap.size w w' := by
 have hzw : (Tryz.prog.info? 25).map (·.size) = some (#[.int .i64 t, .int .u64 ke, .int .u64 ro, .slice ao n cap] : Array Value).size := by kernel_rfl
 have hV : (#[.int .i64 t, .int .u64 ke, .int .u64 ro, .slice ao n cap] : Array Value).extract 0 (0 + 4) = #[.int .i64 t, .int .u64 ke, .int .u64 ro, .slice ao n cap] := rfl
 have hG4 : 0 + 4 ≤ (#[.int .i64 t, .int .u64 ke, .int .u64 ro, .slice ao n cap] : Array Value).size := Nat.le_refl _
 have hz2 : ∀ v, (Tryz.prog.info? 25).map (·.size) = some (#[.int .i64 t, .int .u64 ke, .int .u64 ro, v] : Array Value).size := fun _ => size43
 have hs2 : ∀ v, zW.size = (#[.int .i64 t, .int .u64 ke, .int .u64 ro, v] : Array Value).size := fun _ => rfl
 have h12 : ∀ ao n cap, (#[.int .i64 t, .int .u64 ke, .int .u64 ro, .slice ao n cap] : Array Value).all (·.oneCell') = true := fun _ _ _ => by kernel_rfl
 have hdr := fun (W : World) (hk : Below w.heap.size w W) => drop_w (t := t) (ke := ke) (ro := ro) (i := 0) (D0 := D0) (fun b hb => Nat.lt_of_lt_of_le (hD b hb) hk.size) (obsD_next h hD hk) hs hn16 hsm
 simp only [drp_none hs hid] at hdr
 obtain ⟨G, hG⟩ : ∃ G : Array Value, G = #[.int .i64 t, .int .u64 ke, .int .u64 ro, .slice ao n cap] := ⟨_, rfl⟩
 rw [← hG] at hzw hdr hV hG4
 rw [← hG]
 clear hG
 go_enter Tryz.func60, Tryz.ntmps60
 go_wp2_with (first
  | (with_reducible refine wpList_box rfl 70 _ rfl G rfl ?_; intro B W2 hN2 hB hk)
  | ((with_reducible refine wpList_alloc rfl _ rfl zW zero43 ?_); intro R W3 hN3 hR hk3; replace hB := hB.next hk3; replace hk := hk.trans (hk3.mono hk.size))
  | (with_reducible refine wpList_loadp (by kernel_rfl) 25 _ rfl B 0 rfl 4 G _ hB G hV hG4 _ Tryz.underlying25 (by kernel_rfl) size43 ?_)
  | (go_at_call 92; (with_reducible refine (hdr _ hk).mono ?_); rintro e w4 ⟨aX, nX, cX, rfl, oX, hb4⟩; replace hR := hR.next hb4)
  | ((with_reducible refine wpList_store_blk rfl _ _ _ rfl R rfl _ rfl zW hR (hz2 _) (hs2 _) (h12 aX nX cX) ?_); intro W5 hR5 q5))
 refine bodyPost_ret (res43b Tryz.results60 rfl rfl hR5 rfl) rfl ?_
 have hRw : w.heap.size ≤ R ∧ R < W3.heap.size := by have := hN2.out; have := hN3.out; omega
 have hN := (ObsN.store oX q5 hRw.2 (fun b hb => by have := hD b hb; omega)).low hk.size
 exact ⟨aX, nX, cX, rfl, hN, q5.below _ _ hRw.1 (hk.trans (hb4.mono hk.size))⟩
end Go.Proofs.YtnhjfjhbmekamaaGreat
