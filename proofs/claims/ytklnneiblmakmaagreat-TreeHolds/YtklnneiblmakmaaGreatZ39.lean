/-
 PROVED HERE: what slices.Index, slices.Contains of words, and package tree's Holders return when they are called (contracts. What is asked stands at each.
-/
import Derived.Test.YtklnneiblmakmaaGreatZ24
import Derived.Test.YtklnneiblmakmaaGreatZ25
import Derived.Test.YtklnneiblmakmaaGreatZ35
import Derived.Test.YtklnneiblmakmaaGreatZ38
namespace Go.Proofs.YtklnneiblmakmaaGreat
set_option maxRecDepth 100000
set_option maxHeartbeats 8000000
set_option linter.unusedVariables false
open Go.Proofs.Tryz
section
open Go.RowKit Go.Shelf
attribute [local go_sem] Oper.semAt_some
theorem yOz {w : World} {al : Option Addr} {nl cl : Nat} {L : List Int} {i : Int} (h : CtD (LtN w) w al nl cl L) : Calls prog 75 #[.slice al nl cl, .int .u64 i] w fun e w' => ∃ r : Int, e = .returned (.int .i64 r) ∧ Hid ((0 ≤ r ↔ i ∈ L) ∧ -1 ≤ r ∧ r ≤ cl) ∧ Below w.heap.size w w' := by
 have hn : Hid (L.length = nl) := h.1
 have hnc := h.2.1
 have hcm := h.2.2.1.1
 have ga1 := isAgg22
 go_enter func75, ntmps75
 go_wp2
 go_loopw [8] (fun j wr => ∃ k : Nat, k ≤ nl ∧ j = .int .i64 k ∧ Hid (∀ q, q < k → L.getD q 0 ≠ i) ∧ wr = w) (fun j _ => nl - (intOf j).toNat)
 case atStart => exact ⟨0, Nat.zero_le _, rfl, fun q hq => absurd hq (by omega), rfl⟩
 case round =>
  obtain ⟨k, hk, rfl, hal, rfl⟩ := hrel
  by_cases hkn : k < nl
  ·obtain ⟨b, off, rfl, hb, hc⟩ := jpz h hkn
   have hkn' : (k : Int) < nl := by omega
   go_wp2_with (first
    | (with_reducible refine qOz (by kernel_rfl) _ _ rfl b _ rfl _ hc ga1 ?_)
    | ((with_reducible refine qgz (by kernel_rfl) .eql _ _ _ _ rfl _ _ rfl rfl (qvz _ _ _ _ _ _) ?_ ?_) <;> intro hq))
   ·go_ret
    refine ⟨(k : Int), rfl, ⟨⟨fun _ => ?_, fun _ => by omega⟩, by omega, by omega⟩, Below.refl _ _⟩
    rw [hq.out]
    exact jiz (by rw [hn.out]; exact hkn)
   ·go_roundw
    case rel => exact ⟨k + 1, by omega, by go_num, wqz hal.out (fun e => hq.out e.symm), trivial⟩
    case measure => simp [intOf]; omega
  ·obtain rfl : k = nl := by omega
   go_wp2
   go_ret
   have hq : ¬ i ∈ L := by
    intro e
    obtain ⟨j, hj, q⟩ := List.getElem_of_mem e
    have := hal.out j (by rw [← hn.out]; exact hj)
    rw [List.getD_eq_getElem?_getD, List.getElem?_eq_getElem hj] at this
    exact this q
   exact ⟨-1, rfl, ⟨⟨fun e => absurd e (by decide), fun e => absurd e hq⟩, by decide, by omega⟩, Below.refl _ _⟩
theorem ktz {w : World} {al : Option Addr} {nl cl : Nat} {L : List Int} {i : Int} (h : CtD (LtN w) w al nl cl L) : Asks 43 #[.slice al nl cl, .int .u64 i] (i ∈ L) w := by
 unfold Asks
 go_enter func43, ntmps43
 go_wp2_with (first
  | (go_at_call 75; (with_reducible refine (yOz h).mono ?_); rintro e w1 ⟨r, rfl, hr, hb1⟩))
 go_ret
 exact ⟨_, rfl, (show (decide (0 ≤ r) = true) ↔ i ∈ L from decide_eq_true_iff.trans hr.out.1), hb1⟩
theorem gbz {w : World} {t ke ro : Int} {ao : Option Addr} {n cap : Nat} {X : List Ob} {i : Int} (h : Obs w ao n cap X) (hn16 : n ≤ 4096) : Calls prog 21 #[.agg #[.int .i64 t, .int .u64 ke, .int .u64 ro, .slice ao n cap], .int .u64 i] w fun e w' => ∃ v, e = .returned v ∧ w'.ownsRow w.heap.size 22 1 v (holL X i).length (qIz (holL X i)) ∧ Below w.heap.size w w' := by
 have hn : Hid (X.length = n) := h.1
 have hnc := h.2.1
 have hcm := h.2.2.1.1
 have ga1 := isAgg22
 have ga3 := isAgg23
 have ga4 := isAgg28
 have c3 : (#[.int .i64 t, .int .u64 ke, .int .u64 ro, .slice ao n cap] : Array Value)[3]? = some (.slice ao n cap) := rfl
 obtain ⟨G, hG⟩ : ∃ G : Array Value, G = #[.int .i64 t, .int .u64 ke, .int .u64 ro, .slice ao n cap] := ⟨_, rfl⟩
 rw [← hG] at c3
 rw [← hG]
 clear hG
 go_enter func21, ntmps21
 go_wp2_with (first
  | (with_reducible refine qdz rfl _ _ rfl G rfl ?_; intro B W hB hb hk)
  | (with_reducible refine qbz (by kernel_rfl) _ _ rfl B _ rfl _ _ hb _ c3 ga3 ?_))
 have hBl : Hid (w.heap.size = B ∧ W.heap.size = B + 1) := hB
 clear hB
 go_loopw [5, 11] (fun v j wr => ∃ k : Nat, k ≤ n ∧ j = .int .i64 k ∧ wr.ownsRow W.heap.size 22 1 v (holL (X.take k) i).length (qIz (holL (X.take k) i)) ∧ Below W.heap.size W wr) (fun _ j _ => n - (intOf j).toNat)
 case atStart => exact ⟨0, Nat.zero_le _, rfl, World.ownsRow_nil _ _ _ _, Below.refl _ _⟩
 case round =>
  obtain ⟨k, hkn1, rfl, hown, hb0⟩ := hrel
  have hbw := btz hk hb0
  replace hb := hb.next hb0
  have hb0s := hb0.size
  by_cases hkn : k < n
  ·obtain ⟨b, off, C, rfl, hbb, hC, hr⟩ := wrz (qzz h hbw) hkn
   obtain ⟨al, nl, cl, c5, hLk⟩ := hC.links
   have hkn' : (k : Int) < n := by omega
   have c0 := hC.id
   have hz := hC.size
   have h1c := hC.one
   have hsu := j2z (i := i) (show k < X.length by rw [hn.out]; exact hkn)
   have hl : (holL (X.take k) i).length ≤ k := by unfold holL; rw [List.length_map]; exact Nat.le_trans (List.length_filter_le ..) (by simp; omega)
   go_wp2_with (first
    | (with_reducible refine qBz (by kernel_rfl) 43 _ rfl b _ rfl C hr _ underlying43 (by kernel_rfl) (qfz hz) ?_)
    | ((with_reducible refine qcz rfl _ rfl zC qqz ?_); intro R W3 hB3 hR3 hk3)
    | ((with_reducible refine qaz rfl _ _ _ rfl R rfl C rfl zC hR3 (qfz hz) (qmz.trans hz.symm) h1c ?_); intro W4 hR4 o4; have k4 := o4.below wr.heap.size wr (by have := hB3.out.1; omega) hk3; have hL4 := (hLk.laterK fun b hb => k4.block b hb).wide (fun b (hb : b < wr.heap.size) => Nat.lt_of_lt_of_le hb k4.size))
    | (with_reducible refine qbz (by kernel_rfl) _ _ rfl R _ rfl _ _ hR4 _ c5 ga4 ?_)
    | (go_at_call 43; (with_reducible refine (ktz hL4).on ?_ ?_) <;> (intro w1 hq hb1'; have hR1 := hR4.next hb1'; have hb1 := btz k4 hb1'; replace hb := hb.next hb1))
    | (with_reducible refine qbz (by kernel_rfl) _ _ rfl R _ rfl _ _ hR1 _ c0 ga1 ?_)
    | ((with_reducible refine xvz rfl _ rfl (oat X k).id rfl ?_); intro Bq W8 hBq hbq hk8; have hown8 := wuz (wuz hown hb1) hk8)
    | (at_builtin; refine qHz vDz underlying28 rfl (by omega) rfl _ _ rfl W.heap.size _ _ _ rfl hown8 _ _ _ _ [.int .u64 (oat X k).id] rfl (xVz hbq) (fun u hu => by rw [List.mem_singleton] at hu; rw [hu]; rfl) (by unfold maxLen; omega) (by omega) (Nat.le_trans hb0s (Nat.le_trans hb1.size hk8.size)) ?_; intro v' w2 hown' hgrow))
   ·go_roundw
    case rel =>
     rw [if_pos hq.out] at hsu
     have hb2 : Below W.heap.size W w2 := ((hb0.trans (hb1.mono hb0s)).trans (hk8.mono (Nat.le_trans hb0s hb1.size))).grown hgrow (Nat.le_trans hb0s (Nat.le_trans hb1.size hk8.size)) (jNz hown8)
     refine ⟨k + 1, by omega, by go_num, ?_, hb2⟩
     rw [hsu, List.length_append]
     have e : qIz (holL (X.take k) i ++ [(oat X k).id]) = qIz (holL (X.take k) i) ++ [.int .u64 (oat X k).id] := by simp [qIz]
     rw [e]
     exact hown'
    case measure => simp [intOf]; omega
   ·go_roundw
    case rel =>
     rw [if_neg hq.out, List.append_nil] at hsu
     exact ⟨k + 1, by omega, by go_num, by rw [hsu]; exact wuz hown hb1, hb0.trans (hb1.mono hb0s)⟩
    case measure => simp [intOf]; omega
  ·obtain rfl : k = n := by omega
   go_wp2
   go_ret
   have ht : X.take k = X := by rw [← hn.out]; exact List.take_length
   rw [ht] at hown
   refine ⟨_, rfl, ⟨hown.1, ?_⟩, hbw⟩
   rcases hown.2 with q | ⟨g, c, cur, q1, q2, q3⟩
   ·exact .inl q
   ·exact .inr ⟨g, c, cur, q1, Nat.le_trans hk.size q2, q3⟩
end
section
open Go.RowKit Go.Shelf
attribute [local go_sem] Oper.semAt_some
theorem kPz {S : World → Prop} {b off i n cap : Nat} (hi : i < n) : Obl.holds prog S (.ia 28 (.slice (some ⟨b, off, none⟩) n cap) (.int .i64 i) (.pointer (some ⟨b, off + i, none⟩))) := fun w hS => by
 have hi' : (i : Int) < n := by omega
 go_simp
theorem xBz {S : World → Prop} {P : Program} {ty : TypeId} {b o : Nat} {v : Value} (hc : ∀ w, S w → w.cell? ⟨b, o, none⟩ = some v) (hg : ∀ w, (isAgg ty).run P w = .ok false w) : Obl.holds P S (.load ty b o v) := fun w hS => by
 simp [loadVar, hg, hc w hS]
theorem yKz {w W W' : World} {C : Array Value} {x : Ob} (h : ObD (LtN w) W C x) (k : Below w.heap.size w W) (q : Below W.heap.size W W') : ObD (LtN w) W' C x :=
 h.laterK fun b hb => q.block b (Nat.lt_of_lt_of_le hb k.size)
theorem ob_oth {w W W' : World} {P : Nat} {C : Array Value} {x : Ob} (h : ObD (LtN w) W C x) (hP : w.heap.size ≤ P) (q : Oth P W W') : ObD (LtN w) W' C x :=
 h.laterK fun b hb => q.block b (by have : b < w.heap.size := hb; omega)
theorem ob_up {w W : World} {C : Array Value} {x : Ob} (h : ObD (LtN w) W C x) (k : Below w.heap.size w W) : ObD (LtN W) W C x :=
 h.wide fun b hb => Nat.lt_of_lt_of_le hb k.size
theorem xXz {w W : World} {t ke ro : Int} {ao : Option Addr} {n cap : Nat} {X : List Ob} {i : Int} (h : Obs w ao n cap X) (k : Below w.heap.size w W) : Calls prog 19 #[.agg #[.int .i64 t, .int .u64 ke, .int .u64 ro, .slice ao n cap], .int .u64 i] W fun e w' => ∃ C', e = .returned (.tuple #[.agg C', .bool (fnd X i).isSome]) ∧ ObD (LtN w) w' C' (fO X i) ∧ Below W.heap.size W w' :=
 uBz (D0 := LtN w) (fun _ hb => Nat.lt_of_lt_of_le hb k.size) (qUz h (fun _ hb => hb) k)
end
section
open Go.RowKit Go.Shelf
attribute [local go_sem] Oper.semAt_some
theorem xPz {base : Nat} {w : World} {v : Value} {L : List Int} (h : w.ownsRow base 22 1 v L.length (qIz L)) : ∃ al cl, v = .slice al L.length cl ∧ CtD (fun b => base ≤ b ∧ b < w.heap.size) w al L.length cl L := by
 obtain ⟨ao, cap, e, h1, h2, h3, h4⟩ := RowC.of_owns h
 refine ⟨ao, cap, e, rfl, h2, h3, fun hn => ?_⟩
 obtain ⟨b, off, ea, hb, hr⟩ := h4 hn
 refine ⟨b, off, ea, hb, fun i hi => ?_⟩
 refine hr i _ ?_
 unfold qIz
 rw [List.getElem?_map, List.getElem?_eq_getElem hi, List.getD_eq_getElem?_getD, List.getElem?_eq_getElem hi]
 rfl
theorem v1z {W : World} {b b' : Nat} {e : TypeId} {size : Nat} {v : Value} {k : Nat} {xs : List Value} (hb : b' ≤ b) (h : W.ownsRow b e size v k xs) : W.ownsRow b' e size v k xs := by
 refine ⟨h.1, ?_⟩
 rcases h.2 with q | ⟨g, c, cur, q1, q2, q3⟩
 ·exact .inl q
 ·exact .inr ⟨g, c, cur, q1, Nat.le_trans hb q2, q3⟩
theorem abv_step {X : List Ob} {m : Nat} {j h : Int} {r : List Int} (e : holL X j = h :: r) : abvL X (m + 1) j = h :: abvL X m h := by
 conv => lhs; unfold abvL
 rw [e]
theorem abv_stop {X : List Ob} {m : Nat} {j : Int} (e : holL X j = []) : abvL X m j = [] := by
 cases m with
 | zero => rfl
 | succ m => unfold abvL; rw [e]
theorem rabove_w {w : World} {t ke ro : Int} {ao : Option Addr} {n cap : Nat} {X : List Ob} {i : Int} (h : Obs w ao n cap X) (hn16 : n ≤ 4096) : Calls prog 90 #[.agg #[.int .i64 t, .int .u64 ke, .int .u64 ro, .slice ao n cap], .int .u64 i] w fun e w' => ∃ v, e = .returned v ∧ w'.ownsRow w.heap.size 22 1 v (rabv X i).length (qIz (rabv X i)) ∧ Below w.heap.size w w' := by
 have hn : Hid (X.length = n) := h.1
 have ga1 := isAgg22
 have ga3 := isAgg23
 have c3 : (#[.int .i64 t, .int .u64 ke, .int .u64 ro, .slice ao n cap] : Array Value)[3]? = some (.slice ao n cap) := rfl
 have hzw : (prog.info? 25).map (·.size) = some (#[.int .i64 t, .int .u64 ke, .int .u64 ro, .slice ao n cap] : Array Value).size := by kernel_rfl
 have hho := fun (W : World) (i : Int) (hk : Below w.heap.size w W) => xOz (t := t) (ke := ke) (ro := ro) (i := i) (qzz h hk) hn16
 obtain ⟨G, hG⟩ : ∃ G : Array Value, G = #[.int .i64 t, .int .u64 ke, .int .u64 ro, .slice ao n cap] := ⟨_, rfl⟩
 rw [← hG] at c3 hzw hho
 rw [← hG]
 clear hG
 obtain ⟨A, hA⟩ : ∃ A, Hid (A = abvL X (n + 1) i) := ⟨_, rfl⟩
 obtain ⟨RV, hRV⟩ : ∃ RV, Hid (rabv X i = RV) := ⟨_, rfl⟩
 have hrv : Hid (RV = if A.length ≤ n then A else []) := by show RV = _; rw [← hRV.out]; unfold rabv; rw [hn.out, hA.out]
 rw [hRV.out]
 go_enter func90, ntmps90
 go_wp2_with (first
  | (with_reducible refine qdz rfl 25 _ rfl G rfl ?_; intro B2 W2 hN2 hB2 hk0))
 have hs0 := hk0.size
 clear hN2
 go_loopw [1, 5] (fun vi vo wr => ∃ (j : Int) (pre : List Int), vi = .int .u64 j ∧ pre.length ≤ n + 1 ∧ wr.ownsRow W2.heap.size 22 1 vo pre.length (qIz pre) ∧ Hid (pre ++ abvL X (n + 1 - pre.length) j = A) ∧ Below W2.heap.size W2 wr) (fun _ vo _ => match vo with | .slice _ k _ => n + 1 - k | _ => 0)
 case atStart => exact ⟨i, [], rfl, Nat.zero_le _, World.ownsRow_nil _ _ _ _, hA.out.symm, Below.refl _ _⟩
 case round =>
  obtain ⟨j, pre, rfl, hpl, hown, hpa, hk2⟩ := hrel
  replace hB2 := hB2.next hk2
  have hk := hk0.trans (hk2.mono hs0)
  obtain ⟨al, cl, rfl, hct⟩ := xPz hown
  by_cases hle : pre.length ≤ n
  ·have hle' : ((pre.length : Nat) : Int) ≤ n := by omega
   obtain ⟨m, hm⟩ : ∃ m, Hid (n + 1 - pre.length = m + 1) := ⟨n - pre.length, by show _ = _; omega⟩
   rw [hm.out] at hpa
   have hhj := hho wr j hk
   cases hj : holL X j with
   | nil =>
    rw [hj] at hhj
    have hA2 : Hid (A = pre) := by show A = pre; rw [← hpa.out, abv_stop hj, List.append_nil]
    go_wp2_with (first
     | (with_reducible refine qbz (by kernel_rfl) _ _ rfl B2 _ rfl _ _ hB2 _ c3 ga3 ?_)
     | (with_reducible refine qez (by kernel_rfl) _ _ rfl B2 rfl G hB2 _ underlying25 (by kernel_rfl) hzw ?_)
     | (go_at_call 56; (with_reducible refine hhj.mono ?_); rintro e w1 ⟨v, rfl, hown1, hb1⟩; obtain ⟨al1, cl1, rfl, hct1⟩ := xPz hown1; replace hk := btz hk hb1; have hown2 := wuz hown hb1))
    go_ret
    refine ⟨_, rfl, ?_, hk⟩
    have e : RV = pre := by rw [hrv.out, hA2.out, if_pos hle]
    rw [e]
    exact v1z hs0 hown2
   | cons a r =>
    rw [hj] at hhj
    have hst := abv_step (m := m) hj
    go_wp2_with (first
     | (with_reducible refine qbz (by kernel_rfl) _ _ rfl B2 _ rfl _ _ hB2 _ c3 ga3 ?_)
     | (with_reducible refine qez (by kernel_rfl) _ _ rfl B2 rfl G hB2 _ underlying25 (by kernel_rfl) hzw ?_)
     | (go_at_call 56; (with_reducible refine hhj.mono ?_); rintro e w1 ⟨v, rfl, hown1, hb1⟩; obtain ⟨al1, cl1, rfl, hct1⟩ := xPz hown1; obtain ⟨b1, off1, rfl, hbb1, hc1⟩ := jpz hct1 (i := 0) (by simp); have hB2' := hB2.next hb1; have hk1 := btz hk hb1; have hown2 := wuz hown hb1; have hlr : (0 : Int) < ((a :: r).length : Nat) := (by simp only [List.length_cons]; omega); have hlz : ((((a :: r).length : Nat) : Int) == 0) = false := (by rw [beq_eq_false_iff_ne]; omega); simp only [List.getD_cons_zero] at hc1)
     | (with_reducible refine qOz (by kernel_rfl) _ _ rfl b1 _ rfl _ hc1 ga1 ?_)
     | ((with_reducible refine xvz rfl _ rfl a rfl ?_); intro Bq W8 hBq hbq hk8; have hown8 := wuz hown2 hk8)
     | (at_builtin; refine qHz vDz underlying28 rfl (by omega) rfl _ _ rfl W2.heap.size _ _ _ rfl hown8 _ _ _ _ [.int .u64 a] rfl (xVz hbq) (fun u hu => by rw [List.mem_singleton] at hu; rw [hu]; rfl) (by unfold maxLen; omega) (by omega) (Nat.le_trans hk2.size (Nat.le_trans hb1.size hk8.size)) ?_; intro v' w2 hown' hgrow))
    go_roundw
    case rel =>
     have hk8' : Below W2.heap.size W2 W8 := (btz hk2 hb1).trans (hk8.mono (Nat.le_trans hk2.size hb1.size))
     have hb2 : Below W2.heap.size W2 w2 := hk8'.grown hgrow hk8'.size (jNz hown8)
     refine ⟨a, pre ++ [a], rfl, by simp; omega, ?_, ?_, hb2⟩
     ·have e : qIz (pre ++ [a]) = qIz pre ++ [.int .u64 a] := by simp [qIz]
      rw [e, List.length_append]
      exact hown'
     ·show pre ++ [a] ++ abvL X (n + 1 - (pre ++ [a]).length) a = A
      have e : n + 1 - (pre ++ [a]).length = m := by have := hm.out; simp; omega
      rw [e, ← hpa.out, hst, List.append_assoc]
      rfl
    case measure =>
     obtain ⟨al9, cl9, rfl, _⟩ := RowC.of_owns hown'
     simp only []
     omega
  ·have hle' : ¬ ((pre.length : Nat) : Int) ≤ n := by omega
   have hpn : Hid (pre.length = n + 1) := by show _ = _; omega
   have hA2 : Hid (A = pre) := by show A = pre; rw [← hpa.out, hpn.out, Nat.sub_self]; unfold abvL; rw [List.append_nil]
   go_wp2_with (first
    | (with_reducible refine qbz (by kernel_rfl) _ _ rfl B2 _ rfl _ _ hB2 _ c3 ga3 ?_))
   go_ret
   refine ⟨_, rfl, ?_, hk⟩
   have e : RV = [] := by rw [hrv.out, hA2.out, if_neg hle]
   rw [e]
   exact World.ownsRow_nil _ _ _ _
end
section
open Go.RowKit Go.Shelf
attribute [local go_sem] Oper.semAt_some
def insW (L : List Int) (i : Int) : List Int := L.take (ahW L i) ++ i :: L.drop (ahW L i)
theorem y5z {L : List Int} : ∀ u ∈ qIz L, u.oneCell' = true := by
 intro u hu
 obtain ⟨x, _, rfl⟩ := List.mem_map.1 hu
 rfl
theorem ukz {ao : Option Addr} {n cap k : Nat} (hk : k ≤ n) (hn : n ≤ cap) (W : World) : (Instr.sliceAt 28 (.slice ao n cap) none (some (.int .i64 (k : Int))) none).run prog W = .ok (.slice ao k cap) W := by
 have h2 : k ≤ cap := by omega
 unfold Instr.sliceAt Instr.slice Instr.sliceBounds
 simp [go_sem, run_underlying underlying28, Result.andThen, h2]
theorem ct_take {D : Nat → Prop} {w : World} {ao : Option Addr} {n cap k : Nat} {L : List Int} (h : CtD D w ao n cap L) (hk : k ≤ n) : CtD D w ao k cap (L.take k) := by
 obtain ⟨h1, h2, h3, h4⟩ := h
 refine ⟨by rw [List.length_take]; omega, by omega, h3, fun hz => ?_⟩
 obtain ⟨b, off, e, hb, hx⟩ := h4 (by omega)
 refine ⟨b, off, e, hb, fun i hi => ?_⟩
 rw [hx i (by omega)]
 congr 2
 simp only [List.getD_eq_getElem?_getD, List.getElem?_take, if_pos hi]
theorem vpz {D : Nat → Prop} {w : World} {ao : Option Addr} {n cap k : Nat} {L : List Int} (h : CtD D w ao n cap L) (hk : k ≤ n) : ∃ a', CtD D w a' (n - k) (cap - k) (L.drop k) ∧ (∀ W, (Instr.sliceAt 28 (.slice ao n cap) (some (.int .i64 (k : Int))) none none).run prog W = .ok (.slice a' (n - k) (cap - k)) W) := by
 cases ao with
 | none =>
  have h0 := h.2.2.1.2 rfl
  have hn := h.2.1
  obtain rfl : n = 0 := by omega
  obtain rfl : k = 0 := by omega
  subst h0
  refine ⟨none, by simpa using h, fun W => ?_⟩
  unfold Instr.sliceAt Instr.slice Instr.sliceBounds
  simp [go_sem, run_underlying underlying28, Result.andThen]
 | some a =>
  have hn := h.2.1
  by_cases hc : cap = k
  ·have hkn : k = n := by omega
   refine ⟨some a, ?_, fun W => ?_⟩
   ·obtain ⟨h1, h2, h3, h4⟩ := h
    exact ⟨by rw [List.length_drop]; omega, by omega, ⟨by omega, fun e => by cases e⟩, fun hz => by omega⟩
   ·subst hc
    unfold Instr.sliceAt Instr.slice Instr.sliceBounds
    simp [go_sem, run_underlying underlying28, Result.andThen, hk]
  ·refine ⟨some (a.add k), ?_, fun W => ?_⟩
   ·obtain ⟨h1, h2, h3, h4⟩ := h
    refine ⟨by rw [List.length_drop]; omega, by omega, ⟨by omega, fun e => by cases e⟩, fun hz => ?_⟩
    obtain ⟨b, off, e, hb, hx⟩ := h4 (by omega)
    cases e
    refine ⟨b, off + k, ?_, hb, fun i hi => ?_⟩
    ·unfold Addr.add
     split
     ·rename_i h0; rw [h0]; rfl
     ·rfl
    ·rw [show off + k + i = off + (k + i) by omega, hx _ (by omega)]
     congr 2
     simp only [List.getD_eq_getElem?_getD, List.getElem?_drop]
   ·unfold Instr.sliceAt Instr.slice Instr.sliceBounds
    simp [go_sem, run_underlying underlying28, Result.andThen, hk, hc]
theorem infoSW : (prog.info? 28).map (fun i => (i.zero, i.size, i.bytes)) = some (some (.slice none 0 0), 1, 24) := by kernel_rfl
theorem run_bs3W {a0 a1 a2 : Option Addr} {n0 n1 n2 c0 c1 c2 : Nat} (w : World) : (Instr.buildSlice 150 3 #[(0, .slice a0 n0 c0), (1, .slice a1 n1 c1), (2, .slice a2 n2 c2)]).run prog w = .ok (.slice (some ⟨w.heap.size, 0, none⟩) 3 3) (w.alloc (.cells #[.slice a0 n0 c0, .slice a1 n1 c1, .slice a2 n2 c2] 28)) := by
 obtain ⟨i0, hi, hz0, hz1, hz2⟩ := info_parts infoSW
 refine run_buildSlice w _ _ 3 _ _ i0 _ underlying150 hi hz0 (by rw [hz1]; omega) (by rw [hz1]; omega) ?_
 rw [hz1]
 have := Great.fill_whole (s := 1) (by omega) [.slice a0 n0 c0, .slice a1 n1 c1, .slice a2 n2 c2] ((Array.range (3 * 1)).map ((Value.slice none 0 0).cells[· % (Value.slice none 0 0).cells.size]!)) (by simp [Value.cells]) (by simp)
 simpa [Value.cells] using this
theorem linked_v {w : World} {al : Option Addr} {nl cl : Nat} {L : List Int} {i : Int} (h : CtD (LtN w) w al nl cl L) (hs : L.Pairwise (· < ·)) (hn16 : nl ≤ 4096) : Calls prog 73 #[.slice al nl cl, .int .u64 i] w fun e w' => ∃ v, e = .returned v ∧ w'.ownsRow w.heap.size 22 1 v (insW L i).length (qIz (insW L i)) ∧ Below w.heap.size w w' := by
 have hmx : prog.follows .mixedOrders = true := by kernel_rfl
 have hbs := bsw_any (i := i) h hs hn16
 obtain ⟨k, hke⟩ : ∃ k, ahW L i = k := ⟨_, rfl⟩
 have hkl : k ≤ nl := by rw [← hke, ← h.1]; exact gEz L i
 have hlc := h.2.1
 have hLl : L.length = nl := h.1
 rw [hke] at hbs
 have h1 := ct_take h hkl
 obtain ⟨a3, h3, hs3⟩ := vpz h hkl
 go_enter func73, ntmps73
 go_wp2_with (first
  | (go_at_call 105; (with_reducible refine hbs.mono ?_); rintro e w1 ⟨bb, rfl, rfl⟩))
 refine PgM.region_out (S := fun W => Below w1.heap.size w1 W) hmx ((Below.refl _ _).drew) (fun hS => ?_)
 generalize w1.drew = W5 at hS ⊢
 refine qiz (by kernel_rfl) (fun _ _ _ _ _ h => h) hS [(0, none), (1, none), (2, some (.slice al k cl)), (3, none), (5, none), (6, none), (7, some (.slice a3 (nl - k) (cl - k)))] (l' := #[tt, tt, tt, tt, ff, tt, tt, tt, ff, ff, ff]) (a' := { tmps := #[.slice al nl cl, .int .u64 i, ud, undef, .slice none 0 0, .int .i64 k, .bool bb, .tuple #[.int .i64 k, .bool bb], .slice al nl cl, .int .u64 i, .tuple #[.int .i64 k, .bool bb], .int .i64 k, .bool bb, .slice al nl cl, .int .i64 k, .slice al k cl, .int .u64 i, undef, .slice al nl cl, .int .i64 k, .slice a3 (nl - k) (cl - k), ud, undef], defers := [] }) (obs := [.sl 28 (.slice al nl cl) (none) (some (.int .i64 k)) (none) (.slice al k cl), .sl 28 (.slice al nl cl) (some (.int .i64 k)) (none) (none) (.slice a3 (nl - k) (cl - k))]) (n := 4) (by kernel_rfl) (by kernel_rfl) ⟨fun W _ => ukz hkl hlc W, fun W _ => hs3 W, trivial⟩ ?_
 refine qCz (i := 4) (n := 3) rfl (by kernel_rfl) ?_
 refine kXz (t := 28) (n := 1) (vs := [(0, .int .u64 i)]) (d := some 17) (by kernel_rfl) (upz W5) ?_
 have kq := (Below.refl W5.heap.size W5).alloc (Nat.le_refl _) (.cells #[.int .u64 i] 22)
 have hq := Blk.new W5 #[.int .u64 i] 22
 generalize W5.alloc (.cells #[.int .u64 i] 22) = W6 at kq hq ⊢
 replace hS : Below w1.heap.size w1 W6 := btz hS kq
 clear kq
 generalize W5.heap.size = Bi at hq ⊢
 refine ⟨hS, ?_⟩
 refine qCz (i := 8) (n := 2) rfl (by kernel_rfl) ?_
 refine kXz (t := 150) (n := 3) (vs := [(0, .slice al k cl), (1, .slice (some ⟨Bi, 0, none⟩) 1 1), (2, .slice a3 (nl - k) (cl - k))]) (d := some 21) (by kernel_rfl) (run_bs3W W6) ?_
 have kq2 := (Below.refl W6.heap.size W6).alloc (Nat.le_refl _) (.cells #[.slice al k cl, .slice (some ⟨Bi, 0, none⟩) 1 1, .slice a3 (nl - k) (cl - k)] 28)
 have hq2 := Blk.new W6 #[.slice al k cl, .slice (some ⟨Bi, 0, none⟩) 1 1, .slice a3 (nl - k) (cl - k)] 28
 generalize W6.alloc (.cells #[.slice al k cl, .slice (some ⟨Bi, 0, none⟩) 1 1, .slice a3 (nl - k) (cl - k)] 28) = W7 at kq2 hq2 ⊢
 replace hq := hq.next kq2
 replace hS : Below w1.heap.size w1 W7 := btz hS kq2
 clear kq2
 generalize W6.heap.size = Bq at hq2 ⊢
 refine ⟨hS, ?_⟩
 have hcat := vHz (w := W7) (Bq := Bq) (m := 3) (af := fun i => if i = 0 then al else if i = 1 then some ⟨Bi, 0, none⟩ else a3) (nf := fun i => if i = 0 then k else if i = 1 then 1 else nl - k) (cf := fun i => if i = 0 then cl else if i = 1 then 1 else cl - k) (sf := fun q => if q = 0 then qIz (L.take k) else if q = 1 then [.int .u64 i] else qIz (L.drop k)) hq2
  (fun i hi => by rcases i with _ | _ | _ | i <;> first | rfl | (exfalso; omega))
  (fun i hi => by rcases i with _ | _ | _ | i <;> first | exact h1.row.next hS | exact xVz hq | exact h3.row.next hS | (exfalso; omega))
  (fun i hi => by rcases i with _ | _ | _ | i <;> first | exact y5z | (intro u hu; rw [List.mem_singleton.1 hu]; rfl) | (exfalso; omega)) (by omega) (by show 0 + k + 1 + (nl - k) < 4294967296; omega)
 refine qnz (i := 9) (fuel := 1) (f := 106) (vs := [.slice (some ⟨Bq, 0, none⟩) 3 3]) (d := some 22) (by kernel_rfl) (by kernel_rfl) (by kernel_rfl) call106 hcat ?_
 rintro e W8 ⟨V, rfl, hown, kb⟩
 have hS8 : Below w1.heap.size w1 W8 := btz hS kb
 refine ⟨_, rfl, hS8, ?_⟩
 refine qiz (by kernel_rfl) (fun _ _ _ _ _ h => h) hS8 [(10, none)] (l' := #[tt, tt, tt, tt, tt, tt, tt, tt, tt, tt, tt]) (a' := { tmps := #[.slice al nl cl, .int .u64 i, ud, undef, V, .int .i64 k, .bool bb, .tuple #[.int .i64 k, .bool bb], .slice al nl cl, .int .u64 i, .tuple #[.int .i64 k, .bool bb], .int .i64 k, .bool bb, .slice al nl cl, .int .i64 k, .slice al k cl, .int .u64 i, .slice (some ⟨Bi, 0, none⟩) 1 1, .slice al nl cl, .int .i64 k, .slice a3 (nl - k) (cl - k), .slice (some ⟨Bq, 0, none⟩) 3 3, V], defers := [] }) (obs := []) (n := 0) (by kernel_rfl) (by kernel_rfl) trivial ?_
 refine wpAnyH_done (by kernel_rfl) ?_ _
 go_wp2
 go_ret
 refine ⟨V, rfl, ?_, hS8⟩
 have e1 : insW L i = L.take k ++ [i] ++ L.drop k := by unfold insW; rw [hke]; simp
 have e2 : (insW L i).length = k + 1 + (nl - k) := by rw [e1]; simp; omega
 have e3 : qIz (insW L i) = qIz (L.take k) ++ [.int .u64 i] ++ qIz (L.drop k) := by rw [e1]; simp [qIz]
 rw [e2, e3]
 have := v1z hS.size hown
 simpa [psum, pcat] using this
end
section
open Go.RowKit Go.Shelf
attribute [local go_sem] Oper.semAt_some
theorem qPz {fn : Func} {p u : Tmp} (h : fn.results = #[.cell p 25, .tmp u]) {tmps : Array Value} {w : World} {B : Nat} {C : Array Value} {v : Value} (hp : tmps.getD p undef = .pointer (some ⟨B, 0, none⟩)) (hu : tmps.getD u undef = v) (hB : Blk w B C 25) (hs : C.size = 4) : (results fn tmps).run prog w = .ok (.tuple #[.agg C, v]) w := by
 rw [results_cell_tmp h, hp, hu]
 have := run_loadVar_mid (P := prog) w B 0 25 C.toList _ hB.range0 underlying25 rfl (by rw [wfz]; simp [hs])
 rw [Array.toArray_toList] at this
 simp [asAddr, this, Result.andThen]
abbrev ObsN (w : World) (D0 : Nat → Prop) (w' : World) (ao : Option Addr) (n cap : Nat) (X : List Ob) : Prop := ObsD (New w w') (fun b => D0 b ∨ New w w' b) w' ao n cap X
theorem ObsN.store {w w' w'' : World} {D0 : Nat → Prop} {ao : Option Addr} {n cap : Nat} {X : List Ob} {R : Nat} (h : ObsN w D0 w' ao n cap X) (q : Oth R w' w'') (hR : R < w.heap.size) (hD : ∀ b, D0 b → b ≠ R) : ObsN w D0 w'' ao n cap X := by
 have e : w''.heap.size = w'.heap.size := q.size
 have h1 := h.laterK (w' := w'') (fun b hb => q.block b (by rcases hb with c | c; exact hD b c; have := c.1; omega)) (fun b hb => q.block b (by have := hb.1; omega))
 exact h1.wide (fun b hb => hb.imp id fun c => ⟨c.1, by rw [e]; exact c.2⟩) (fun b hb => ⟨hb.1, by rw [e]; exact hb.2⟩)
theorem ObsN.low {w W w' : World} {D0 : Nat → Prop} {ao : Option Addr} {n cap : Nat} {X : List Ob} (h : ObsN W D0 w' ao n cap X) (k : w.heap.size ≤ W.heap.size) : ObsN w D0 w' ao n cap X :=
 ObsD.wide h (fun b hb => hb.imp id fun c => ⟨Nat.le_trans k c.1, c.2⟩) (fun b hb => ⟨Nat.le_trans k hb.1, hb.2⟩)
theorem ObsN.next {w w' w'' : World} {D0 : Nat → Prop} {ao : Option Addr} {n cap : Nat} {X : List Ob} (h : ObsN w D0 w' ao n cap X) (hD : ∀ b, D0 b → b < w'.heap.size) (k : Below w'.heap.size w' w'') : ObsN w D0 w'' ao n cap X := by
 have h1 := ObsD.laterK h (w' := w'') (fun b hb => k.block b (by rcases hb with c | c; exact hD b c; exact c.2)) (fun b hb => k.block b hb.2)
 exact h1.wide (fun b hb => hb.imp id fun c => ⟨c.1, Nat.lt_of_lt_of_le c.2 k.size⟩) (fun b hb => ⟨hb.1, Nat.lt_of_lt_of_le hb.2 k.size⟩)
theorem wXz {w : World} {t ke ro er : Int} {ao : Option Addr} {n cap : Nat} {X : List Ob} {D0 : Nat → Prop} (hD : ∀ b, D0 b → b < w.heap.size) (h : ObsD (LtN w) D0 w ao n cap X) (hs : Srt X) (hn16 : n < 1024) (hsm : wbz X) (hid : fnd X 0 = none) : Calls prog 38 #[.agg #[.int .i64 t, .int .u64 ke, .int .u64 ro, .slice ao n cap], .int .i64 er] w fun e w' => ∃ ao2 n2 cap2, e = .returned (.tuple #[.agg #[.int .i64 t, .int .u64 ke, .int .u64 ro, .slice ao2 n2 cap2], .int .i64 er]) ∧ ObsN w D0 w' ao2 n2 cap2 X ∧ Below w.heap.size w w' := by
 have hzw : (prog.info? 25).map (·.size) = some (#[.int .i64 t, .int .u64 ke, .int .u64 ro, .slice ao n cap] : Array Value).size := by kernel_rfl
 have hV : (#[.int .i64 t, .int .u64 ke, .int .u64 ro, .slice ao n cap] : Array Value).extract 0 (0 + 4) = #[.int .i64 t, .int .u64 ke, .int .u64 ro, .slice ao n cap] := rfl
 have hG4 : 0 + 4 ≤ (#[.int .i64 t, .int .u64 ke, .int .u64 ro, .slice ao n cap] : Array Value).size := Nat.le_refl _
 have hz2 : ∀ v, (prog.info? 25).map (·.size) = some (#[.int .i64 t, .int .u64 ke, .int .u64 ro, v] : Array Value).size := fun _ => wfz
 have hs2 : ∀ v, zW.size = (#[.int .i64 t, .int .u64 ke, .int .u64 ro, v] : Array Value).size := fun _ => rfl
 have h12 : ∀ ao n cap, (#[.int .i64 t, .int .u64 ke, .int .u64 ro, .slice ao n cap] : Array Value).all (·.oneCell') = true := fun _ _ _ => by kernel_rfl
 have hdr := fun (W : World) (hk : Below w.heap.size w W) => drop_w (t := t) (ke := ke) (ro := ro) (i := 0) (D0 := D0) (fun b hb => Nat.lt_of_lt_of_le (hD b hb) hk.size) (qUz h hD hk) hs hn16 hsm
 simp only [drp_none hs hid] at hdr
 obtain ⟨G, hG⟩ : ∃ G : Array Value, G = #[.int .i64 t, .int .u64 ke, .int .u64 ro, .slice ao n cap] := ⟨_, rfl⟩
 rw [← hG] at hzw hdr hV hG4
 rw [← hG]
 clear hG
 go_enter func38, ntmps38
 go_wp2_with (first
  | (with_reducible refine qdz rfl 74 _ rfl G rfl ?_; intro B W2 hN2 hB hk)
  | ((with_reducible refine qcz rfl _ rfl zW qNz ?_); intro R W3 hN3 hR hk3; replace hB := hB.next hk3; replace hk := btz hk hk3)
  | (with_reducible refine qoz (by kernel_rfl) 25 _ rfl B 0 rfl 4 G _ hB G hV hG4 _ underlying25 (by kernel_rfl) wfz ?_)
  | (go_at_call 71; (with_reducible refine (hdr _ hk).mono ?_); rintro e w4 ⟨aX, nX, cX, rfl, oX, hb4⟩; replace hR := hR.next hb4)
  | ((with_reducible refine qaz rfl _ _ _ rfl R rfl _ rfl zW hR (hz2 _) (hs2 _) (h12 aX nX cX) ?_); intro W5 hR5 q5))
 refine bodyPost_ret (qPz results38 rfl rfl hR5 rfl) rfl ?_
 have hRw : w.heap.size ≤ R ∧ R < W3.heap.size := by have := hN2.out; have := hN3.out; omega
 have hN := (ObsN.store oX q5 hRw.2 (fun b hb => by have := hD b hb; omega)).low hk.size
 exact ⟨aX, nX, cX, rfl, hN, q5.below _ _ hRw.1 (btz hk hb4)⟩
end
end Go.Proofs.YtklnneiblmakmaaGreat
