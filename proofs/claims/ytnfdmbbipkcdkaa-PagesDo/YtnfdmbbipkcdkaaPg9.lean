/-
  PROVED HERE: what the document's Put returns when it is called (a contract over this translation). The maps are fit.
-/
import Derived.Test.YtnfdmbbipkcdkaaPg8
namespace Go.Proofs.Ytnfdmbbipkcdkaa
open Go.RowKit Go.Shelf
set_option linter.unusedVariables false
attribute [local go_sem] Oper.semAt_some
open Pg

namespace Pg
/-- How far the document's Put is behind k maps. -/
def st (L : List Mp) (x : Mp) (q k : Nat) : List Mp := if q < k then L.take q ++ [x] ++ (L.take k).drop q else L.take k
theorem st_lo {L : List Mp} {x : Mp} {q k : Nat} (hk : k < L.length) (h : k < q) : st L x q (k + 1) = st L x q k ++ [mat L k] := by
  unfold st; rw [if_neg (by omega), if_neg (by omega), take_snoc hk]
theorem st_at {L : List Mp} {x : Mp} {q : Nat} (hk : q < L.length) : st L x q (q + 1) = st L x q q ++ [x] ++ [mat L q] := by
  unfold st; rw [if_pos (by omega), if_neg (by omega), take_snoc hk, List.drop_append_of_le_length (by rw [List.length_take]; omega), List.drop_of_length_le (by rw [List.length_take]; omega)]; rfl
theorem st_hi {L : List Mp} {x : Mp} {q k : Nat} (hk : k < L.length) (h : q < k) : st L x q (k + 1) = st L x q k ++ [mat L k] := by
  unfold st; rw [if_pos (by omega), if_pos h, take_snoc hk, List.drop_append_of_le_length (by rw [List.length_take]; omega), List.append_assoc, List.append_assoc, List.append_assoc]
theorem st_le {L : List Mp} {x : Mp} {q k : Nat} (hk : k ≤ L.length) : (st L x q k).length ≤ k + 1 := by
  unfold st
  split
  · simp; omega
  · simp; omega
theorem st_end {L : List Mp} {x : Mp} {q : Nat} (h : q < L.length) : st L x q L.length = insL L q x := by
  unfold st insL; rw [if_pos h, List.take_length]
theorem st_all {L : List Mp} {x : Mp} {q : Nat} (h : q = L.length) : st L x q L.length ++ [x] = insL L q x := by
  unfold st insL; rw [if_neg (by omega), h, List.take_length, List.drop_length, List.append_nil]
end Pg
theorem row_off {W : World} {b : Nat} {e : TypeId} {size : Nat} {v : Value} {k : Nat} {xs : List Value} (h : W.ownsRow b e size v k xs) : v.ownBlock ≠ some W.heap.size := by
  rcases h.2 with ⟨rfl, _⟩ | ⟨g, c, cur, rfl, _, hg, _⟩
  · intro q; cases q
  · intro q
    have q' : some g = some W.heap.size := q
    have := (Array.getElem?_eq_some_iff.1 hg).1
    cases q'
    omega
theorem mb_grown {X w6 : World} {A : Nat} {y : Mp} {v : Value} (h : Mb X A y) (hg : X.grownBy w6 v.ownBlock) (hne : v.ownBlock ≠ some A) : Mb w6 A y := (hg.block A h.lt (fun e => hne e.symm)).trans h
set_option maxRecDepth 100000 in
set_option maxHeartbeats 4000000 in
theorem rput_any {w : World} {ao : Option Addr} {n cap : Nat} {L : List Mp} (hL : Mps w.heap.size w ao n cap L) (hF : Fit L) (va nn cont seg of : Int) (wb : Bool) :
    Calls Try.prog 14 #[.slice ao n cap, .agg #[.int .i64 va, .int .i64 nn, .int .u64 cont, .int .u64 seg, .int .i64 of, .bool wb]] w fun e w' => ∃ ao1 cap1, e = .returned (.tuple #[.slice ao1 (putL L ⟨va, nn, cont, seg, of, wb⟩).length cap1, .int .i64 (putE L ⟨va, nn, cont, seg, of, wb⟩)]) ∧ Mps w'.heap.size w' ao1 (putL L ⟨va, nn, cont, seg, of, wb⟩).length cap1 (putL L ⟨va, nn, cont, seg, of, wb⟩) ∧ Below w.heap.size w w' := by
  have hln : Hid (L.length = n) := hL.1
  have hn16 : n ≤ 16 := by rw [← hln.out]; exact hF.1
  have hHF : Hid (Fit L) := hF
  obtain ⟨x, hx⟩ : ∃ x : Mp, Hid (x = ⟨va, nn, cont, seg, of, wb⟩) := ⟨_, rfl⟩
  have hB0 : Below w.heap.size w (w.alloc (.cells #[.int .i64 va, .int .i64 nn, .int .u64 cont, .int .u64 seg, .int .i64 of, .bool wb] 25)) := (Below.refl _ w).alloc (Nat.le_refl _) _
  have hM := Mb.new w ⟨va, nn, cont, seg, of, wb⟩
  have hL0 := hL.next hB0
  have hfit := fun W => rone_any va nn cont seg of wb W
  rw [← hx.out] at hfit ⊢
  clear hF
  cases h1 : oneB x with
  | false =>
    have hE : Hid (putE L x = 4) := by show _ = _; unfold putE; rw [if_pos h1]
    have hR : Hid (putL L x = L) := put_no (by rw [hE.out]; omega)
    rw [hE.out, hR.out, hln.out]
    rw [h1] at hfit
    clear hE hR h1
    go_enter Try.func14, Try.ntmps14
    go_wp2_with (first | (go_at_call 22; refine (hfit _).mono ?_; rintro e w1 ⟨rfl, hb1⟩))
    go_ret2
    exact ⟨_, _, rfl, hL0.next hb1, hB0.trans (hb1.mono hB0.size)⟩
  | true =>
    rw [h1] at hfit
    have h1h : Hid (oneB x = true) := h1
    have h1' := oneB_iff.1 h1
    rw [hx.out] at h1'
    obtain ⟨p1, p2, p3, p4, p5⟩ := h1'
    simp only at p1 p2 p3 p4 p5
    have hw : IntKind.i64.wrap (va + nn) = va + nn := by rw [IntKind.wrap_i64]; omega
    obtain ⟨q, hq⟩ : ∃ q, Hid (pk L x = q) := ⟨_, rfl⟩
    have hql : Hid (q ≤ L.length) := by show _ ≤ _; rw [← hq.out]; exact ps_le
    have hqlo : Hid (∀ i, i < q → (mat L i).va + (mat L i).n ≤ va) := fun i hi => by
      have := (ps_all (P := eP x.va) (L := L)).2.1 i (by rw [show ps (eP x.va) L = q from hq.out]; exact hi)
      rw [eP_iff, hx.out] at this; exact this
    have hqhi : Hid (∀ i, q ≤ i → i < L.length → va < (mat L i).va + (mat L i).n) := fun i hi hl => by
      have hb := (ps_all (P := eP x.va) (L := L)).2.2
      rw [show ps (eP x.va) L = q from hq.out] at hb
      have h0 := hb (by omega)
      have : eP x.va (mat L i) = false := by
        by_cases e : i = q
        · rw [e]; exact h0
        · cases hz : eP x.va (mat L i) with
          | false => rfl
          | true => have := falls_e hHF.out q i (by omega) hl hz; rw [h0] at this; cases this
      rw [eP_no, hx.out] at this; exact this
    clear h1
    go_enter Try.func14, Try.ntmps14
    go_wp2_with (first | (go_at_call 22; refine (hfit _).mono ?_; rintro e w1 ⟨rfl, hb1⟩))
    obtain ⟨B, hB⟩ : ∃ B, w.heap.size + 1 = B := ⟨_, rfl⟩
    have hsz : (w.alloc (.cells #[.int .i64 va, .int .i64 nn, .int .u64 cont, .int .u64 seg, .int .i64 of, .bool wb] 25)).heap.size = B := by rw [← hB]; simp
    rw [hsz] at hb1
    have hB1s : B ≤ w1.heap.size := by rw [← hsz]; exact hb1.size
    have hwB : Hid (∀ {W}, Below B (w.alloc (.cells #[.int .i64 va, .int .i64 nn, .int .u64 cont, .int .u64 seg, .int .i64 of, .bool wb] 25)) W → Below w.heap.size w W) := fun h => hB0.trans (h.mono (by omega))
    have hMB : Hid (∀ {W}, Below B (w.alloc (.cells #[.int .i64 va, .int .i64 nn, .int .u64 cont, .int .u64 seg, .int .i64 of, .bool wb] 25)) W → Mb W w.heap.size ⟨va, nn, cont, seg, of, wb⟩) := fun h => hM.next (by rw [hsz]; exact h)
    have hLB : Hid (∀ {W}, Below B (w.alloc (.cells #[.int .i64 va, .int .i64 nn, .int .u64 cont, .int .u64 seg, .int .i64 of, .bool wb] 25)) W → Mps W.heap.size W ao n cap L) := fun h => hL.next (hwB.out h)
    clear hfit hL0 hM
    go_loopw [6, 7, 8] (fun vo vd vi wr => ∃ (k : Nat) (M : List Mp) (d : Bool), k ≤ n ∧ vi = .int .i64 k ∧ vd = .bool d ∧ wr.ownsRow B 25 6 vo M.length (mpC M) ∧ M.length ≤ k + 1 ∧ Hid (M = st L x q k) ∧ Hid (d = decide (q < k)) ∧ Hid (∀ i, i < k → Apart (mat L i) x) ∧ Below B (w.alloc (.cells #[.int .i64 va, .int .i64 nn, .int .u64 cont, .int .u64 seg, .int .i64 of, .bool wb] 25)) wr ∧ B ≤ wr.heap.size) (fun _ _ vi _ => n - (intOf vi).toNat)
    case atStart => exact ⟨0, [], false, Nat.zero_le _, rfl, rfl, World.ownsRow_nil _ _ _ _, by simp, by show _ = _; simp [st], by show _ = _; simp, fun j hj => absurd hj (by omega), hb1, hB1s⟩
    case round =>
      clear hb1 hB1s
      obtain ⟨k, M, d, hk, rfl, rfl, hrow, hMk, hMs, hd, hap, hb, hbs⟩ := hrel
      by_cases hkn : k < n
      · obtain ⟨b, off, va2, nn2, cont2, seg2, of2, wrt2, rfl, hbb, hx2, c0, c1, c2, c3, c4, c5⟩ := MpsD.at (hLB.out hb) hkn
        have hkl : Hid (k < L.length) := by show k < L.length; rw [hln.out]; exact hkn
        have hkn' : (k : Int) < n := by omega
        have hone := hHF.out.one hkl.out
        rw [hx2.out] at hone
        obtain ⟨o1, o2, o3, o4, o5⟩ := hone
        simp only at o1 o2 o3 o4 o5
        have hw2 : IntKind.i64.wrap (va2 + nn2) = va2 + nn2 := by rw [IntKind.wrap_i64]; omega
        have hal2 : Below wr.heap.size wr (wr.alloc (.cells #[.int .i64 va2, .int .i64 nn2, .int .u64 cont2, .int .u64 seg2, .int .i64 of2, .bool wrt2] 25)) := (Below.refl _ wr).alloc (Nat.le_refl _) _
        have hbW : Below B (w.alloc (.cells #[.int .i64 va, .int .i64 nn, .int .u64 cont, .int .u64 seg, .int .i64 of, .bool wb] 25)) (wr.alloc (.cells #[.int .i64 va2, .int .i64 nn2, .int .u64 cont2, .int .u64 seg2, .int .i64 of2, .bool wrt2] 25)) := hb.trans (hal2.mono hbs)
        have hMW := hMB.out hbW
        obtain ⟨m0, m1, m2, m3, m4, m5⟩ := hMW.cells
        simp only at m0 m1 m2 m3 m4 m5
        have hsW : (wr.alloc (.cells #[.int .i64 va2, .int .i64 nn2, .int .u64 cont2, .int .u64 seg2, .int .i64 of2, .bool wrt2] 25)).heap.size = wr.heap.size + 1 := by simp
        by_cases hov : va2 < va + nn ∧ va < va2 + nn2
        · have hE : Hid (putE L x = 12) := by
            show _ = _
            have hre : reB L x = true := by
              cases hre : reB L x with
              | true => rfl
              | false =>
                have := (re_iff hHF.out h1h.out).1 hre _ (mat_mem hkl.out)
                rw [hx2.out, hx.out] at this
                unfold Apart at this
                simp only at this
                omega
            unfold putE; rw [if_neg (by rw [h1h.out]; simp), if_pos hre]
          have hR : Hid (putL L x = L) := put_no (by rw [hE.out]; omega)
          obtain ⟨ov1, ov2⟩ := hov
          go_wp2
          go_ret2
          exact ⟨_, _, by rw [hE.out, hR.out, hln.out]; rfl, by rw [hR.out, hln.out]; exact hLB.out hbW, hwB.out hbW⟩
        · have hap2 : Hid (∀ i, i < k + 1 → Apart (mat L i) x) := fun i hi => by
            by_cases e : i = k
            · rw [e, hx2.out, hx.out]; unfold Apart; simp only; omega
            · exact hap.out i (by omega)
          have hMW2 : Mb ((wr.alloc (.cells #[.int .i64 va2, .int .i64 nn2, .int .u64 cont2, .int .u64 seg2, .int .i64 of2, .bool wrt2] 25)).alloc (.cells #[.int .i64 va2, .int .i64 nn2, .int .u64 cont2, .int .u64 seg2, .int .i64 of2, .bool wrt2] 25)) (wr.heap.size + 1) (⟨va2, nn2, cont2, seg2, of2, wrt2⟩ : Mp) := by have := Mb.new (wr.alloc (.cells #[.int .i64 va2, .int .i64 nn2, .int .u64 cont2, .int .u64 seg2, .int .i64 of2, .bool wrt2] 25)) (⟨va2, nn2, cont2, seg2, of2, wrt2⟩ : Mp); rw [hsW] at this; exact this
          have hal3 : Below (wr.alloc (.cells #[.int .i64 va2, .int .i64 nn2, .int .u64 cont2, .int .u64 seg2, .int .i64 of2, .bool wrt2] 25)).heap.size (wr.alloc (.cells #[.int .i64 va2, .int .i64 nn2, .int .u64 cont2, .int .u64 seg2, .int .i64 of2, .bool wrt2] 25)) ((wr.alloc (.cells #[.int .i64 va2, .int .i64 nn2, .int .u64 cont2, .int .u64 seg2, .int .i64 of2, .bool wrt2] 25)).alloc (.cells #[.int .i64 va2, .int .i64 nn2, .int .u64 cont2, .int .u64 seg2, .int .i64 of2, .bool wrt2] 25)) := (Below.refl _ _).alloc (Nat.le_refl _) _
          have hrow2 := row_next (row_next hrow hal2) hal3
          have hbW2 : Below B (w.alloc (.cells #[.int .i64 va, .int .i64 nn, .int .u64 cont, .int .u64 seg, .int .i64 of, .bool wb] 25)) ((wr.alloc (.cells #[.int .i64 va2, .int .i64 nn2, .int .u64 cont2, .int .u64 seg2, .int .i64 of2, .bool wrt2] 25)).alloc (.cells #[.int .i64 va2, .int .i64 nn2, .int .u64 cont2, .int .u64 seg2, .int .i64 of2, .bool wrt2] 25)) := hbW.trans (hal3.mono (Nat.le_trans hbs hal2.size))
          have hsz2 : B ≤ ((wr.alloc (.cells #[.int .i64 va2, .int .i64 nn2, .int .u64 cont2, .int .u64 seg2, .int .i64 of2, .bool wrt2] 25)).alloc (.cells #[.int .i64 va2, .int .i64 nn2, .int .u64 cont2, .int .u64 seg2, .int .i64 of2, .bool wrt2] 25)).heap.size := Nat.le_trans hbs (Nat.le_trans hal2.size hal3.size)
          by_cases hkq : k < q
          · have hlo := hqlo.out k hkq
            rw [hx2.out] at hlo
            simp only at hlo
            have t1 : va2 < va + nn := by omega
            have t2 : ¬ va < va2 + nn2 := by omega
            have t3 : ¬ va < va2 := by omega
            have hd0 : d = false := by rw [hd.out, decide_eq_false]; omega
            subst hd0
            have hMs2 : Hid (M ++ [(⟨va2, nn2, cont2, seg2, of2, wrt2⟩ : Mp)] = st L x q (k + 1)) := by show _ = _; rw [st_lo hkl.out hkq, ← hMs.out, hx2.out]
            have hd2 : Hid (false = decide (q < k + 1)) := by show _ = _; rw [decide_eq_false (by omega)]
            clear hlo
            have hlen1 : M.length + 1 < 68719476736 := by omega
            clear hov
            go_wp2_with (at_builtin; refine wpList_append_mps rfl _ _ rfl B _ M rfl hrow2 _ _ _ _ [(⟨va2, nn2, cont2, seg2, of2, wrt2⟩ : Mp)] rfl (mps_one hMW2) hlen1 hsz2 ?_; intro u6 w6 hown6 hgrow6)
            have hfin := row_below hrow2 hbW2 hsz2 (Nat.le_refl _) hgrow6
            have hfs : B ≤ w6.heap.size := Nat.le_trans hsz2 hgrow6.size
            go_roundw
            case rel => exact ⟨k + 1, M ++ [(⟨va2, nn2, cont2, seg2, of2, wrt2⟩ : Mp)], false, by omega, by simp, rfl, hown6, by rw [List.length_append]; simp; omega, hMs2, hd2, hap2, hfin, hfs⟩
            case measure => simp [intOf]; omega
          · have hhi := hqhi.out k (by omega) hkl.out
            rw [hx2.out] at hhi
            simp only at hhi
            have t1 : ¬ va2 < va + nn := fun h => hov ⟨h, hhi⟩
            by_cases hkq2 : k = q
            · have t3 : va < va2 := by omega
              have hd0 : d = false := by rw [hd.out, decide_eq_false]; omega
              subst hd0
              have hMs2 : Hid (M ++ [(⟨va, nn, cont, seg, of, wb⟩ : Mp)] ++ [(⟨va2, nn2, cont2, seg2, of2, wrt2⟩ : Mp)] = st L x q (k + 1)) := by show _ = _; rw [hMs.out, hkq2, st_at (by rw [← hkq2]; exact hkl.out), ← hkq2, hx2.out, hx.out]
              have hd2 : Hid (true = decide (q < k + 1)) := by show _ = _; rw [decide_eq_true (by omega)]
              have hMW3 : Mb ((wr.alloc (.cells #[.int .i64 va2, .int .i64 nn2, .int .u64 cont2, .int .u64 seg2, .int .i64 of2, .bool wrt2] 25)).alloc (.cells #[.int .i64 va, .int .i64 nn, .int .u64 cont, .int .u64 seg, .int .i64 of, .bool wb] 25)) (wr.heap.size + 1) (⟨va, nn, cont, seg, of, wb⟩ : Mp) := by have := Mb.new (wr.alloc (.cells #[.int .i64 va2, .int .i64 nn2, .int .u64 cont2, .int .u64 seg2, .int .i64 of2, .bool wrt2] 25)) (⟨va, nn, cont, seg, of, wb⟩ : Mp); rw [hsW] at this; exact this
              have hal4 : Below (wr.alloc (.cells #[.int .i64 va2, .int .i64 nn2, .int .u64 cont2, .int .u64 seg2, .int .i64 of2, .bool wrt2] 25)).heap.size (wr.alloc (.cells #[.int .i64 va2, .int .i64 nn2, .int .u64 cont2, .int .u64 seg2, .int .i64 of2, .bool wrt2] 25)) ((wr.alloc (.cells #[.int .i64 va2, .int .i64 nn2, .int .u64 cont2, .int .u64 seg2, .int .i64 of2, .bool wrt2] 25)).alloc (.cells #[.int .i64 va, .int .i64 nn, .int .u64 cont, .int .u64 seg, .int .i64 of, .bool wb] 25)) := (Below.refl _ _).alloc (Nat.le_refl _) _
              have hrow3 := row_next (row_next hrow hal2) hal4
              have hbW3 : Below B (w.alloc (.cells #[.int .i64 va, .int .i64 nn, .int .u64 cont, .int .u64 seg, .int .i64 of, .bool wb] 25)) ((wr.alloc (.cells #[.int .i64 va2, .int .i64 nn2, .int .u64 cont2, .int .u64 seg2, .int .i64 of2, .bool wrt2] 25)).alloc (.cells #[.int .i64 va, .int .i64 nn, .int .u64 cont, .int .u64 seg, .int .i64 of, .bool wb] 25)) := hbW.trans (hal4.mono (Nat.le_trans hbs hal2.size))
              have hsz3 : B ≤ ((wr.alloc (.cells #[.int .i64 va2, .int .i64 nn2, .int .u64 cont2, .int .u64 seg2, .int .i64 of2, .bool wrt2] 25)).alloc (.cells #[.int .i64 va, .int .i64 nn, .int .u64 cont, .int .u64 seg, .int .i64 of, .bool wb] 25)).heap.size := Nat.le_trans hbs (Nat.le_trans hal2.size hal4.size)
              have hI : Mb ((wr.alloc (.cells #[.int .i64 va2, .int .i64 nn2, .int .u64 cont2, .int .u64 seg2, .int .i64 of2, .bool wrt2] 25)).alloc (.cells #[.int .i64 va, .int .i64 nn, .int .u64 cont, .int .u64 seg, .int .i64 of, .bool wb] 25)) wr.heap.size (⟨va2, nn2, cont2, seg2, of2, wrt2⟩ : Mp) := (Mb.new wr (⟨va2, nn2, cont2, seg2, of2, wrt2⟩ : Mp)).next hal4
              have hro := row_off hrow
              have hlen1 : M.length + 1 < 68719476736 := by omega
              have hlen2 : (M ++ [(⟨va, nn, cont, seg, of, wb⟩ : Mp)]).length + 1 < 68719476736 := by rw [List.length_append]; simp; omega
              have after : ∀ {w6 : World} {u9 : Value}, w6.ownsRow B 25 6 u9 (M ++ [(⟨va, nn, cont, seg, of, wb⟩ : Mp)]).length (mpC (M ++ [(⟨va, nn, cont, seg, of, wb⟩ : Mp)])) → ((wr.alloc (.cells #[.int .i64 va2, .int .i64 nn2, .int .u64 cont2, .int .u64 seg2, .int .i64 of2, .bool wrt2] 25)).alloc (.cells #[.int .i64 va, .int .i64 nn, .int .u64 cont, .int .u64 seg, .int .i64 of, .bool wb] 25)).grownBy w6 (Value.ownBlock u6) →
                  Below B (w.alloc (.cells #[.int .i64 va, .int .i64 nn, .int .u64 cont, .int .u64 seg, .int .i64 of, .bool wb] 25)) w6 ∧ Mb w6 wr.heap.size (⟨va2, nn2, cont2, seg2, of2, wrt2⟩ : Mp) ∧ Below w6.heap.size w6 (w6.alloc (.cells #[.int .i64 va2, .int .i64 nn2, .int .u64 cont2, .int .u64 seg2, .int .i64 of2, .bool wrt2] 25)) ∧ B ≤ w6.heap.size := fun {w6 u9} h1 h2 =>
                ⟨row_below hrow3 hbW3 hsz3 (Nat.le_refl _) h2, mb_grown hI h2 hro, (Below.refl _ _).alloc (Nat.le_refl _) _, Nat.le_trans hsz3 h2.size⟩
              clear hov hkq hkq2 hhi
              go_wp2_with (first | (at_builtin; refine wpList_append_mps rfl _ _ rfl B _ M rfl hrow3 _ _ _ _ [(⟨va, nn, cont, seg, of, wb⟩ : Mp)] rfl (mps_one hMW3) hlen1 hsz3 ?_; intro u6 w6 hown6 hgrow6; obtain ⟨hb6, hI6, hal6, hs6⟩ := after hown6 hgrow6; obtain ⟨i0, i1, i2, i3, i4, i5⟩ := hI6.cells; simp only at i0 i1 i2 i3 i4 i5) | (at_builtin; refine wpList_append_mps rfl _ _ rfl B _ (M ++ [(⟨va, nn, cont, seg, of, wb⟩ : Mp)]) rfl (row_next hown6 hal6) _ _ _ _ [(⟨va2, nn2, cont2, seg2, of2, wrt2⟩ : Mp)] rfl (mps_one (Mb.new w6 (⟨va2, nn2, cont2, seg2, of2, wrt2⟩ : Mp))) hlen2 (Nat.le_trans hs6 hal6.size) ?_; intro u8 w8 hown8 hgrow8))
              have hfin := row_below (row_next hown6 hal6) (hb6.trans (hal6.mono hs6)) (Nat.le_trans hs6 hal6.size) (Nat.le_refl _) hgrow8
              have hfs : B ≤ w8.heap.size := Nat.le_trans (Nat.le_trans hs6 hal6.size) hgrow8.size
              go_roundw
              case rel => exact ⟨k + 1, M ++ [(⟨va, nn, cont, seg, of, wb⟩ : Mp)] ++ [(⟨va2, nn2, cont2, seg2, of2, wrt2⟩ : Mp)], true, by omega, by simp, rfl, hown8, by rw [hMs2.out]; exact st_le (by have := hln.out; omega), hMs2, hd2, hap2, hfin, hfs⟩
              case measure => simp [intOf]; omega
            · have hd0 : d = true := by rw [hd.out, decide_eq_true]; omega
              subst hd0
              have hMs2 : Hid (M ++ [(⟨va2, nn2, cont2, seg2, of2, wrt2⟩ : Mp)] = st L x q (k + 1)) := by show _ = _; rw [st_hi hkl.out (by omega), ← hMs.out, hx2.out]
              have hd2 : Hid (true = decide (q < k + 1)) := by show _ = _; rw [decide_eq_true (by omega)]
              clear hkq hkq2 hhi
              have hlen1 : M.length + 1 < 68719476736 := by omega
              clear hov
              go_wp2_with (at_builtin; refine wpList_append_mps rfl _ _ rfl B _ M rfl hrow2 _ _ _ _ [(⟨va2, nn2, cont2, seg2, of2, wrt2⟩ : Mp)] rfl (mps_one hMW2) hlen1 hsz2 ?_; intro u6 w6 hown6 hgrow6)
              have hfin := row_below hrow2 hbW2 hsz2 (Nat.le_refl _) hgrow6
              have hfs : B ≤ w6.heap.size := Nat.le_trans hsz2 hgrow6.size
              go_roundw
              case rel => exact ⟨k + 1, M ++ [(⟨va2, nn2, cont2, seg2, of2, wrt2⟩ : Mp)], true, by omega, by simp, rfl, hown6, by rw [List.length_append]; simp; omega, hMs2, hd2, hap2, hfin, hfs⟩
              case measure => simp [intOf]; omega
      · obtain ⟨ao2, cap2, rfl, hMm⟩ := mps_of_row hrow
        obtain rfl : k = n := by omega
        have hall : Hid (reB L x = false) := (re_iff hHF.out h1h.out).2 fun y hy => by obtain ⟨i, hi, rfl⟩ := mem_mat hy; exact hap.out i (by rw [hln.out] at hi; exact hi)
        have hMW := hMB.out hb
        obtain ⟨m0, m1, m2, m3, m4, m5⟩ := hMW.cells
        simp only at m0 m1 m2 m3 m4 m5
        obtain ⟨E0, hE0⟩ : ∃ E0 : Int, Hid (putE L x = E0) := ⟨_, rfl⟩
        have hE1 : Hid (E0 = if 16 ≤ k then 6 else 0) := by show _ = _; rw [← hE0.out]; unfold putE; rw [if_neg (by rw [h1h.out]; simp), if_neg (by rw [hall.out]; simp), hln.out]
        by_cases hqn : q < k
        · have hd0 : d = true := by rw [hd.out, decide_eq_true hqn]
          subst hd0
          have hMi : Hid (M = insL L q x) := by show _ = _; rw [hMs.out]; have := hln.out; rw [← this]; exact st_end (by omega)
          have hMl : M.length = k + 1 := by rw [hMi.out, ins_len, hln.out]
          by_cases h16 : 16 ≤ k
          · have hR : Hid (putL L x = L) := put_no (by rw [hE0.out, hE1.out, if_pos h16]; omega)
            have hlen : (16 : Int) < (M.length : Int) := by omega
            go_wp2
            go_ret2
            exact ⟨_, _, by rw [hE0.out, hE1.out, if_pos h16, hR.out, hln.out]; rfl, by rw [hR.out, hln.out]; exact hLB.out hb, hwB.out hb⟩
          · have hz : Hid (putE L x = 0) := by show _ = _; rw [hE0.out, hE1.out, if_neg h16]
            have hR : Hid (putL L x = M) := by show _ = _; rw [put_yes hz.out, hq.out, hMi.out]
            have hlen : ¬ (16 : Int) < (M.length : Int) := by omega
            go_wp2
            go_ret2
            exact ⟨_, _, by rw [hz.out, hR.out, hMl]; rfl, by rw [hMl] at hMm; rw [hR.out, hMl]; exact hMm, hwB.out hb⟩
        · have hd0 : d = false := by rw [hd.out, decide_eq_false hqn]
          subst hd0
          have hMi : Hid (M ++ [(⟨va, nn, cont, seg, of, wb⟩ : Mp)] = insL L q x) := by show _ = _; rw [hMs.out]; have h3 := hln.out; have h4 := hql.out; have h5 := hx.out; rw [← h5, ← h3]; exact st_all (by omega)
          have hMl : (M ++ [(⟨va, nn, cont, seg, of, wb⟩ : Mp)]).length = k + 1 := by rw [hMi.out, ins_len, hln.out]
          have hlen1 : M.length + 1 < 68719476736 := by omega
          have hal4 : Below wr.heap.size wr (wr.alloc (.cells #[.int .i64 va, .int .i64 nn, .int .u64 cont, .int .u64 seg, .int .i64 of, .bool wb] 25)) := (Below.refl _ _).alloc (Nat.le_refl _) _
          have hrow3 := row_next hrow hal4
          have hsz3 : B ≤ (wr.alloc (.cells #[.int .i64 va, .int .i64 nn, .int .u64 cont, .int .u64 seg, .int .i64 of, .bool wb] 25)).heap.size := Nat.le_trans hbs hal4.size
          have hbW3 : Below B (w.alloc (.cells #[.int .i64 va, .int .i64 nn, .int .u64 cont, .int .u64 seg, .int .i64 of, .bool wb] 25)) (wr.alloc (.cells #[.int .i64 va, .int .i64 nn, .int .u64 cont, .int .u64 seg, .int .i64 of, .bool wb] 25)) := hb.trans (hal4.mono hbs)
          have after : ∀ {w6 : World} {u9 : Value}, w6.ownsRow B 25 6 u9 (M ++ [(⟨va, nn, cont, seg, of, wb⟩ : Mp)]).length (mpC (M ++ [(⟨va, nn, cont, seg, of, wb⟩ : Mp)])) → (wr.alloc (.cells #[.int .i64 va, .int .i64 nn, .int .u64 cont, .int .u64 seg, .int .i64 of, .bool wb] 25)).grownBy w6 (Value.ownBlock (.slice ao2 M.length cap2)) → Below B (w.alloc (.cells #[.int .i64 va, .int .i64 nn, .int .u64 cont, .int .u64 seg, .int .i64 of, .bool wb] 25)) w6 ∧ ∃ ao3 cap3, u9 = .slice ao3 (k + 1) cap3 ∧ Mps w6.heap.size w6 ao3 (k + 1) cap3 (M ++ [(⟨va, nn, cont, seg, of, wb⟩ : Mp)]) := fun {w6 u9} h1 h2 => by
            obtain ⟨a3, c3, e3, m3⟩ := mps_of_row h1
            rw [hMl] at e3 m3
            exact ⟨row_below hrow3 hbW3 hsz3 (Nat.le_refl _) h2, a3, c3, e3, m3⟩
          by_cases h16 : 16 ≤ k
          · have hR : Hid (putL L x = L) := put_no (by rw [hE0.out, hE1.out, if_pos h16]; omega)
            have hlen : (16 : Int) < ((k + 1 : Nat) : Int) := by omega
            go_wp2_with (at_builtin; refine wpList_append_mps rfl _ _ rfl B _ M rfl hrow3 _ _ _ _ [(⟨va, nn, cont, seg, of, wb⟩ : Mp)] rfl (mps_one (Mb.new wr (⟨va, nn, cont, seg, of, wb⟩ : Mp))) hlen1 hsz3 ?_; intro u9 w6 hown6 hgrow6; obtain ⟨hb6, ao3, cap3, rfl, hM6⟩ := after hown6 hgrow6)
            go_ret2
            exact ⟨_, _, by rw [hE0.out, hE1.out, if_pos h16, hR.out, hln.out]; rfl, by rw [hR.out, hln.out]; exact hLB.out hb6, hwB.out hb6⟩
          · have hz : Hid (putE L x = 0) := by show _ = _; rw [hE0.out, hE1.out, if_neg h16]
            have hR : Hid (putL L x = M ++ [(⟨va, nn, cont, seg, of, wb⟩ : Mp)]) := by show _ = _; rw [put_yes hz.out, hq.out, hMi.out]
            have hlen : ¬ (16 : Int) < ((k + 1 : Nat) : Int) := by omega
            go_wp2_with (at_builtin; refine wpList_append_mps rfl _ _ rfl B _ M rfl hrow3 _ _ _ _ [(⟨va, nn, cont, seg, of, wb⟩ : Mp)] rfl (mps_one (Mb.new wr (⟨va, nn, cont, seg, of, wb⟩ : Mp))) hlen1 hsz3 ?_; intro u9 w6 hown6 hgrow6; obtain ⟨hb6, ao3, cap3, rfl, hM6⟩ := after hown6 hgrow6)
            go_ret2
            exact ⟨_, _, by rw [hz.out, hR.out, hMl]; rfl, by rw [hR.out, hMl]; exact hM6, hwB.out hb6⟩
end Go.Proofs.Ytnfdmbbipkcdkaa
