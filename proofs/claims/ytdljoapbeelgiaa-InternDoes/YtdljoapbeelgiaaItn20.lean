/-
  PROVED HERE: what it means that a copied table is changed in place; what Drop of the document's layer 5 returns when it is called (a contract over this translation). A fit table.
-/
import Derived.Test.YtdljoapbeelgiaaItn19
import Derived.Test.YtdljoapbeelgiaaItn14
namespace Go.Proofs.Ytdljoapbeelgiaa
open Go.ChangeShapes Go.WideShapes Go.ChangeAt Go.RowKit
set_option linter.unusedVariables false

theorem OT.kty {base B : Nat} {W W' : World} {vL vC : Value} {Z : Zt} (h : OT base B W vL vC Z) (k : ∀ t, t ≠ 25 → KTy t W W') (hb : Below B W W') : OT base B W' vL vC Z := by
  obtain ⟨h0, vs, h3, h4, h5⟩ := h
  refine ⟨⟨Nat.le_trans h0.1 hb.size, h0.2⟩, vs, ownsRow_kty h3 (k _ (by decide)), ownsRow_kty h4 (k _ (by decide)), fun i hi => ?_⟩
  obtain ⟨a, k', c, q1, q2⟩ := h5 i hi
  exact ⟨a, k', c, q1, q2.later (keeps_of_below hb)⟩
theorem OT.next {base B : Nat} {W W' : World} {vL vC : Value} {Z : Zt} (h : OT base B W vL vC Z) (hb : Below W.heap.size W W') : OT base B W' vL vC Z := h.kty (fun t _ => KTy.below hb) (hb.mono (Nat.le_trans h.1.2 h.1.1))
/-- The first m places of such a table. -/
theorem OT.tabK {base B : Nat} {W : World} {aL aC : Option Addr} {n cL cC : Nat} {Z : Zt} (h : OT base B W (.slice aL n cL) (.slice aC n cC) Z) (m : Nat) (hm : m ≤ Z.length) (hn : Z.length = n) : Tab W aL m cL aC cC (Z.take m) := by
  obtain ⟨h0, vs, h3, h4, h5⟩ := h
  have hl : (Z.take m).length = m := by rw [List.length_take]; omega
  have hz : ∀ i, i < m → zat (Z.take m) i = zat Z i := fun i hi => by rw [zat_take, if_pos hi]
  constructor
  · have h3' := h3
    rcases h3.2 with ⟨e, h0⟩ | ⟨g, cap, cur, e, hb, hh, hnc, hmm, hs, ht⟩
    · cases e; exact ⟨by simpa using hl, by omega, ⟨by omega, fun _ => rfl⟩, fun hn => absurd hn (by omega)⟩
    · cases e
      refine ⟨by simpa using hl, by omega, ⟨by unfold maxLen at hmm; omega, fun e => by cases e⟩, fun _ => ⟨g, 0, rfl, (Array.getElem?_eq_some_iff.1 hh).1, fun i hi => ?_⟩⟩
      obtain ⟨a, k, c, q1, q2⟩ := h5 i (by omega)
      rw [hn] at h3'
      refine ⟨a, k, c, by rw [Nat.zero_add, h3'.cellAt i (by omega), q1], ?_⟩
      rw [zat_fst, hz i hi]; exact q2.wide (fun b hb => Nat.lt_of_lt_of_le hb (Nat.le_trans h0.2 h0.1))
  · have h4' := h4
    rcases h4.2 with ⟨e, h0⟩ | ⟨g, cap, cur, e, hb, hh, hnc, hmm, hs, ht⟩
    · cases e; exact ⟨by simpa using hl, by omega, ⟨by omega, fun _ => rfl⟩, fun hn => absurd hn (by omega)⟩
    · cases e
      refine ⟨by simpa using hl, by omega, ⟨by unfold maxLen at hmm; omega, fun e => by cases e⟩, fun _ => ⟨g, 0, rfl, (Array.getElem?_eq_some_iff.1 hh).1, fun i hi => ?_⟩⟩
      rw [hn] at h4'
      rw [Nat.zero_add, h4'.cellAt i (by omega), zat_snd, hz i hi, cntV_at (by omega)]
theorem OT.tab {base B : Nat} {W : World} {aL aC : Option Addr} {n cL cC : Nat} {Z : Zt} (h : OT base B W (.slice aL n cL) (.slice aC n cC) Z) (hn : Z.length = n) : Tab W aL n cL aC cC Z := by
  have := h.tabK n (by omega) hn
  rwa [← hn, List.take_length, hn] at this
/-- One place of such a table: its count is stored. -/
theorem OT.count {base B : Nat} {W : World} {aL aC : Option Addr} {n cL cC : Nat} {Z : Zt} (h : OT base B W (.slice aL n cL) (.slice aC n cC) Z) (hn : Z.length = n) {i : Nat} (hi : i < n) (x : Int) :
    ∃ g, aC = some ⟨g, 0, none⟩ ∧ W.cell? ⟨g, i, none⟩ = some (.int .i64 (zat Z i).2) ∧ W.frozen? ⟨g, i, none⟩ = false ∧ (n ≤ cC ∧ cC ≤ 9223372036854775807) ∧
      OT base B (W.setCell ⟨g, i, none⟩ (.int .i64 x)) (.slice aL n cL) (.slice aC n cC) (Z.set i ((zat Z i).1, x)) ∧ Below base W (W.setCell ⟨g, i, none⟩ (.int .i64 x)) ∧ (∀ t, t ≠ 3 → KTy t W (W.setCell ⟨g, i, none⟩ (.int .i64 x))) ∧ (W.setCell ⟨g, i, none⟩ (.int .i64 x)).cell? ⟨g, i, none⟩ = some (.int .i64 x) := by
  subst hn
  obtain ⟨h0, vs, h3, h4, h5⟩ := h
  have h4' := h4
  rcases h4.2 with ⟨e, q⟩ | ⟨g, cap, cur, e, hb, hg, hnc, hm, _⟩
  · omega
  cases e
  have kt : ∀ t, t ≠ 3 → KTy t W (W.setCell ⟨g, i, none⟩ (.int .i64 x)) := fun t ht => KTy.set hg _ ht
  have hst := h4'.stored i (.int .i64 x)
  have hbl : Below base W (W.setCell ⟨g, i, none⟩ (.int .i64 x)) := (Below.refl _ W).setCell (p := ⟨g, i, none⟩) hb _
  refine ⟨g, rfl, by rw [h4'.cellAt i (by omega), cntV_at hi], h4'.frozenAt i, ⟨hnc, by unfold maxLen at hm; omega⟩, ⟨⟨by simpa using h0.1, h0.2⟩, vs, ?_, ?_, fun j hj => ?_⟩, hbl, kt, ?_⟩
  · rw [List.length_set]; exact ownsRow_kty h3 (kt _ (by decide))
  · rw [List.length_set, cntV_set]; exact hst.1
  · rw [List.length_set] at hj
    obtain ⟨a, k, c, q1, q2⟩ := h5 j hj
    refine ⟨a, k, c, q1, ?_⟩
    have e : (zat (Z.set i ((zat Z i).1, x)) j).1 = (zat Z j).1 := by
      rw [zat_set]; split
      · rename_i q; rw [q.1]
      · rfl
    rw [e]; exact q2.later (keeps_of_below (hbl.mono h0.2))
  · rw [hst.1.cellAt i (by omega), List.getElem?_set_self (by rw [cntV_len]; exact hi)]
/-- One place of such a table: its label is stored. -/
theorem OT.lab {base B : Nat} {W : World} {aL aC : Option Addr} {n cL cC : Nat} {Z : Zt} (h : OT base B W (.slice aL n cL) (.slice aC n cC) Z) (hn : Z.length = n) {i : Nat} (hi : i < n) :
    ∃ g ov, aL = some ⟨g, 0, none⟩ ∧ W.cell? ⟨g, i, none⟩ = some ov ∧ W.frozen? ⟨g, i, none⟩ = false ∧ (n ≤ cL ∧ cL ≤ 9223372036854775807) ∧
      ∀ a k e L, LabD (fun b => b < B) W a k e L → OT base B (W.setCell ⟨g, i, none⟩ (.slice a k e)) (.slice aL n cL) (.slice aC n cC) (Z.set i (L, (zat Z i).2)) ∧ Below base W (W.setCell ⟨g, i, none⟩ (.slice a k e)) ∧ (∀ t, t ≠ 27 → KTy t W (W.setCell ⟨g, i, none⟩ (.slice a k e))) := by
  subst hn
  obtain ⟨h0, vs, h3, h4, h5⟩ := h
  have h3' := h3
  rcases h3.2 with ⟨e, q⟩ | ⟨g, cap, cur, e, hb, hg, hnc, hm, _⟩
  · omega
  cases e
  obtain ⟨a0, k0, c0, q1, q2⟩ := h5 i hi
  have hvl : vs.length = Z.length := by have := h3.1; omega
  refine ⟨g, .slice a0 k0 c0, rfl, by rw [h3'.cellAt i (by omega), q1], h3'.frozenAt i, ⟨hnc, by unfold maxLen at hm; omega⟩, fun a k e L hL => ?_⟩
  have kt : ∀ t, t ≠ 27 → KTy t W (W.setCell ⟨g, i, none⟩ (.slice a k e)) := fun t ht => KTy.set hg _ ht
  have hbl : Below base W (W.setCell ⟨g, i, none⟩ (.slice a k e)) := (Below.refl _ W).setCell (p := ⟨g, i, none⟩) hb _
  refine ⟨⟨⟨by simpa using h0.1, h0.2⟩, vs.set i (.slice a k e), ?_, ?_, fun j hj => ?_⟩, hbl, kt⟩
  · rw [List.length_set]; exact (h3'.stored i (.slice a k e)).1
  · rw [List.length_set]
    have e2 : cntV (Z.set i (L, (zat Z i).2)) = cntV Z := by
      rw [cntV_set]
      apply List.ext_getElem?
      intro j
      rw [List.getElem?_set]
      by_cases hj : i = j
      · subst hj
        rw [if_pos rfl, cntV_at hi, if_pos (by rw [cntV_len]; exact hi)]
      · rw [if_neg hj]
    rw [e2]; exact ownsRow_kty h4 (kt _ (by decide))
  · rw [List.length_set] at hj
    by_cases hji : i = j
    · subst hji
      refine ⟨a, k, e, by rw [List.getElem?_set_self (by omega)], ?_⟩
      rw [zat_set, if_pos ⟨rfl, hj⟩]
      exact hL.later (keeps_of_below (hbl.mono h0.2))
    · obtain ⟨a1, k1, c1, r1, r2⟩ := h5 j hj
      refine ⟨a1, k1, c1, by rw [List.getElem?_set_ne hji]; exact r1, ?_⟩
      rw [zat_set, if_neg (by omega)]
      exact r2.later (keeps_of_below (hbl.mono h0.2))
end Go.Proofs.Ytdljoapbeelgiaa
