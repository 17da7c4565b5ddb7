/-
 PROVED HERE: what the law's few of chapter 14 returns when it is called (a contract over this translation); plain facts on . What is asked stands at each.
-/
import Derived.Test.YtklnneiblmakmaaGreatZ23
import Derived.Test.YtklnneiblmakmaaGreatZ24
import Derived.Test.YtklnneiblmakmaaGreatZ36
namespace Go.Proofs.YtklnneiblmakmaaGreat
set_option maxRecDepth 100000
set_option maxHeartbeats 8000000
set_option linter.unusedVariables false
open Go.Proofs.Tryz
section
open Go.RowKit Go.Shelf
attribute [local go_sem] Oper.semAt_some
def fewO (x : Ob) : Prop := x.label.length ≤ 20 ∧ x.links.length ≤ 70 ∧ x.data.length ≤ 300 ∧ x.maps.length ≤ 20
def gmz (l : List Ob) : Prop := l.length ≤ 16 ∧ ∀ i, i < l.length → fewO (oat l i)
theorem glz {w : World} {t ke ro : Int} {ao : Option Addr} {n cap : Nat} {X : List Ob} (h : Obs w ao n cap X) : Asks 6 #[.agg #[.int .i64 t, .int .u64 ke, .int .u64 ro, .slice ao n cap]] (gmz X) w := by
  have hn : Hid (X.length = n) := h.1
  have hnc := h.2.1
  have hcm := h.2.2.1.1
  unfold Asks
  by_cases h20 : n ≤ 16
  · have h20' : ¬ (16 : Int) < n := by omega
    go_enter func6, ntmps6
    go_wp2
    have kw := (Below.refl w.heap.size w).alloc (Nat.le_refl _) (.cells #[.int .i64 t, .int .u64 ke, .int .u64 ro, .slice ao n cap] 25)
    generalize w.alloc (.cells #[.int .i64 t, .int .u64 ke, .int .u64 ro, .slice ao n cap] 25) = W0 at kw ⊢
    go_loopw [12] (fun i wr => ∃ k : Nat, k ≤ n ∧ i = .int .i64 k ∧ Hid (∀ j, j < k → fewO (oat X j)) ∧ Below w.heap.size w wr) (fun i _ => n - (intOf i).toNat)
    case atStart => exact ⟨0, Nat.zero_le _, rfl, fun j hj => absurd hj (by omega), kw⟩
    case round =>
      obtain ⟨k, hk, rfl, hal, hb⟩ := hrel
      have hbs := hb.size
      by_cases hkn : k < n
      · obtain ⟨b, off, C, rfl, hbb, hC, hr⟩ := wrz (qzz h hb) hkn
        have hkn' : (k : Int) < n := by omega
        have hz := hC.size
        obtain ⟨a2, n2, q2, c2, l2⟩ := hC.label
        obtain ⟨a5, n5, q5, c5, l5⟩ := hC.links
        obtain ⟨a6, n6, q6, c6, l6⟩ := hC.data
        obtain ⟨a7, n7, q7, c7, l7⟩ := hC.maps
        have m2 : Hid ((oat X k).label.length = n2) := l2.1
        have m5 : Hid ((oat X k).links.length = n5) := l5.1
        have m6 : Hid ((oat X k).data.length = n6) := l6.1
        have m7 : Hid ((oat X k).maps.length = n7) := l7.1
        have hone := hC.one
        clear l2 l5 l6 l7 hC
        go_wp2_with (first
          | (with_reducible refine qBz (by kernel_rfl) 43 _ rfl b _ rfl C hr _ underlying43 (by kernel_rfl) (qfz hz) ?_)
          | ((with_reducible refine qcz rfl _ rfl zC qqz ?_); intro R W1 hB1 hR1 hk1)
          | ((with_reducible refine qaz rfl _ _ _ rfl R rfl C rfl zC hR1 (qfz hz) (qmz.trans hz.symm) hone ?_); intro W2 hR2 o2; have k2 := o2.below wr.heap.size wr (by have := hB1.out.1; omega) hk1; have k3 := hb.trans (k2.mono hbs))
          | (with_reducible refine qbz (by kernel_rfl) _ _ rfl R _ rfl _ _ hR2 _ c2 isAgg27 ?_)
          | (with_reducible refine qbz (by kernel_rfl) _ _ rfl R _ rfl _ _ hR2 _ c5 isAgg28 ?_)
          | (with_reducible refine qbz (by kernel_rfl) _ _ rfl R _ rfl _ _ hR2 _ c6 isAgg28 ?_)
          | (with_reducible refine qbz (by kernel_rfl) _ _ rfl R _ rfl _ _ hR2 _ c7 isAgg29 ?_)
          | ((with_reducible refine qgz (by kernel_rfl) .gtr 3 _ _ _ rfl (.int .i64 (n2 : Int)) _ rfl rfl (qAz _ _ _ _ _ _) ?_ ?_) <;> intro e2)
          | ((with_reducible refine qgz (by kernel_rfl) .gtr 3 _ _ _ rfl (.int .i64 (n5 : Int)) _ rfl rfl (qAz _ _ _ _ _ _) ?_ ?_) <;> intro e5)
          | ((with_reducible refine qgz (by kernel_rfl) .gtr 3 _ _ _ rfl (.int .i64 (n6 : Int)) _ rfl rfl (qAz _ _ _ _ _ _) ?_ ?_) <;> intro e6)
          | ((with_reducible refine qgz (by kernel_rfl) .gtr 3 _ _ _ rfl (.int .i64 (n7 : Int)) _ rfl rfl (qAz _ _ _ _ _ _) ?_ ?_) <;> intro e7))
        all_goals first
          | (go_ret
             refine qkz (Y := fewO (oat X k)) ?_ k3 (fun e => e.2 k (by rw [hn.out]; exact hkn))
             refine (?_ : ¬ fewO (oat X k))
             rintro ⟨f2, f5, f6, f7⟩
             rw [m2.out] at f2
             rw [m5.out] at f5
             rw [m6.out] at f6
             rw [m7.out] at f7
             simp only [Hid] at *
             omega)
          | (go_roundw
             case rel => exact ⟨k + 1, by omega, by go_num, wqz hal.out (by refine ⟨?_, ?_, ?_, ?_⟩ <;> first | (rw [m2.out]; have := e2.out; omega) | (rw [m5.out]; have := e5.out; omega) | (rw [m6.out]; have := e6.out; omega) | (rw [m7.out]; have := e7.out; omega)), k3⟩
             case measure => simp [intOf]; omega)
      · obtain rfl : k = n := by omega
        go_wp2
        go_ret
        exact qsz ⟨by rw [hn.out]; exact h20, fun i hi => hal.out i (by rw [hn.out] at hi; exact hi)⟩ hb
  · have h20' : (16 : Int) < n := by omega
    have hq : Hid (¬ n ≤ 16) := h20
    go_enter func6, ntmps6
    go_wp2
    go_ret
    exact qkz hq ((Below.refl _ w).alloc (Nat.le_refl _) _) (fun e => by have := e.1; rw [hn.out] at this; exact this)
end
section
structure Tre (X : List Ob) (ro : Int) : Prop where
 srt : Srt X
 snd : ∀ x ∈ X, q3z x = true
 len : X.length ≤ 1024
 rot : ∃ r, fnd X ro = some r ∧ r.kind = 2 ∧ r.quota ≤ 1024
 hro : holL X ro = []
 hol : ∀ o ∈ X, o.id ≠ ro → holL X o.id ≠ []
 lnk : ∀ d ∈ X, ∀ i ∈ d.links, (fnd X i).isSome = true ∧ plcB d.label (fO X i).label = true
 use : ∀ d ∈ X, d.kind = 2 → vjz X d ≤ d.quota
 upw : ∀ o ∈ X, o.kind = 2 → o.id ≠ ro → upB X ro o.id = true
theorem tre_of {t : Int} {key : Nat} {ro : Int} {X : List Ob} (h : fitD t key ro X = true) : Tre X ro := by
 unfold fitD at h
 simp only [Bool.and_eq_true] at h
 obtain ⟨⟨hf, hr⟩, hlp, _⟩ := h
 obtain ⟨hs, hso, hlen⟩ := vFz hf
 rw [gCz (p := fun o => lnkB X o && plaB X ro o)] at hlp
 obtain ⟨r, hrf⟩ := Option.isSome_iff_exists.1 hr
 have hri := xRz hrf
 have hp := hlp r hri.2
 rw [Bool.and_eq_true] at hp
 have hp2 := hp.2
 unfold plaB at hp2
 rw [if_pos hri.1, hri.1] at hp2
 simp only [Bool.and_eq_true, decide_eq_true_eq] at hp2
 refine ⟨hs, hso, hlen, ⟨r, hrf, hp2.2.1, hp2.2.2⟩, List.eq_nil_of_length_eq_zero hp2.1, ?_, ?_, ?_, ?_⟩
 ·intro o ho hne
  have := hlp o ho
  rw [Bool.and_eq_true] at this
  have h2 := this.2
  unfold plaB at h2
  rw [if_neg hne] at h2
  simp only [Bool.and_eq_true, decide_eq_true_eq] at h2
  intro q
  rw [q] at h2
  simp at h2
 ·intro d hd i hi
  have := hlp d hd
  rw [Bool.and_eq_true] at this
  have h1 := this.1
  unfold lnkB at h1
  simp only [Bool.and_eq_true, List.all_eq_true] at h1
  exact h1.1 i hi
 ·intro d hd k2
  have := hlp d hd
  rw [Bool.and_eq_true] at this
  have h1 := this.1
  unfold lnkB at h1
  simp only [Bool.and_eq_true, Bool.or_eq_true, Bool.not_eq_true', decide_eq_true_eq, decide_eq_false_iff_not] at h1
  rcases h1.2 with q | q
  ·exact absurd k2 q
  ·exact q
 ·intro o ho k2 hne
  have := hlp o ho
  rw [Bool.and_eq_true] at this
  have h2 := this.2
  unfold plaB at h2
  rw [if_neg hne] at h2
  simp only [Bool.and_eq_true, Bool.or_eq_true, Bool.not_eq_true', decide_eq_false_iff_not] at h2
  rcases h2.2 with q | q
  ·exact absurd k2 q
  ·exact q
theorem alo_io {x : Ob} (h : aloO x = x) (hk : ¬ x.kind = 6) : x.inn = [] ∧ x.out = [] := by
 have e : (aloO x).inn = [] ∧ (aloO x).out = [] := by
  unfold aloO
  by_cases h1 : x.kind = 1
  ·rw [if_pos h1]; exact ⟨rfl, rfl⟩
  rw [if_neg h1]
  by_cases h2 : x.kind = 2
  ·rw [if_pos h2]; exact ⟨rfl, rfl⟩
  rw [if_neg h2]
  by_cases h3 : x.kind = 3
  ·rw [if_pos h3]; exact ⟨rfl, rfl⟩
  rw [if_neg h3]
  by_cases h4 : x.kind = 4
  ·rw [if_pos h4]; exact ⟨rfl, rfl⟩
  rw [if_neg h4]
  by_cases h5 : x.kind = 5
  ·rw [if_pos h5]; exact ⟨rfl, rfl⟩
  rw [if_neg h5, if_neg hk]; exact ⟨rfl, rfl⟩
 rw [h] at e; exact e
theorem kaz {x : Ob} (hs : q3z x = true) (hf : x.links.length < 4294967296 ∧ x.data.length < 4294967296 ∧ x.maps.length < 4294967296) : Small x := by
 obtain ⟨hc, ho, hw⟩ := quz.1 hs
 have ha := (q8z x).1 hw
 have b1 := (qxz.1 (qMz.1 hc).2.2.2.1).1
 have hth : x.th.clear.length < 4294967296 ∧ x.th.l0.length < 4294967296 ∧ x.th.l1.length < 4294967296 ∧ x.th.l2.length < 4294967296 ∧ x.th.l3.length < 4294967296 ∧ x.th.alerts.length < 4294967296 := by
  by_cases h4 : x.kind = 4
  ·obtain ⟨_, q1, q2⟩ := (own4 h4).1 ho
   have k1 := (qxz.1 (q0z.1 q1).2.1).1
   have q3 := (q2z.1 q2).1
   have k2 := (qxz.1 (q3 0 (by omega))).1
   have k3 := (qxz.1 (q3 1 (by omega))).1
   have k4 := (qxz.1 (q3 2 (by omega))).1
   have k5 := (qxz.1 (q3 3 (by omega))).1
   simp only [labs] at k2 k3 k4 k5
   have k6 : x.th.alerts.length ≤ 8 := by
    unfold thrB at q2
    simp only [Bool.and_eq_true, decide_eq_true_eq] at q2
    omega
   omega
  ·rw [alo_th ha h4]; decide
 have hgt : x.gt.grant.length < 4294967296 ∧ x.gt.clear.length < 4294967296 := by
  by_cases h5 : x.kind = 5
  ·have q := q0z.1 ((own5 h5).1 ho)
   have k1 := (qxz.1 q.1).1
   have k2 := (qxz.1 q.2.1).1
   omega
  ·rw [alo_gt ha h5]; decide
 have hio : x.inn.length < 4294967296 ∧ x.out.length < 4294967296 := by
  by_cases h6 : x.kind = 6
  ·unfold ownB at ho
   rw [if_neg (by rw [h6]; decide), if_neg (by rw [h6]; decide), if_neg (by rw [h6]; decide), if_neg (by rw [h6]; decide), if_neg (by rw [h6]; decide), if_pos h6] at ho
   simp only [Bool.and_eq_true, decide_eq_true_eq] at ho
   omega
  ·rw [(alo_io ha h6).1, (alo_io ha h6).2]; decide
 exact ⟨by omega, hf.1, hf.2.1, hf.2.2, hth.1, hth.2.2.2.2.2, hth.2.1, hth.2.2.1, hth.2.2.2.1, hth.2.2.2.2.1, hgt.1, hgt.2, hio.1, hio.2⟩
theorem ySz {t ke ro : Int} {X : List Ob} (h : gmz X) (hf : fitW ⟨t, ke, ro, X⟩ = true) : wbz X := by
 intro x hx
 obtain ⟨i, hi, e⟩ := List.getElem_of_mem hx
 have := h.2 i hi
 rw [qGz hi, e] at this
 exact kaz ((vFz hf).2.1 x hx) ⟨by have := this.2.1; omega, by have := this.2.2.1; omega, by have := this.2.2.2; omega⟩
end
end Go.Proofs.YtklnneiblmakmaaGreat
