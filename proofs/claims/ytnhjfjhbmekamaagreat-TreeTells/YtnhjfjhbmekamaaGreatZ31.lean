/-
 PROVED HERE: what the law's few of chapter 14 returns when it is called (a contract over this translation); plain facts on . What is asked stands at each.
-/
import Derived.Test.YtnhjfjhbmekamaaGreatZ22
import Derived.Test.YtnhjfjhbmekamaaGreatZ29
import Derived.Test.YtnhjfjhbmekamaaGreatZ30
namespace Go.Proofs.YtnhjfjhbmekamaaGreat
set_option maxRecDepth 100000
set_option maxHeartbeats 8000000
open Go.RowKit Go.Shelf
set_option linter.unusedVariables false
attribute [local go_sem] Oper.semAt_some

def fewO (x : Ob) : Prop := x.label.length ≤ 20 ∧ x.links.length ≤ 70 ∧ x.data.length ≤ 300 ∧ x.maps.length ≤ 20
def few14P (l : List Ob) : Prop := l.length ≤ 16 ∧ ∀ i, i < l.length → fewO (oat l i)
theorem few14_any {w : World} {t ke ro : Int} {ao : Option Addr} {n cap : Nat} {X : List Ob} (h : Obs w ao n cap X) : Asks 8 #[.agg #[.int .i64 t, .int .u64 ke, .int .u64 ro, .slice ao n cap]] (few14P X) w := by
  have hn : Hid (X.length = n) := h.1
  have hnc := h.2.1
  have hcm := h.2.2.1.1
  unfold Asks
  by_cases h20 : n ≤ 16
  · have h20' : ¬ (16 : Int) < n := by omega
    go_enter Tryz.func8, Tryz.ntmps8
    go_wp2
    have kw := (Below.refl w.heap.size w).alloc (Nat.le_refl _) (.cells #[.int .i64 t, .int .u64 ke, .int .u64 ro, .slice ao n cap] 25)
    generalize w.alloc (.cells #[.int .i64 t, .int .u64 ke, .int .u64 ro, .slice ao n cap] 25) = W0 at kw ⊢
    go_loopw [12] (fun i wr => ∃ k : Nat, k ≤ n ∧ i = .int .i64 k ∧ Hid (∀ j, j < k → fewO (oat X j)) ∧ Below w.heap.size w wr) (fun i _ => n - (intOf i).toNat)
    case atStart => exact ⟨0, Nat.zero_le _, rfl, fun j hj => absurd hj (by omega), kw⟩
    case round =>
      obtain ⟨k, hk, rfl, hal, hb⟩ := hrel
      have hbs := hb.size
      by_cases hkn : k < n
      · obtain ⟨b, off, C, rfl, hbb, hC, hr⟩ := obs_at (obs_next h hb) hkn
        have hkn' : (k : Int) < n := by omega
        have hz := hC.size
        obtain ⟨a2, n2, q2, c2, l2⟩ := hC.label
        obtain ⟨a5, n5, q5, c5, l5⟩ := hC.links
        obtain ⟨a6, n6, q6, c6, l6⟩ := hC.data
        obtain ⟨a7, n7, q7, c7, l7⟩ := hC.maps
        have m2 : Hid ((oat X k).label.length = n2) := l2.1
        have m5 : Hid ((oat X k).links.length = n5) := l5.1
        have m6 : Hid ((oat X k).data.length = n6) := l6.1
        have m7 : Hid ((oat X k).maps.length = n7) := l7.1
        have hone := hC.one
        clear l2 l5 l6 l7 hC
        go_wp2_with (first
          | (with_reducible refine wpList_loadm (by kernel_rfl) 43 _ rfl b _ rfl C hr _ Tryz.underlying43 (by kernel_rfl) (size40C hz) ?_)
          | ((with_reducible refine wpList_alloc rfl _ rfl zC zero40 ?_); intro R W1 hB1 hR1 hk1)
          | ((with_reducible refine wpList_store_blk rfl _ _ _ rfl R rfl C rfl zC hR1 (size40C hz) (zC_size.trans hz.symm) hone ?_); intro W2 hR2 o2; have k2 := o2.below wr.heap.size wr (by have := hB1.out.1; omega) hk1; have k3 := hb.trans (k2.mono hbs))
          | (with_reducible refine wpList_load1 (by first | kernel_rfl | with_unfolding_all rfl) _ _ rfl R _ rfl _ _ hR2 _ c2 Tryz.isAgg27 ?_)
          | (with_reducible refine wpList_load1 (by first | kernel_rfl | with_unfolding_all rfl) _ _ rfl R _ rfl _ _ hR2 _ c5 Tryz.isAgg28 ?_)
          | (with_reducible refine wpList_load1 (by first | kernel_rfl | with_unfolding_all rfl) _ _ rfl R _ rfl _ _ hR2 _ c6 Tryz.isAgg28 ?_)
          | (with_reducible refine wpList_load1 (by first | kernel_rfl | with_unfolding_all rfl) _ _ rfl R _ rfl _ _ hR2 _ c7 Tryz.isAgg29 ?_)
          | ((with_reducible refine wpList_test (by first | kernel_rfl | with_unfolding_all rfl) .gtr 3 _ _ _ rfl (.int .i64 (n2 : Int)) _ rfl rfl (tgt_int _ _ _ _ _ _) ?_ ?_) <;> intro e2)
          | ((with_reducible refine wpList_test (by first | kernel_rfl | with_unfolding_all rfl) .gtr 3 _ _ _ rfl (.int .i64 (n5 : Int)) _ rfl rfl (tgt_int _ _ _ _ _ _) ?_ ?_) <;> intro e5)
          | ((with_reducible refine wpList_test (by first | kernel_rfl | with_unfolding_all rfl) .gtr 3 _ _ _ rfl (.int .i64 (n6 : Int)) _ rfl rfl (tgt_int _ _ _ _ _ _) ?_ ?_) <;> intro e6)
          | ((with_reducible refine wpList_test (by first | kernel_rfl | with_unfolding_all rfl) .gtr 3 _ _ _ rfl (.int .i64 (n7 : Int)) _ rfl rfl (tgt_int _ _ _ _ _ _) ?_ ?_) <;> intro e7))
        all_goals first
          | (go_ret
             refine askP_no (Y := fewO (oat X k)) ?_ k3 (fun e => e.2 k (by rw [hn.out]; exact hkn))
             refine (?_ : ¬ fewO (oat X k))
             rintro ⟨f2, f5, f6, f7⟩
             rw [m2.out] at f2
             rw [m5.out] at f5
             rw [m6.out] at f6
             rw [m7.out] at f7
             simp only [Hid] at *
             omega)
          | (go_roundw
             case rel => exact ⟨k + 1, by omega, by go_num, fn_succ hal.out (by refine ⟨?_, ?_, ?_, ?_⟩ <;> first | (rw [m2.out]; have := e2.out; omega) | (rw [m5.out]; have := e5.out; omega) | (rw [m6.out]; have := e6.out; omega) | (rw [m7.out]; have := e7.out; omega)), k3⟩
             case measure => simp [intOf]; omega)
      · obtain rfl : k = n := by omega
        go_wp2
        go_ret
        exact askP_yes ⟨by rw [hn.out]; exact h20, fun i hi => hal.out i (by rw [hn.out] at hi; exact hi)⟩ hb
  · have h20' : (16 : Int) < n := by omega
    have hq : Hid (¬ n ≤ 16) := h20
    go_enter Tryz.func8, Tryz.ntmps8
    go_wp2
    go_ret
    exact askP_no hq ((Below.refl _ w).alloc (Nat.le_refl _) _) (fun e => by have := e.1; rw [hn.out] at this; exact this)
end Go.Proofs.YtnhjfjhbmekamaaGreat
namespace Go.Proofs.YtnhjfjhbmekamaaGreat
set_option maxRecDepth 100000
set_option maxHeartbeats 8000000

structure Tre (X : List Ob) (ro : Int) : Prop where
 srt : Srt X
 snd : ∀ x ∈ X, soundB x = true
 len : X.length ≤ 1024
 rot : ∃ r, fnd X ro = some r ∧ r.kind = 2 ∧ r.quota ≤ 1024
 hro : holL X ro = []
 hol : ∀ o ∈ X, o.id ≠ ro → holL X o.id ≠ []
 lnk : ∀ d ∈ X, ∀ i ∈ d.links, (fnd X i).isSome = true ∧ plcB d.label (fO X i).label = true
 use : ∀ d ∈ X, d.kind = 2 → usesN X d ≤ d.quota
 upw : ∀ o ∈ X, o.kind = 2 → o.id ≠ ro → upB X ro o.id = true
theorem tre_of {t : Int} {key : Nat} {ro : Int} {X : List Ob} (h : fitD t key ro X = true) : Tre X ro := by
 unfold fitD at h
 simp only [Bool.and_eq_true] at h
 obtain ⟨⟨hf, hr⟩, hlp, _⟩ := h
 obtain ⟨hs, hso, hlen⟩ := fit_mem hf
 rw [all_oat (p := fun o => lnkB X o && plaB X ro o)] at hlp
 obtain ⟨r, hrf⟩ := Option.isSome_iff_exists.1 hr
 have hri := fnd_id hrf
 have hp := hlp r hri.2
 rw [Bool.and_eq_true] at hp
 have hp2 := hp.2
 unfold plaB at hp2
 rw [if_pos hri.1, hri.1] at hp2
 simp only [Bool.and_eq_true, decide_eq_true_eq] at hp2
 refine ⟨hs, hso, hlen, ⟨r, hrf, hp2.2.1, hp2.2.2⟩, List.eq_nil_of_length_eq_zero hp2.1, ?_, ?_, ?_, ?_⟩
 ·intro o ho hne
  have := hlp o ho
  rw [Bool.and_eq_true] at this
  have h2 := this.2
  unfold plaB at h2
  rw [if_neg hne] at h2
  simp only [Bool.and_eq_true, decide_eq_true_eq] at h2
  intro q
  rw [q] at h2
  simp at h2
 ·intro d hd i hi
  have := hlp d hd
  rw [Bool.and_eq_true] at this
  have h1 := this.1
  unfold lnkB at h1
  simp only [Bool.and_eq_true, List.all_eq_true] at h1
  exact h1.1 i hi
 ·intro d hd k2
  have := hlp d hd
  rw [Bool.and_eq_true] at this
  have h1 := this.1
  unfold lnkB at h1
  simp only [Bool.and_eq_true, Bool.or_eq_true, Bool.not_eq_true', decide_eq_true_eq, decide_eq_false_iff_not] at h1
  rcases h1.2 with q | q
  ·exact absurd k2 q
  ·exact q
 ·intro o ho k2 hne
  have := hlp o ho
  rw [Bool.and_eq_true] at this
  have h2 := this.2
  unfold plaB at h2
  rw [if_neg hne] at h2
  simp only [Bool.and_eq_true, Bool.or_eq_true, Bool.not_eq_true', decide_eq_false_iff_not] at h2
  rcases h2.2 with q | q
  ·exact absurd k2 q
  ·exact q
theorem nodup_le : ∀ (l m : List Int), l.Nodup → (∀ x ∈ l, x ∈ m) → l.length ≤ m.length
 | [], _, _, _ => Nat.zero_le _
 | a :: l, m, h, hm => by
  obtain ⟨h1, h2⟩ := List.nodup_cons.1 h
  have ha := hm a (List.mem_cons_self ..)
  have := nodup_le l (m.erase a) h2 fun x hx => (List.mem_erase_of_ne (fun e => h1 (by rw [← e]; exact hx))).2 (hm x (List.mem_cons_of_mem _ hx))
  rw [List.length_erase_of_mem ha] at this
  have : 0 < m.length := List.length_pos_of_mem ha
  simp only [List.length_cons]
  omega
theorem abv_take (X : List Ob) : ∀ (f : Nat) (i : Int), abvL X f i = (abvL X (f + 1) i).take f
 | 0, i => by simp [abvL]
 | f + 1, i => by
  cases hh : holL X i with
  | nil => rw [show abvL X (f + 1) i = [] from by unfold abvL; rw [hh], show abvL X (f + 1 + 1) i = [] from by unfold abvL; rw [hh]]; rfl
  | cons a t =>
   rw [show abvL X (f + 1) i = a :: abvL X f a from by conv => lhs; unfold abvL; rw [hh], show abvL X (f + 1 + 1) i = a :: abvL X (f + 1) a from by conv => lhs; unfold abvL; rw [hh]]
   rw [List.take_succ_cons, ← abv_take X f a]
section
variable {X : List Ob} {ro : Int}
abbrev wayL (X : List Ob) (i : Int) : List Int := abvL X (X.length + 1) i
theorem links_cont (h : Tre X ro) {d : Ob} (hd : d ∈ X) {i : Int} (hi : i ∈ d.links) : d.kind = 2 := Classical.byContradiction fun q => by rw [links_nil (h.snd d hd) q] at hi; cases hi
theorem way_cont (h : Tre X ro) {o : Ob} (ho : o ∈ X) (k2 : o.kind = 2) : (wayL X o.id).length ≤ X.length ∧ (o.id ≠ ro → (wayL X o.id).getLast?.getD 0 = ro ∧ wayL X o.id ≠ []) := by
 by_cases e : o.id = ro
 ·refine ⟨?_, fun q => absurd e q⟩
  rw [e]
  unfold wayL abvL
  rw [h.hro]
  exact Nat.zero_le _
 ·have hu := h.upw o ho k2 e
  unfold upB at hu
  rw [decide_eq_false e, Bool.false_and, Bool.false_or, Bool.and_eq_true, decide_eq_true_eq, decide_eq_true_eq] at hu
  have hr : rabv X o.id = wayL X o.id ∧ (wayL X o.id).length ≤ X.length := by
   unfold rabv at hu ⊢
   split at hu
   ·rename_i hq; rw [if_pos hq]; exact ⟨rfl, hq⟩
   ·exact absurd hu.1 (by simp)
  rw [hr.1] at hu
  exact ⟨hr.2, fun _ => ⟨hu.2, List.length_pos_iff.1 hu.1⟩⟩
theorem way_step (h : Tre X ro) {o : Ob} (ho : o ∈ X) (hne : o.id ≠ ro) : ∃ d ∈ X, d.kind = 2 ∧ o.id ∈ d.links ∧ (holL X o.id).head? = some d.id ∧ wayL X o.id = d.id :: wayL X d.id := by
 cases hh : holL X o.id with
 | nil => exact absurd hh (h.hol o ho hne)
 | cons a t =>
  obtain ⟨d, hd, e, hi⟩ := holL_mem (show a ∈ holL X o.id by rw [hh]; exact List.mem_cons_self ..)
  have k2 := links_cont h hd hi
  refine ⟨d, hd, k2, hi, by rw [e]; rfl, ?_⟩
  unfold wayL
  have e1 : abvL X (X.length + 1) o.id = a :: abvL X X.length a := by conv => lhs; unfold abvL; rw [hh]
  rw [e1, e, abv_take X X.length a]
  congr 1
  refine List.take_of_length_le ?_
  have := (way_cont h hd k2).1
  rw [e] at this
  exact this
theorem way_root (h : Tre X ro) : wayL X ro = [] := by unfold wayL abvL; rw [h.hro]
theorem way_all (h : Tre X ro) : ∀ (k : Nat) (o : Ob), o ∈ X → (wayL X o.id).length = k → (∀ c ∈ wayL X o.id, (wayL X c).length < k ∧ ∃ d ∈ X, d.id = c) ∧ (wayL X o.id).Nodup ∧ (wayL X o.id = [] ∨ (wayL X o.id).getLast?.getD 0 = ro)
 | 0, o, ho, hk => by
  rw [List.eq_nil_of_length_eq_zero hk]
  exact ⟨fun c hc => absurd hc (by simp), List.nodup_nil, .inl rfl⟩
 | k + 1, o, ho, hk => by
  have hne : o.id ≠ ro := fun e => by rw [e, way_root h] at hk; cases hk
  obtain ⟨d, hd, k2, _, _, hw⟩ := way_step h ho hne
  rw [hw, List.length_cons] at hk
  obtain ⟨i1, i2, i3⟩ := way_all h k d hd (by omega)
  rw [hw]
  refine ⟨?_, ?_, .inr ?_⟩
  ·intro c hc
   rcases List.mem_cons.1 hc with q | q
   ·rw [q]; exact ⟨by omega, d, hd, rfl⟩
   ·have := i1 c q; exact ⟨by omega, this.2⟩
  ·refine List.nodup_cons.2 ⟨fun q => ?_, i2⟩
   have := (i1 d.id q).1
   omega
  ·by_cases e : d.id = ro
   ·rw [e, way_root h]; rfl
   ·have hc := (way_cont h hd k2).2 e
    cases hl : wayL X d.id with
    | nil => exact absurd hl hc.2
    | cons b r => rw [List.getLast?_cons_cons, ← hl]; exact hc.1
theorem way_le (h : Tre X ro) {o : Ob} (ho : o ∈ X) : (wayL X o.id).length < X.length := by
 obtain ⟨i1, i2, _⟩ := way_all h _ o ho rfl
 have hnd : (o.id :: wayL X o.id).Nodup := List.nodup_cons.2 ⟨fun q => by have := (i1 o.id q).1; omega, i2⟩
 have := nodup_le _ (X.map Ob.id) hnd fun x hx => by
  rcases List.mem_cons.1 hx with q | q
  ·rw [q]; exact List.mem_map.2 ⟨o, ho, rfl⟩
  ·obtain ⟨d, hd, e⟩ := (i1 x q).2
   exact List.mem_map.2 ⟨d, hd, e⟩
 rw [List.length_map, List.length_cons] at this
 omega
theorem up_way (h : Tre X ro) {o : Ob} (ho : o ∈ X) : upsF (hldF X) X.length (hldF X o.id) = wayL X o.id := by
 rw [ups_abv h.srt (fun d hd => links_nodup (h.snd d hd)) _ _ (fnd_mem ho)]
 unfold wayL
 rw [abv_take]
 exact List.take_of_length_le (Nat.le_of_lt (way_le h ho))
theorem up_nil (h : Tre X ro) {o : Ob} (ho : o ∈ X) : wayL X o.id = [] ↔ o.id = ro := by
 constructor
 ·intro e
  refine Classical.byContradiction fun hne => ?_
  obtain ⟨d, _, _, _, _, hw⟩ := way_step h ho hne
  rw [e] at hw
  cases hw
 ·intro e; rw [e]; exact way_root h
theorem up_last (h : Tre X ro) {o : Ob} (ho : o ∈ X) (hne : wayL X o.id ≠ []) : (wayL X o.id).getLast?.getD 0 = ro := ((way_all h _ o ho rfl).2.2).resolve_left hne
theorem use_all (h : Tre X ro) {o : Ob} (ho : o ∈ X) : pagO o + (o.links.map (qOf X)).sum ≤ o.quota := by
 have hp := pag_eq (h.snd o ho)
 by_cases k2 : o.kind = 2
 ·have := h.use o ho k2
  unfold usesN at this
  omega
 ·rw [links_nil (h.snd o ho) k2, hp]
  have := pag_quota (h.snd o ho)
  simp only [List.map_nil, List.sum_nil]
  omega
theorem data_nil {x : Ob} (h : soundB x = true) (hk : x.kind ≠ 1) : x.data = [] := alo_data ((alone_iff x).1 (sound_iff.1 h).2.2) hk
theorem tre_sum (h : Tre X ro) : sumO X gO ≤ qOf X ro := by
 refine all_within h.srt h.snd (fun x hx hne => ?_) h.use (fun d hd k => links_nil (h.snd d hd) k) (fun d hd k2 => ?_)
 ·obtain ⟨d, hd, _, hi, _⟩ := way_step h hx hne
  exact ⟨d, hd, hi⟩
 ·unfold pagN
  rw [data_nil (h.snd d hd) (by rw [k2]; decide)]
  decide
theorem g_ge (h : Tre X ro) {o : Ob} (ho : o ∈ X) : 1 ≤ gO o ∧ pagN o ≤ gO o := by
 have hq := (com_iff.1 (sound_iff.1 (h.snd o ho)).1).2.1
 unfold gO
 by_cases k2 : o.kind = 2
 ·rw [if_pos k2]
  refine ⟨Int.le_refl _, ?_⟩
  unfold pagN
  rw [data_nil (h.snd o ho) (by rw [k2]; decide)]
  decide
 ·rw [if_neg k2]
  exact ⟨hq, pag_quota (h.snd o ho)⟩
theorem sum_ones (X : List Ob) : sumO X (fun _ => 1) = X.length := by
 induction X with
 | nil => rfl
 | cons x r ih => rw [sumO_cons, ih, List.length_cons]; omega
theorem tre_len (h : Tre X ro) : (X.length : Int) ≤ qOf X ro := by
 have := sumO_le (X := X) (f := fun _ => 1) (g := gO) fun x hx => (g_ge h hx).1
 rw [sum_ones] at this
 have := tre_sum h
 omega
theorem tre_pag (h : Tre X ro) : sumO X pagN ≤ qOf X ro := Int.le_trans (sumO_le fun _ hx => (g_ge h hx).2) (tre_sum h)
end
theorem sumO_take {X : List Ob} {f : Ob → Int} {k : Nat} (h : k < X.length) : sumO (X.take (k + 1)) f = sumO (X.take k) f + f (oat X k) := by
 unfold sumO
 rw [List.take_add_one, List.getElem?_eq_getElem h, Option.toList_some, List.map_append, List.sum_append, oat_get h]
 simp
theorem alo_io {x : Ob} (h : aloO x = x) (hk : ¬ x.kind = 6) : x.inn = [] ∧ x.out = [] := by
 have e : (aloO x).inn = [] ∧ (aloO x).out = [] := by
  unfold aloO
  by_cases h1 : x.kind = 1
  ·rw [if_pos h1]; exact ⟨rfl, rfl⟩
  rw [if_neg h1]
  by_cases h2 : x.kind = 2
  ·rw [if_pos h2]; exact ⟨rfl, rfl⟩
  rw [if_neg h2]
  by_cases h3 : x.kind = 3
  ·rw [if_pos h3]; exact ⟨rfl, rfl⟩
  rw [if_neg h3]
  by_cases h4 : x.kind = 4
  ·rw [if_pos h4]; exact ⟨rfl, rfl⟩
  rw [if_neg h4]
  by_cases h5 : x.kind = 5
  ·rw [if_pos h5]; exact ⟨rfl, rfl⟩
  rw [if_neg h5, if_neg hk]; exact ⟨rfl, rfl⟩
 rw [h] at e; exact e
theorem sound_small {x : Ob} (hs : soundB x = true) (hf : x.links.length < 4294967296 ∧ x.data.length < 4294967296 ∧ x.maps.length < 4294967296) : Small x := by
 obtain ⟨hc, ho, hw⟩ := sound_iff.1 hs
 have ha := (alone_iff x).1 hw
 have b1 := (kept_iff.1 (com_iff.1 hc).2.2.2.1).1
 have hth : x.th.clear.length < 4294967296 ∧ x.th.l0.length < 4294967296 ∧ x.th.l1.length < 4294967296 ∧ x.th.l2.length < 4294967296 ∧ x.th.l3.length < 4294967296 ∧ x.th.alerts.length < 4294967296 := by
  by_cases h4 : x.kind = 4
  ·obtain ⟨_, q1, q2⟩ := (own4 h4).1 ho
   have k1 := (kept_iff.1 (boun_iff.1 q1).2.1).1
   have q3 := (thr_iff.1 q2).1
   have k2 := (kept_iff.1 (q3 0 (by omega))).1
   have k3 := (kept_iff.1 (q3 1 (by omega))).1
   have k4 := (kept_iff.1 (q3 2 (by omega))).1
   have k5 := (kept_iff.1 (q3 3 (by omega))).1
   simp only [labs] at k2 k3 k4 k5
   have k6 : x.th.alerts.length ≤ 8 := by
    unfold thrB at q2
    simp only [Bool.and_eq_true, decide_eq_true_eq] at q2
    omega
   omega
  ·rw [alo_th ha h4]; decide
 have hgt : x.gt.grant.length < 4294967296 ∧ x.gt.clear.length < 4294967296 := by
  by_cases h5 : x.kind = 5
  ·have q := boun_iff.1 ((own5 h5).1 ho)
   have k1 := (kept_iff.1 q.1).1
   have k2 := (kept_iff.1 q.2.1).1
   omega
  ·rw [alo_gt ha h5]; decide
 have hio : x.inn.length < 4294967296 ∧ x.out.length < 4294967296 := by
  by_cases h6 : x.kind = 6
  ·unfold ownB at ho
   rw [if_neg (by rw [h6]; decide), if_neg (by rw [h6]; decide), if_neg (by rw [h6]; decide), if_neg (by rw [h6]; decide), if_neg (by rw [h6]; decide), if_pos h6] at ho
   simp only [Bool.and_eq_true, decide_eq_true_eq] at ho
   omega
  ·rw [(alo_io ha h6).1, (alo_io ha h6).2]; decide
 exact ⟨by omega, hf.1, hf.2.1, hf.2.2, hth.1, hth.2.2.2.2.2, hth.2.1, hth.2.2.1, hth.2.2.2.1, hth.2.2.2.2.1, hgt.1, hgt.2, hio.1, hio.2⟩
theorem few_smalls {t ke ro : Int} {X : List Ob} (h : few14P X) (hf : fitW ⟨t, ke, ro, X⟩ = true) : Smalls X := by
 intro x hx
 obtain ⟨i, hi, e⟩ := List.getElem_of_mem hx
 have := h.2 i hi
 rw [oat_get hi, e] at this
 exact sound_small ((fit_mem hf).2.1 x hx) ⟨by have := this.2.1; omega, by have := this.2.2.1; omega, by have := this.2.2.2; omega⟩
end Go.Proofs.YtnhjfjhbmekamaaGreat
