/-
 PROVED HERE: what the law's few of chapter 14 returns when it is called (a contract over this translation); plain facts on . What is asked stands at each.
-/
import Derived.Test.YtblklhgojdbfeaaGreatY19
import Derived.Test.YtblklhgojdbfeaaGreatY20
import Derived.Test.YtblklhgojdbfeaaGreatY30
namespace Go.Proofs.YtblklhgojdbfeaaGreat
set_option maxRecDepth 100000
set_option maxHeartbeats 8000000
open Go.RowKit Go.Shelf
set_option linter.unusedVariables false
attribute [local go_sem] Oper.semAt_some

def fewO (x : Ob) : Prop := x.label.length ≤ 20 ∧ x.links.length ≤ 70 ∧ x.data.length ≤ 300 ∧ x.maps.length ≤ 20
end Go.Proofs.YtblklhgojdbfeaaGreat
namespace Go.Proofs.YtblklhgojdbfeaaGreat
set_option maxRecDepth 100000
set_option maxHeartbeats 8000000

structure Tre (X : List Ob) (ro : Int) : Prop where
 srt : Srt X
 snd : ∀ x ∈ X, soundB x = true
 len : X.length ≤ 1024
 rot : ∃ r, fnd X ro = some r ∧ r.kind = 2 ∧ r.quota ≤ 1024
 hro : holL X ro = []
 hol : ∀ o ∈ X, o.id ≠ ro → holL X o.id ≠ []
 lnk : ∀ d ∈ X, ∀ i ∈ d.links, (fnd X i).isSome = true ∧ plcB d.label (fO X i).label = true
 use : ∀ d ∈ X, d.kind = 2 → usesN X d ≤ d.quota
 upw : ∀ o ∈ X, o.kind = 2 → o.id ≠ ro → upB X ro o.id = true
theorem tre_of {t : Int} {key : Nat} {ro : Int} {X : List Ob} (h : fitD t key ro X = true) : Tre X ro := by
 unfold fitD at h
 simp only [Bool.and_eq_true] at h
 obtain ⟨⟨hf, hr⟩, hlp, _⟩ := h
 obtain ⟨hs, hso, hlen⟩ := fit_mem hf
 rw [all_oat (p := fun o => lnkB X o && plaB X ro o)] at hlp
 obtain ⟨r, hrf⟩ := Option.isSome_iff_exists.1 hr
 have hri := fnd_id hrf
 have hp := hlp r hri.2
 rw [Bool.and_eq_true] at hp
 have hp2 := hp.2
 unfold plaB at hp2
 rw [if_pos hri.1, hri.1] at hp2
 simp only [Bool.and_eq_true, decide_eq_true_eq] at hp2
 refine ⟨hs, hso, hlen, ⟨r, hrf, hp2.2.1, hp2.2.2⟩, List.eq_nil_of_length_eq_zero hp2.1, ?_, ?_, ?_, ?_⟩
 ·intro o ho hne
  have := hlp o ho
  rw [Bool.and_eq_true] at this
  have h2 := this.2
  unfold plaB at h2
  rw [if_neg hne] at h2
  simp only [Bool.and_eq_true, decide_eq_true_eq] at h2
  intro q
  rw [q] at h2
  simp at h2
 ·intro d hd i hi
  have := hlp d hd
  rw [Bool.and_eq_true] at this
  have h1 := this.1
  unfold lnkB at h1
  simp only [Bool.and_eq_true, List.all_eq_true] at h1
  exact h1.1 i hi
 ·intro d hd k2
  have := hlp d hd
  rw [Bool.and_eq_true] at this
  have h1 := this.1
  unfold lnkB at h1
  simp only [Bool.and_eq_true, Bool.or_eq_true, Bool.not_eq_true', decide_eq_true_eq, decide_eq_false_iff_not] at h1
  rcases h1.2 with q | q
  ·exact absurd k2 q
  ·exact q
 ·intro o ho k2 hne
  have := hlp o ho
  rw [Bool.and_eq_true] at this
  have h2 := this.2
  unfold plaB at h2
  rw [if_neg hne] at h2
  simp only [Bool.and_eq_true, Bool.or_eq_true, Bool.not_eq_true', decide_eq_false_iff_not] at h2
  rcases h2.2 with q | q
  ·exact absurd k2 q
  ·exact q
theorem alo_io {x : Ob} (h : aloO x = x) (hk : ¬ x.kind = 6) : x.inn = [] ∧ x.out = [] := by
 have e : (aloO x).inn = [] ∧ (aloO x).out = [] := by
  unfold aloO
  by_cases h1 : x.kind = 1
  ·rw [if_pos h1]; exact ⟨rfl, rfl⟩
  rw [if_neg h1]
  by_cases h2 : x.kind = 2
  ·rw [if_pos h2]; exact ⟨rfl, rfl⟩
  rw [if_neg h2]
  by_cases h3 : x.kind = 3
  ·rw [if_pos h3]; exact ⟨rfl, rfl⟩
  rw [if_neg h3]
  by_cases h4 : x.kind = 4
  ·rw [if_pos h4]; exact ⟨rfl, rfl⟩
  rw [if_neg h4]
  by_cases h5 : x.kind = 5
  ·rw [if_pos h5]; exact ⟨rfl, rfl⟩
  rw [if_neg h5, if_neg hk]; exact ⟨rfl, rfl⟩
 rw [h] at e; exact e
theorem sound_small {x : Ob} (hs : soundB x = true) (hf : x.links.length < 4294967296 ∧ x.data.length < 4294967296 ∧ x.maps.length < 4294967296) : Small x := by
 obtain ⟨hc, ho, hw⟩ := sound_iff.1 hs
 have ha := (alone_iff x).1 hw
 have b1 := (kept_iff.1 (com_iff.1 hc).2.2.2.1).1
 have hth : x.th.clear.length < 4294967296 ∧ x.th.l0.length < 4294967296 ∧ x.th.l1.length < 4294967296 ∧ x.th.l2.length < 4294967296 ∧ x.th.l3.length < 4294967296 ∧ x.th.alerts.length < 4294967296 := by
  by_cases h4 : x.kind = 4
  ·obtain ⟨_, q1, q2⟩ := (own4 h4).1 ho
   have k1 := (kept_iff.1 (boun_iff.1 q1).2.1).1
   have q3 := (thr_iff.1 q2).1
   have k2 := (kept_iff.1 (q3 0 (by omega))).1
   have k3 := (kept_iff.1 (q3 1 (by omega))).1
   have k4 := (kept_iff.1 (q3 2 (by omega))).1
   have k5 := (kept_iff.1 (q3 3 (by omega))).1
   simp only [labs] at k2 k3 k4 k5
   have k6 : x.th.alerts.length ≤ 8 := by
    unfold thrB at q2
    simp only [Bool.and_eq_true, decide_eq_true_eq] at q2
    omega
   omega
  ·rw [alo_th ha h4]; decide
 have hgt : x.gt.grant.length < 4294967296 ∧ x.gt.clear.length < 4294967296 := by
  by_cases h5 : x.kind = 5
  ·have q := boun_iff.1 ((own5 h5).1 ho)
   have k1 := (kept_iff.1 q.1).1
   have k2 := (kept_iff.1 q.2.1).1
   omega
  ·rw [alo_gt ha h5]; decide
 have hio : x.inn.length < 4294967296 ∧ x.out.length < 4294967296 := by
  by_cases h6 : x.kind = 6
  ·unfold ownB at ho
   rw [if_neg (by rw [h6]; decide), if_neg (by rw [h6]; decide), if_neg (by rw [h6]; decide), if_neg (by rw [h6]; decide), if_neg (by rw [h6]; decide), if_pos h6] at ho
   simp only [Bool.and_eq_true, decide_eq_true_eq] at ho
   omega
  ·rw [(alo_io ha h6).1, (alo_io ha h6).2]; decide
 exact ⟨by omega, hf.1, hf.2.1, hf.2.2, hth.1, hth.2.2.2.2.2, hth.2.1, hth.2.2.1, hth.2.2.2.1, hth.2.2.2.2.1, hgt.1, hgt.2, hio.1, hio.2⟩
end Go.Proofs.YtblklhgojdbfeaaGreat
namespace Go.Proofs.YtblklhgojdbfeaaGreat
set_option maxRecDepth 100000
set_option maxHeartbeats 8000000
open Go.RowKit Go.Shelf
set_option linter.unusedVariables false

theorem alo_maps {x : Ob} (h : aloO x = x) (hk : ¬ x.kind = 3) : x.maps = [] := by
 have e : (aloO x).maps = [] := by
  unfold aloO
  by_cases h1 : x.kind = 1
  ·rw [if_pos h1]
  rw [if_neg h1]
  by_cases h2 : x.kind = 2
  ·rw [if_pos h2]
  rw [if_neg h2, if_neg hk]
  by_cases h4 : x.kind = 4
  ·rw [if_pos h4]
  rw [if_neg h4]
  by_cases h5 : x.kind = 5
  ·rw [if_pos h5]
  rw [if_neg h5]
  by_cases h6 : x.kind = 6
  ·rw [if_pos h6]
  rw [if_neg h6]; rfl
 rw [h] at e; exact e
theorem sound_small0 {x : Ob} (hs : soundB x = true) : Small x := by
 obtain ⟨hc, ho, hw⟩ := sound_iff.1 hs
 have ha := (alone_iff x).1 hw
 have hq := (com_iff.1 hc).2.2.1
 refine sound_small hs ⟨?_, ?_, ?_⟩
 ·by_cases k2 : x.kind = 2
  ·unfold ownB at ho
   rw [if_neg (by rw [k2]; decide), if_pos k2] at ho
   simp only [Bool.and_eq_true, decide_eq_true_eq] at ho
   omega
  ·rw [links_nil hs k2]; decide
 ·by_cases k1 : x.kind = 1
  ·unfold ownB at ho
   rw [if_pos k1] at ho
   simp only [decide_eq_true_eq] at ho
   omega
  ·rw [alo_data ha k1]; decide
 ·by_cases k3 : x.kind = 3
  ·unfold ownB at ho
   rw [if_neg (by rw [k3]; decide), if_neg (by rw [k3]; decide), if_pos k3] at ho
   unfold PgM.Pg.fitB at ho
   simp only [Bool.and_eq_true, decide_eq_true_eq] at ho
   omega
  ·rw [alo_maps ha k3]; decide
end Go.Proofs.YtblklhgojdbfeaaGreat
