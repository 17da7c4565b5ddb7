/-
 PROVED HERE: plain facts (no Go text): a whole world without links, and without what goes by that, is whole; what lies in t. What is asked stands at each.
-/
import Derived.Test.YtcmcakandbpjfaaZ4
import Derived.Test.YtcmcakandbpjfaaZ9
import Derived.Test.YtcmcakandbpjfaaZ14
import Derived.Test.YtcmcakandbpjfaaZ16
import Derived.Test.YtcmcakandbpjfaaZ17
import Derived.Test.YtcmcakandbpjfaaZ19
namespace Go.Proofs.Ytcmcakandbpjfaa
set_option maxRecDepth 100000
set_option maxHeartbeats 8000000
set_option linter.unusedVariables false

theorem lnk_nil (P : Int → Int → Bool) {c : Ob} (h : c.links = []) : lnkX P c = c := by
 unfold lnkX
 rw [h]
 obtain ⟨id, kind, label, quota, fixed, links, data, maps, th, gt, inn, out⟩ := c
 simp only at h ⊢
 rw [h]; rfl
theorem lnk_all (P : Int → Int → Bool) {c : Ob} (h : ∀ j ∈ c.links, P c.id j = false) : lnkX P c = c := by
 unfold lnkX
 rw [List.filter_eq_self.2 fun j hj => by rw [h j hj]; rfl]
theorem lnk_mem {P : Int → Int → Bool} {c : Ob} {j : Int} : j ∈ (lnkX P c).links ↔ j ∈ c.links ∧ P c.id j = false := by
 unfold lnkX
 simp [List.mem_filter]
theorem lnk_sound (P : Int → Int → Bool) {c : Ob} (hs : soundB c = true) : soundB (lnkX P c) = true := by
 by_cases k : c.kind = 2
 ·obtain ⟨h1, h2, h3⟩ := sound_iff.1 hs
  refine sound_iff.2 ⟨h1, ?_, ?_⟩
  ·have hr := links_rise hs
   unfold ownB lnkX at *
   simp only at h2 ⊢
   rw [if_neg (by rw [k]; decide), if_pos k] at h2 ⊢
   simp only [Bool.and_eq_true, decide_eq_true_eq, List.all_eq_true] at h2 ⊢
   refine ⟨Nat.le_trans (List.length_filter_le ..) h2.1, fun l hl => h2.2.1 l (List.mem_filter.1 hl).1, ?_⟩
   unfold risB
   exact decide_eq_true (List.Pairwise.filter _ hr)
  ·rw [alone_iff] at h3 ⊢
   obtain ⟨id, kind, label, quota, fixed, links, data, maps, th, gt, inn, out⟩ := c
   unfold lnkX
   unfold aloO comO at h3 ⊢
   simp only at h3 ⊢ k
   rw [if_neg (by rw [k]; decide), if_pos k] at h3 ⊢
   cases h3
   rfl
 ·rw [lnk_nil P (links_nil hs k)]; exact hs
section
variable {t ro : Int} {key : Nat} {X : List Ob} {P Q : Int → Int → Bool} {G H : List Int}
theorem mem_swp {y : Ob} : y ∈ swpX X P G ↔ ∃ c ∈ X, ¬ c.id ∈ G ∧ lnkX P c = y := by
 unfold swpX
 rw [List.mem_filter, List.mem_map, decide_eq_true_eq]
 constructor
 ·rintro ⟨⟨c, hc, rfl⟩, h⟩; exact ⟨c, hc, h, rfl⟩
 ·rintro ⟨c, hc, h, rfl⟩; exact ⟨⟨c, hc, rfl⟩, h⟩
theorem swp_srt (hs : Srt X) : Srt (swpX X P G) := by
 unfold swpX Srt
 refine List.Pairwise.filter _ (List.pairwise_map.2 ?_)
 exact hs
theorem swp_fnd (hs : Srt X) (k : Int) : fnd (swpX X P G) k = if k ∈ G then none else (fnd X k).map (lnkX P) := by
 by_cases q : k ∈ G
 ·rw [if_pos q]
  refine fnd_none.2 fun y hy e => ?_
  obtain ⟨c, hc, hg, rfl⟩ := mem_swp.1 hy
  exact hg (by rw [← e] at q; exact q)
 ·rw [if_neg q]
  cases e : fnd X k with
  | none =>
   refine fnd_none.2 fun y hy e' => ?_
   obtain ⟨c, hc, hg, rfl⟩ := mem_swp.1 hy
   exact fnd_none.1 e c hc e'
  | some x =>
   refine (fnd_some (swp_srt hs)).2 ⟨mem_swp.2 ⟨x, (fnd_id e).2, ?_, rfl⟩, (fnd_id e).1⟩
   rw [(fnd_id e).1]; exact q
theorem hol_swp (k : Int) : ∀ X : List Ob, holL (swpX X P G) k = (holL X k).filter fun c => decide (¬ c ∈ G) && !P c k
 | [] => rfl
 | a :: r => by
  have ih := hol_swp k r
  unfold holL swpX at ih ⊢
  have hid : (lnkX P a).id = a.id := rfl
  have hlm : k ∈ (lnkX P a).links ↔ k ∈ a.links ∧ P a.id k = false := lnk_mem
  rw [List.map_cons, List.filter_cons, List.filter_cons, hid]
  by_cases h1 : a.id ∈ G
  ·rw [if_neg (by simpa using h1), ih]
   by_cases h2 : k ∈ a.links
   ·rw [if_pos (decide_eq_true h2), List.map_cons, List.filter_cons, if_neg (by simp [h1])]
   ·rw [if_neg (by simpa using h2)]
  ·rw [if_pos (decide_eq_true h1), List.filter_cons]
   by_cases h2 : k ∈ a.links
   ·rw [if_pos (decide_eq_true h2), List.map_cons, List.filter_cons]
    cases h3 : P a.id k with
    | true =>
     rw [if_neg (by simp [hlm, h3]), ih, if_neg (by simp)]
    | false =>
     rw [if_pos (decide_eq_true (hlm.2 ⟨h2, h3⟩)), List.map_cons, ih, hid, if_pos (by simp [h1])]
   ·rw [if_neg (by simp [hlm, h2]), if_neg (by simpa using h2), ih]
theorem swp_len (X : List Ob) (P : Int → Int → Bool) (G : List Int) : (swpX X P G).length ≤ X.length := by
 unfold swpX
 exact Nat.le_trans (List.length_filter_le ..) (by rw [List.length_map]; exact Nat.le_refl _)
theorem swp_all (hs : Srt X) (hG : G.Pairwise (· < ·)) (hm : ∀ g ∈ G, (fnd X g).isSome = true) : (swpX X P G).length + G.length = X.length := by
 have h1 : (swpX X P G).length = (X.filter fun x => decide (¬ x.id ∈ G)).length := by
  unfold swpX
  rw [List.filter_map, List.length_map]; rfl
 have h2 : ((X.map Ob.id).filter fun k => decide (k ∈ G)) = G := rise_ext (List.Pairwise.filter _ (List.pairwise_map.2 hs)) hG fun x => by
  rw [List.mem_filter, List.mem_map, decide_eq_true_eq]
  constructor
  ·exact fun h => h.2
  ·intro h
   obtain ⟨o, ho⟩ := Option.isSome_iff_exists.1 (hm x h)
   exact ⟨⟨o, (fnd_id ho).2, (fnd_id ho).1⟩, h⟩
 have h3 : (X.filter fun x => decide (x.id ∈ G)).length = G.length := by
  conv => rhs; rw [← h2, List.filter_map, List.length_map]
  rfl
 rw [h1, ← h3]
 have : ∀ l : List Ob, (l.filter fun x => decide (¬ x.id ∈ G)).length + (l.filter fun x => decide (x.id ∈ G)).length = l.length := by
  intro l
  induction l with
  | nil => rfl
  | cons a r ih =>
   by_cases q : a.id ∈ G
   ·rw [List.filter_cons_of_neg (by simpa using q), List.filter_cons_of_pos (by simpa using q), List.length_cons, List.length_cons]; omega
   ·rw [List.filter_cons_of_pos (by simpa using q), List.filter_cons_of_neg (by simpa using q), List.length_cons, List.length_cons]; omega
 exact this X
theorem swp_stay (hT : Tre X ro) (h : Gone X ro P G) {c : Ob} (hc : c ∈ X) (hg : ¬ c.id ∈ G) {j : Int} (hj : j ∈ c.links) (hP : P c.id j = false) : ¬ j ∈ G := fun q => by
 obtain ⟨x, hx⟩ := Option.isSome_iff_exists.1 (hT.lnk c hc j hj).1
 obtain ⟨e, hm⟩ := fnd_id hx
 subst e
 have hne : x.id ≠ ro := fun e => h.root (e ▸ q)
 rcases (h.iff x hm hne).1 q c hc hj with r | r
 ·rw [hP] at r; cases r
 ·exact hg r
theorem swp_holder (hT : Tre X ro) (h : Gone X ro P G) {x : Ob} (hx : x ∈ X) (hne : x.id ≠ ro) (hg : ¬ x.id ∈ G) : ∃ c ∈ X, x.id ∈ c.links ∧ P c.id x.id = false ∧ ¬ c.id ∈ G := Classical.byContradiction fun q => hg ((h.iff x hx hne).2 fun c hc hi => by
 cases hP : P c.id x.id with
 | true => exact .inl rfl
 | false => exact .inr (Classical.byContradiction fun r => q ⟨c, hc, hi, hP, r⟩))
theorem swp_q (hs : Srt X) {j : Int} (hj : ¬ j ∈ G) : qOf (swpX X P G) j = qOf X j := by
 unfold qOf
 rw [swp_fnd hs, if_neg hj]
 cases fnd X j <;> rfl
theorem sum_filter_le {f : Int → Int} {p : Int → Bool} (hf : ∀ i, 0 ≤ f i) : ∀ l : List Int, ((l.filter p).map f).sum ≤ (l.map f).sum
 | [] => Int.le_refl _
 | a :: r => by
  have ih := sum_filter_le (p := p) hf r
  have := hf a
  rw [List.filter_cons]
  by_cases q : p a = true
  ·rw [if_pos q, List.map_cons, List.map_cons, List.sum_cons, List.sum_cons]; omega
  ·rw [if_neg q, List.map_cons, List.sum_cons]; omega
theorem swp_use (hT : Tre X ro) (h : Gone X ro P G) {c : Ob} (hc : c ∈ X) (hg : ¬ c.id ∈ G) : usesN (swpX X P G) (lnkX P c) ≤ usesN X c := by
 have h1 : ((lnkX P c).links.map (qOf (swpX X P G))) = ((lnkX P c).links.map (qOf X)) := List.map_congr_left fun j hj => swp_q hT.srt (swp_stay hT h hc hg (lnk_mem.1 hj).1 (lnk_mem.1 hj).2)
 have h2 := sum_filter_le (f := qOf X) (p := fun j => !P c.id j) (fun i => (qOf_nonneg hT.snd i).1) c.links
 unfold usesN
 rw [h1]
 have h3 : pagN (lnkX P c) = pagN c := rfl
 rw [h3]
 have h4 : (lnkX P c).links = c.links.filter fun j => !P c.id j := rfl
 rw [h4]
 omega
theorem abv_pre (X : List Ob) (i : Int) (f : Nat) : ∀ g, abvL X f i = (abvL X (f + g) i).take f
 | 0 => (List.take_of_length_le (abv_len X f i)).symm
 | g + 1 => by
  rw [abv_pre X i f g, ← Nat.add_assoc, abv_take X (f + g) i, List.take_take, Nat.min_eq_left (by omega)]
theorem abv_in {C : Int → Prop} (hc : ∀ i, C i → ∀ c ∈ holL X i, C c) : ∀ (f : Nat) (i : Int), C i → ∀ c ∈ abvL X f i, C c
 | 0, i, _, c, h => by unfold abvL at h; cases h
 | f + 1, i, hi, c, h => by
  unfold abvL at h
  cases e : holL X i with
  | nil => rw [e] at h; cases h
  | cons a r =>
   rw [e] at h
   have ha := hc i hi a (by rw [e]; exact List.mem_cons_self ..)
   rcases List.mem_cons.1 h with q | q
   ·rw [q]; exact ha
   ·exact abv_in hc f a ha c q
theorem swp_up (hf : fitD t key ro X = true) (h : Gone X ro P G) {x : Ob} (hx : x ∈ X) (k2 : x.kind = 2) (hg : ¬ x.id ∈ G) : upB (swpX X P G) ro x.id = upB X ro x.id := by
 have hT := tre_of hf
 let C : Int → Prop := fun i => ¬ i ∈ G ∧ ∃ o ∈ X, o.id = i ∧ o.kind = 2
 have hone : ∀ i, C i → ∀ c ∈ holL X i, ¬ c ∈ G ∧ P c i = false ∧ C c := fun i hi c hc => by
  obtain ⟨hgi, o, ho, rfl, ko⟩ := hi
  obtain ⟨d, hd, rfl, hl⟩ := hol_mem.1 hc
  have hw := cont_way hf ho ko hd hl
  obtain ⟨e, he, hle, hPe, hge⟩ := swp_holder hT h ho hw.1 hgi
  have : d = e := hol_uniq (hol_sng hf ho (by unfold sngO; rw [ko]; rfl)) hd he hl hle
  subst this
  exact ⟨hge, hPe, hge, d, hd, rfl, links_cont hT hd hl⟩
 have hh : ∀ i, C i → holL (swpX X P G) i = holL X i := fun i hi => by
  rw [hol_swp]
  refine List.filter_eq_self.2 fun c hc => ?_
  have := hone i hi c hc
  rw [this.2.1, decide_eq_true this.1]; rfl
 have hC : ∀ i, C i → ∀ c ∈ holL X i, C c := fun i hi c hc => (hone i hi c hc).2.2
 have hxC : C x.id := ⟨hg, x, hx, rfl, k2⟩
 have hall := way_all hT _ x hx rfl
 have hin := abv_in hC (X.length + 1) x.id hxC
 have hlen : (wayL X x.id).length ≤ (swpX X P G).length := by
  have := nodup_le (wayL X x.id) ((swpX X P G).map Ob.id) hall.2.1 fun c hc => by
   obtain ⟨hgc, o, ho, e, _⟩ := hin c hc
   exact List.mem_map.2 ⟨lnkX P o, mem_swp.2 ⟨o, ho, by rw [e]; exact hgc, rfl⟩, e⟩
  rwa [List.length_map] at this
 have hle := swp_len X P G
 have he : abvL X ((swpX X P G).length + 1) x.id = wayL X x.id := by
  have h1 := abv_pre X x.id ((swpX X P G).length + 1) (X.length - (swpX X P G).length)
  rw [show (swpX X P G).length + 1 + (X.length - (swpX X P G).length) = X.length + 1 from by omega] at h1
  rw [h1]
  exact List.take_of_length_le (by show (wayL X x.id).length ≤ _; omega)
 have hr : rabv (swpX X P G) x.id = wayL X x.id := by
  unfold rabv
  rw [abv_kid hh hC _ _ hxC, he, if_pos hlen]
 have hr2 : rabv X x.id = wayL X x.id := by
  unfold rabv
  rw [if_pos (by show (wayL X x.id).length ≤ _; omega)]
 unfold upB
 rw [hr, hr2]
theorem swp_fit (hf : fitD t key ro X = true) (h : Gone X ro P G) : fitD t key ro (swpX X P G) = true := by
 have hT := tre_of hf
 obtain ⟨hw, hr, hlk, hpl, hsp⟩ := fitD_el hf
 obtain ⟨r, r1, r2, r3⟩ := hT.rot
 refine fitD_mk ?_ ?_ (fun y hy => ?_) (fun y hy => ?_) ?_
 ·unfold fitW at hw ⊢
  simp only [Bool.and_eq_true, decide_eq_true_eq, List.all_eq_true] at hw ⊢
  refine ⟨hw.1, hw.2.1, Nat.le_trans (swp_len X P G) hw.2.2.1, idsB_iff.2 (swp_srt hT.srt), fun y hy => ?_⟩
  obtain ⟨c, hc, _, rfl⟩ := mem_swp.1 hy
  exact lnk_sound P (hT.snd c hc)
 ·rw [swp_fnd hT.srt, if_neg h.root, r1]; rfl
 ·obtain ⟨c, hc, hg, rfl⟩ := mem_swp.1 hy
  unfold lnkB
  rw [Bool.and_eq_true, List.all_eq_true]
  refine ⟨fun j hj => ?_, ?_⟩
  ·obtain ⟨hj1, hj2⟩ := lnk_mem.1 hj
   have hjG := swp_stay hT h hc hg hj1 hj2
   obtain ⟨h1, h2⟩ := hT.lnk c hc j hj1
   obtain ⟨o, ho⟩ := Option.isSome_iff_exists.1 h1
   have h3 : fnd (swpX X P G) j = some (lnkX P o) := by rw [swp_fnd hT.srt, if_neg hjG, ho]; rfl
   rw [h3, fO_some h3]
   rw [fO_some ho] at h2
   rw [Bool.and_eq_true]
   exact ⟨rfl, h2⟩
  ·have h1 := hlk c hc
   unfold lnkB at h1
   rw [Bool.and_eq_true] at h1
   have h2 := h1.2
   rw [Bool.or_eq_true, Bool.not_eq_true', decide_eq_false_iff_not, decide_eq_true_eq] at h2 ⊢
   rcases h2 with q | q
   ·exact .inl q
   ·exact .inr (Int.le_trans (swp_use hT h hc hg) q)
 ·obtain ⟨c, hc, hg, rfl⟩ := mem_swp.1 hy
  have h1 := hpl c hc
  have hid : (lnkX P c).id = c.id := rfl
  have hkd : (lnkX P c).kind = c.kind := rfl
  have hqu : (lnkX P c).quota = c.quota := rfl
  have hfx : (lnkX P c).fixed = c.fixed := rfl
  have hsn : sngO (lnkX P c) = sngO c := rfl
  unfold plaB at h1 ⊢
  rw [hid, hkd, hqu, hfx, hsn]
  by_cases e : c.id = ro
  ·rw [if_pos e] at h1 ⊢
   simp only [Bool.and_eq_true, decide_eq_true_eq] at h1 ⊢
   refine ⟨?_, h1.2⟩
   rw [hol_swp, List.eq_nil_of_length_eq_zero h1.1]; rfl
  ·rw [if_neg e] at h1 ⊢
   simp only [Bool.and_eq_true, decide_eq_true_eq] at h1 ⊢
   obtain ⟨⟨a1, a2⟩, a3⟩ := h1
   refine ⟨⟨?_, ?_⟩, ?_⟩
   ·obtain ⟨d, hd, hl, hP, hgd⟩ := swp_holder hT h hc e hg
    refine List.length_pos_iff.2 fun q => ?_
    have : d.id ∈ holL (swpX X P G) c.id := by
     rw [hol_swp]
     exact List.mem_filter.2 ⟨hol_mem.2 ⟨d, hd, rfl, hl⟩, by rw [hP, decide_eq_true hgd]; rfl⟩
    rw [q] at this; cases this
   ·rw [Bool.not_eq_true', Bool.and_eq_false_iff] at a2 ⊢
    rcases a2 with q | q
    ·left
     rw [decide_eq_false_iff_not] at q ⊢
     rw [hol_swp]
     have := List.length_filter_le (fun d => decide (¬ d ∈ G) && !P d c.id) (holL X c.id)
     omega
    ·exact .inr q
   ·rw [Bool.or_eq_true, Bool.not_eq_true', decide_eq_false_iff_not] at a3 ⊢
    by_cases k2 : c.kind = 2
    ·exact .inr (by rw [swp_up hf h hc k2 hg]; exact a3.resolve_left fun q => q k2)
    ·exact .inl k2
 ·have h1 := (spa_all (key := key) hT.srt).1 hsp
  refine (spa_all (swp_srt hT.srt)).2 fun x hx k4 y hy => ?_
  obtain ⟨c, hc, _, rfl⟩ := mem_swp.1 hx
  obtain ⟨d, hd, _, rfl⟩ := mem_swp.1 hy
  exact h1 c hc k4 d hd
end
end Go.Proofs.Ytcmcakandbpjfaa
namespace Go.Proofs.Ytcmcakandbpjfaa
set_option maxRecDepth 100000
set_option maxHeartbeats 8000000
open Go.RowKit Go.Shelf
set_option linter.unusedVariables false

def ctO (i : Int) (l : Lb) (q : Int) (f : Bool) (k : List Int) : Ob := ⟨i, 2, l, q, f, k, [], [], zTh, zGt, [], []⟩
theorem cn_of {x : Ob} (h : soundB x = true) (k : x.kind = 2) : x = ctO x.id x.label x.quota x.fixed x.links := by
 unfold soundB at h
 rw [Bool.and_eq_true, Bool.and_eq_true, sameO_iff, alone_iff] at h
 have e := h.2.2
 unfold aloO at e
 rw [if_neg (by rw [k]; decide), if_pos k] at e
 obtain ⟨id, kind, label, quota, fixed, links, data, maps, th, gt, inn, out⟩ := x
 simp only at k e ⊢
 unfold ctO
 subst k
 cases e
 rfl
section
variable {D D' : Nat → Prop} {w w' : World} {v : Option Value}
theorem LbV.nil' (h : LbV D w v []) : LbV D' w' v [] := by
 obtain ⟨a, n, c, e, h1, h2, h3, _⟩ := h
 have h0 : n = 0 := h1.symm
 exact ⟨a, n, c, e, h1, h2, h3, fun hn => by omega⟩
theorem CtV.nil' (h : CtV D w v []) : CtV D' w' v [] := by
 obtain ⟨a, n, c, e, h1, h2, h3, _⟩ := h
 have h0 : n = 0 := h1.symm
 exact ⟨a, n, c, e, h1, h2, h3, fun hn => by omega⟩
theorem MpV.nil' (h : MpV D w v []) : MpV D' w' v [] := by
 obtain ⟨a, n, c, e, h1, h2, h3, _⟩ := h
 have h0 : n = 0 := h1.symm
 exact ⟨a, n, c, e, h1, h2, h3, fun hn => by omega⟩
theorem ObD.cont {C : Array Value} {u : Value} {i q : Int} {l : Lb} {f : Bool} {k k' : List Int} (h : ObD D w C (ctO i l q f k)) (hl : LbV D' w' (C[2]?) l) (hk : CtV D' w' (some u) k') (hu : u.oneCell' = true) : ObD D' w' (C.setIfInBounds 5 u) (ctO i l q f k') := by
 have e : ∀ i, (C.setIfInBounds 5 u)[i]? = if 5 = i then some u else C[i]? := fun i => set_at (by rw [h.size]; omega)
 have n : ∀ i, 5 ≠ i → (C.setIfInBounds 5 u)[i]? = C[i]? := fun i q => by rw [e, if_neg q]
 have a : ThF D w (fun i => (C.setIfInBounds 5 u)[8 + i]?) zTh := h.th.congr fun i hi => (n (8 + i) (by omega)).symm
 have b : GtF D w (fun i => (C.setIfInBounds 5 u)[43 + i]?) zGt := h.gt.congr fun i hi => (n (43 + i) (by omega)).symm
 exact ⟨by simp [h.size], set_one h.one hu, (n 0 (by omega)).trans h.id, (n 1 (by omega)).trans h.kind, by rw [n 2 (by omega)]; exact hl, (n 3 (by omega)).trans h.quota, (n 4 (by omega)).trans h.fixed, by rw [e, if_pos rfl]; exact hk, by rw [n 6 (by omega)]; exact h.data.nil', by rw [n 7 (by omega)]; exact h.maps.nil',
  ⟨a.rlen, a.regs, a.pc, a.clear.nil', a.sc, a.si, a.handler, a.vector, a.state, a.wc, a.wi, a.wx, a.wv, a.wd, a.alerts.nil', a.lo, a.hi, a.l0.nil', a.l1.nil', a.l2.nil', a.l3.nil'⟩,
  ⟨b.grant.nil', b.clear.nil', b.sc, b.si, b.pc, b.arg⟩, by rw [n 49 (by omega)]; exact h.inn.nil', by rw [n 50 (by omega)]; exact h.out.nil'⟩
end
theorem erase_filter : ∀ {L : List Int} {r : Nat}, L.Nodup → r < L.length → L.eraseIdx r = L.filter fun j => decide (j ≠ L.getD r 0)
 | a :: l, 0, h, _ => by
  have ha := (List.nodup_cons.1 h).1
  show l = (a :: l).filter fun j => decide (j ≠ a)
  rw [List.filter_cons_of_neg (by simp)]
  symm
  exact List.filter_eq_self.2 fun x hx => decide_eq_true (fun (q : x = a) => ha (q ▸ hx))
 | a :: l, r + 1, h, hr => by
  obtain ⟨ha, hl⟩ := List.nodup_cons.1 h
  have hr' : r < l.length := by simpa using hr
  have ih := erase_filter hl hr'
  have hm : l.getD r 0 ∈ l := by rw [List.getD_eq_getElem?_getD, List.getElem?_eq_getElem hr']; exact List.getElem_mem _
  show a :: l.eraseIdx r = (a :: l).filter fun j => decide (j ≠ l.getD r 0)
  have hp : decide (a ≠ l.getD r 0) = true := decide_eq_true fun q => ha (by rw [q]; exact hm)
  rw [List.filter_cons, if_pos hp, ih]
theorem puR_lnk {t ro : Int} {key : Nat} {X : List Ob} {d i : Int} (hf : fitD t key ro X = true) (hd : i ∈ (fO X d).links) : puR X (lnkX (oneP d i) (fO X d)) = X.map (lnkX (oneP d i)) := by
 have hT := tre_of hf
 obtain ⟨o, ho, eo, hox, hid⟩ := fO_links hd
 have hi : (fnd X (lnkX (oneP d i) (fO X d)).id).isSome = true := by
  show (fnd X (fO X d).id).isSome = true
  rw [eo, hid, ho]; rfl
 rw [put_map hT.srt hi]
 refine List.map_congr_left fun x hx => ?_
 show (if x.id = (fO X d).id then _ else _) = _
 rw [eo]
 by_cases q : x.id = o.id
 ·rw [if_pos q, srt_uniq hT.srt hx hox q]
 ·rw [if_neg q]
  exact (lnk_all _ fun j hj => by unfold oneP; rw [decide_eq_false (fun e => q (by rw [e, hid])), Bool.false_and]).symm
theorem lnk_erase {t ro : Int} {key : Nat} {X : List Ob} {d i : Int} {r : Nat} (hf : fitD t key ro X = true) (hd : i ∈ (fO X d).links) (hr : r < (fO X d).links.length) (e : (fO X d).links.getD r 0 = i) : (lnkX (oneP d i) (fO X d)).links = (fO X d).links.eraseIdx r := by
 have hT := tre_of hf
 obtain ⟨o, ho, eo, hox, hid⟩ := fO_links hd
 rw [erase_filter (by rw [eo]; exact links_nodup (hT.snd o hox)) hr, e]
 unfold lnkX
 refine List.filter_congr fun j hj => ?_
 unfold oneP
 rw [eo, hid, decide_eq_true rfl, Bool.true_and]
 by_cases q : j = i <;> simp [q]
end Go.Proofs.Ytcmcakandbpjfaa
namespace Go.Proofs.Ytcmcakandbpjfaa
set_option maxRecDepth 100000
set_option maxHeartbeats 8000000
open Go.RowKit Go.Shelf
set_option linter.unusedVariables false
attribute [local go_sem] Oper.semAt_some

theorem wpList_alloc1 {P : Program} {ops : Array Oper} {Q : Exit → Act → World → Prop} {w : World} {a : Act} {op : Oper} {rest : List Oper} (hgd : op.guard = none) (ty : TypeId) (ho : op.op = .alloc ty) (z : Value) (hz : ∀ w, (zeroValue ty).run P w = .ok z w) (hc : z.cells = #[z])
  (h : ∀ B W, Hid (w.heap.size = B ∧ W.heap.size = B + 1) → Blk W B #[z] ty → Below w.heap.size w W → wpList P ops Q rest (a.put op.dst (.pointer (some ⟨B, 0, none⟩))) W) : wpList P ops Q (op :: rest) a w :=
 wpList_plain hgd fun K hK => by
  unfold Oper.wp execOp
  simp only [ho, Instr.alloc, hz, newVar, newRow, newObj, Sem.run_bind, hc, Result.andThen_ok]
  exact hK _ _ (h _ _ ⟨rfl, by simp⟩ (Blk.new w #[z] ty) ((Below.refl _ w).alloc (Nat.le_refl _) _))
theorem res_w3 {fn : Func} {p u z : Tmp} (h : fn.results = #[.cell p 25, .tmp u, .tmp z]) {tmps : Array Value} {w : World} {B : Nat} {C : Array Value} {v s : Value} (hp : tmps.getD p undef = .pointer (some ⟨B, 0, none⟩)) (hu : tmps.getD u undef = v) (hz : tmps.getD z undef = s) (hB : Blk w B C 25) (hs : C.size = 4) : (results fn tmps).run Try.prog w = .ok (.tuple #[.agg C, v, s]) w := by
 have := run_loadVar_mid (P := Try.prog) w B 0 25 C.toList _ hB.range0 Try.underlying25 rfl (by rw [Array.length_toList, hs]; kernel_rfl)
 rw [Array.toArray_toList] at this
 rw [Array.getD_eq_getD_getElem?] at hp hu hz
 unfold results
 simp [h, hp, hu, hz, asAddr, this, Result.andThen]
theorem unref_no {w : World} {t ro : Int} {key : Nat} {ao : Option Addr} {n cap : Nat} {X : List Ob} {d i : Int} (h : Obs w ao n cap X) (hf : fitD t key ro X = true) (hn : n < 1024) (hni : ¬ i ∈ (fO X d).links) : Calls Try.prog 9 #[.agg #[.int .i64 t, .int .u64 (key : Int), .int .u64 ro, .slice ao n cap], .int .u64 d, .int .u64 i] w fun e w' => ∃ ao2 n2 cap2, e = .returned (.tuple #[.agg #[.int .i64 t, .int .u64 (key : Int), .int .u64 ro, .slice ao2 n2 cap2], .slice none 0 0, .int .i64 1]) ∧ Obs w' ao2 n2 cap2 X ∧ Below w.heap.size w w' := by
 have hT := tre_of hf
 have hsm : Smalls X := fun x hx => sound_small0 (hT.snd x hx)
 have hpl := fun {W : World} (hk : Below w.heap.size w W) => place_v (t := t) (ke := (key : Int)) (ro := ro) (d := d) (i := i) (obs_next h hk) hT.srt (by omega) hsm
 have hdz : drpL X 0 = X := drp_none hT.srt (by
  cases q : fnd X 0 with
  | none => rfl
  | some x => have h1 := fnd_id q; have := id_pos (hT.snd x h1.2); omega)
 have hdr := fun {W : World} (hk : Below w.heap.size w W) => drop_w (t := t) (ke := (key : Int)) (ro := ro) (i := 0) (D0 := LtN w) (fun b hb => Nat.lt_of_lt_of_le hb hk.size) ((ObsD.laterK h (fun b hb => hk.block b hb) (fun b hb => hk.block b hb)).wide (fun b hb => hb) (fun b hb => Nat.lt_of_lt_of_le hb hk.size)) hT.srt hn hsm
 rw [hdz] at hdr
 have hzG : (Try.prog.info? 25).map (·.size) = some (#[.int .i64 t, .int .u64 (key : Int), .int .u64 ro, .slice ao n cap] : Array Value).size := by kernel_rfl
 have hz2 : ∀ v, (Try.prog.info? 25).map (·.size) = some (#[.int .i64 t, .int .u64 (key : Int), .int .u64 ro, v] : Array Value).size := fun _ => by kernel_rfl
 have hs2 : ∀ v, zW.size = (#[.int .i64 t, .int .u64 (key : Int), .int .u64 ro, v] : Array Value).size := fun _ => rfl
 have h12 : ∀ ao n cap, (#[.int .i64 t, .int .u64 (key : Int), .int .u64 ro, .slice ao n cap] : Array Value).all (·.oneCell') = true := fun _ _ _ => by kernel_rfl
 obtain ⟨G, hG⟩ : ∃ G : Array Value, G = #[.int .i64 t, .int .u64 (key : Int), .int .u64 ro, .slice ao n cap] := ⟨_, rfl⟩
 rw [← hG] at hzG hpl hdr
 rw [← hG]
 clear hG
 have tk1 : True := trivial
 go_enter Try.func9, Try.ntmps9
 go_upto_region 2 with (first
  | go_skip
  | (with_reducible refine wpList_box rfl 25 _ rfl G rfl ?_; intro B W1 hN1 hB hk)
  | ((with_reducible refine wpList_alloc rfl 25 rfl zW zero43 ?_); intro R W2 hN2 hR hk2; have hRw : Hid (w.heap.size ≤ R ∧ B < R) := (by have := hN2.out; have := hk.size; have := hB.lt; exact ⟨by omega, by omega⟩); replace hB := hB.next hk2; replace hk := hk.trans (hk2.mono hk.size))
  | (with_reducible refine wpList_loadb (by first | kernel_rfl | with_unfolding_all rfl) 25 _ rfl B rfl G hB _ Try.underlying25 (by kernel_rfl) hzG ?_)
  | (go_at_call 20; (with_reducible refine (hpl hk).mono ?_); rintro e w3 ⟨C, r, rfl, hC, hr, hb3, hM3⟩; have hRl : Hid (R < w3.heap.size ∧ B < w3.heap.size) := ⟨Nat.lt_of_lt_of_le hR.lt hb3.size, Nat.lt_of_lt_of_le hB.lt hb3.size⟩; replace hB := hB.next hb3; replace hR := hR.next hb3; replace hk := hk.trans (hb3.mono hk.size))
  | ((with_reducible refine wpList_alloc rfl 54 rfl zC zero40 ?_); intro P W4 hN4 hP hk4; have hPl : Hid (R < P ∧ B < P) := (by have := hN4.out; have := hRl.out; exact ⟨by omega, by omega⟩); replace hB := hB.next hk4; replace hR := hR.next hk4; replace hk := hk.trans (hk4.mono hk.size))
  | ((with_reducible refine wpList_store_blk rfl _ _ _ rfl P rfl C rfl zC hP (size40C hC.size) (zC_size.trans hC.size.symm) hC.one ?_); intro W5 hP5 o5; replace hB := hB.other o5 (by have := hPl.out; omega); replace hR := hR.other o5 (by have := hPl.out; omega); replace hk := o5.below _ _ (by have := hRw.out; have := hPl.out; omega) hk))
 have hr1 : r = -1 := by
  have h1 := hr.out.1
  have h2 := hr.out.2.1
  have : ¬ 0 ≤ r := fun q => hni (h1.1 q)
  omega
 subst hr1
 go_wp2_with (first
  | go_skip
  | (with_reducible refine wpList_loadb (by first | kernel_rfl | with_unfolding_all rfl) 25 _ rfl B rfl G hB _ Try.underlying25 (by kernel_rfl) hzG ?_)
  | (go_at_call 21; (with_reducible refine (hdr hk).mono ?_); rintro e w6 ⟨ao2, n2, cap2, rfl, hO, hb6⟩; have hsz6 := hk.size; have hR5 := hR.lt; replace hR := hR.next hb6; replace hk := hk.trans (hb6.mono hk.size))
  | ((with_reducible refine wpList_store_blk rfl 25 _ _ rfl R rfl _ rfl zW hR (hz2 _) (hs2 _) (h12 _ _ _) ?_); intro W7 hR7 o7))
 refine bodyPost_ret (v := .tuple #[.agg #[.int .i64 t, .int .u64 (key : Int), .int .u64 ro, .slice ao2 n2 cap2], .slice none 0 0, .int .i64 1]) (res_w3 Try.results9 rfl rfl rfl hR7 rfl) rfl ?_
 have hRk := hRw.out.1
 exact ⟨ao2, n2, cap2, rfl, (hO.laterK (fun b hb => o7.block b (by rcases hb with q | q; have q' : b < w.heap.size := q; omega; have := q.1; have := hR5; omega)) (fun b hb => o7.block b (by have := hb.1; have := hR5; omega))).wide (fun b hb => by rcases hb with q | q; have q' : b < w.heap.size := q; have := hk.size; have := o7.size; show b < _; omega; have := q.2; have := o7.size; show b < _; omega) (fun b hb => by have := hb.2; have := o7.size; show b < _; omega), o7.below _ _ hRk hk⟩
end Go.Proofs.Ytcmcakandbpjfaa
namespace Go.Proofs.Ytcmcakandbpjfaa
set_option maxRecDepth 100000
set_option maxHeartbeats 8000000
open Go.RowKit Go.Shelf
set_option linter.unusedVariables false
attribute [local go_sem] Oper.semAt_some

theorem unref_yes {w : World} {t ro : Int} {key : Nat} {ao : Option Addr} {n cap : Nat} {X : List Ob} {d i : Int} (h : Obs w ao n cap X) (hf : fitD t key ro X = true) (hn : n < 1024) (hin : i ∈ (fO X d).links) : Calls Try.prog 9 #[.agg #[.int .i64 t, .int .u64 (key : Int), .int .u64 ro, .slice ao n cap], .int .u64 d, .int .u64 i] w fun e w' => ∃ ao2 n2 cap2 v L, e = .returned (.tuple #[.agg #[.int .i64 t, .int .u64 (key : Int), .int .u64 ro, .slice ao2 n2 cap2], v, .int .i64 0]) ∧ Hid (Gone X ro (oneP d i) L) ∧ Obs w' ao2 n2 cap2 (swpX X (oneP d i) L) ∧ w'.ownsRow w.heap.size 22 1 v L.length (wordsC L) ∧ Below w.heap.size w w' := by
  have hT := tre_of hf
  have hXn : Hid (X.length = n) := h.1
  have hsm : Smalls X := fun x hx => sound_small0 (hT.snd x hx)
  have hpl := fun {W : World} (hk : Below w.heap.size w W) => place_v (t := t) (ke := (key : Int)) (ro := ro) (d := d) (i := i) (obs_next h hk) hT.srt (by omega) hsm
  have hls := fun {W : World} (hk : Below w.heap.size w W) => lost_v (t := t) (key := key) (ro := ro) (d := d) (i := i) (obs_next h hk) hf (by omega) hsm
  have hzG : (Try.prog.info? 25).map (·.size) = some (#[.int .i64 t, .int .u64 (key : Int), .int .u64 ro, .slice ao n cap] : Array Value).size := by kernel_rfl
  have ga4 := Try.isAgg28
  obtain ⟨o, ho, eo, hox, hid⟩ := fO_links hin
  have hso := hT.snd o hox
  have hkd : o.kind = 2 := links_cont hT hox (by rw [eo] at hin; exact hin)
  have hct := cn_of hso hkd
  have hnx : Small (lnkX (oneP d i) (fO X d)) := sound_small0 (lnk_sound _ (by rw [eo]; exact hso))
  have hpu := puR_lnk hf hin
  have her := fun (r : Nat) (h1 : r < (fO X d).links.length) (h2 : (fO X d).links.getD r 0 = i) => lnk_erase hf hin h1 h2
  obtain ⟨G, hG⟩ : ∃ G : Array Value, Hid (G = #[.int .i64 t, .int .u64 (key : Int), .int .u64 ro, .slice ao n cap]) := ⟨_, rfl⟩
  rw [← hG.out] at hzG hpl hls
  rw [← hG.out]
  rw [eo] at hpl her hnx hpu
  have tk1 : True := trivial
  go_enter Try.func9, Try.ntmps9
  go_upto_region 2 with (first
    | go_skip
    | (with_reducible refine wpList_box rfl 25 _ rfl G rfl ?_; intro B W1 hN1 hB hk)
    | ((with_reducible refine wpList_alloc rfl 25 rfl zW zero43 ?_); intro R W2 hN2 hR hk2; have hRw : Hid (w.heap.size ≤ R ∧ B < R ∧ w.heap.size ≤ B) := (by have := hN2.out; have := hk.size; have := hB.lt; have := hN1.out; exact ⟨by omega, by omega, by omega⟩); replace hB := hB.next hk2; replace hk := hk.trans (hk2.mono hk.size))
    | (with_reducible refine wpList_loadb (by first | kernel_rfl | with_unfolding_all rfl) 25 _ rfl B rfl G hB _ Try.underlying25 (by kernel_rfl) hzG ?_)
    | (go_at_call 20; (with_reducible refine (hpl hk).mono ?_); rintro e w3 ⟨C, r, rfl, hC, hr, hb3, M, hM2, ⟨am, nm, cm, e5, hM5⟩, hMw⟩; have hRl : Hid (R < w3.heap.size ∧ B < w3.heap.size ∧ R < M) := ⟨Nat.lt_of_lt_of_le hR.lt hb3.size, Nat.lt_of_lt_of_le hB.lt hb3.size, Nat.lt_of_lt_of_le hR.lt hMw⟩; have hRn : Hid (∀ b, New _ w3 b → R < b ∧ b < w3.heap.size) := fun b hb => ⟨Nat.lt_of_lt_of_le hR.lt hb.1, hb.2⟩; replace hB := hB.next hb3; replace hR := hR.next hb3; replace hk := hk.trans (hb3.mono hk.size))
    | ((with_reducible refine wpList_alloc rfl 54 rfl zC zero40 ?_); intro P W4 hN4 hP hk4; have hPl : Hid (w3.heap.size = P) := hN4.out.1; replace hB := hB.next hk4; replace hR := hR.next hk4; replace hk := hk.trans (hk4.mono hk.size))
    | ((with_reducible refine wpList_store_blk rfl _ _ _ rfl P rfl C rfl zC hP (size40C hC.size) (zC_size.trans hC.size.symm) hC.one ?_); intro W5 hP5 o5; replace hB := hB.other o5 (by have := hPl.out; have := hRl.out; omega); replace hR := hR.other o5 (by have := hPl.out; have := hRl.out; omega); replace hk := o5.below _ _ (by have := hRw.out; have := hPl.out; have := hRl.out; omega) hk))
  obtain ⟨rn, hrn⟩ : ∃ rn : Nat, Hid (r = rn) := ⟨r.toNat, by
    have h1 := hr.out.1.2 (by rw [← eo]; exact hin)
    show r = _
    omega⟩
  obtain rfl := hrn.out
  have hrr := hr.out.2.2 (by omega)
  rw [Int.toNat_natCast] at hrr
  obtain ⟨hl1, ⟨_, h0⟩ | ⟨g, c, cur, q, hMg, hg, hnc, hcm, hcs, htk⟩⟩ := hM5
  · exfalso
    have := hrr.1
    have h9 : (wordsC o.links).length = o.links.length := by simp [wordsC]
    omega
  cases q
  have hll : o.links.length = nm := by have : (wordsC o.links).length = o.links.length := by simp [wordsC]
                                       omega
  have hr64 : rn < 64 := by
    have h9 := ((own2 hkd).1 (sound_iff.1 hso).2.1).1
    omega
  have hcell : ∀ j, j < nm → cur[j]? = some (.int .u64 (o.links.getD j 0)) := fun j hj => by
    have h9 : (cur.toList.take (nm * 1))[j]? = (wordsC o.links)[j]? := by rw [htk]
    rw [List.getElem?_take, if_pos (by omega)] at h9
    rw [← Array.getElem?_toList, h9]
    unfold wordsC
    rw [List.getElem?_map, List.getElem?_eq_getElem (by omega), List.getD_eq_getElem?_getD, List.getElem?_eq_getElem (by omega)]
    rfl
  have hg3 : Blk w3 g cur 22 := hg
  have hgP : g < P := by have := hg3.lt; have := hPl.out; omega
  have hg5 : Blk W5 g cur 22 := (hg3.next hk4).other o5 (by omega)
  have hdel := delete_v hg5 (by omega) hll hnc (by unfold maxLen at hcm; omega) hcell (show rn < nm by omega)
  have hgB : Hid (g ≠ B ∧ g ≠ R ∧ g ≠ P ∧ w.heap.size ≤ g) := ⟨by have := hRw.out; have := hRl.out; omega, by have := hRl.out; omega, by omega, by have := hRw.out; have := hRl.out; omega⟩
  have hPg : Hid (w.heap.size ≤ P ∧ P ≠ B ∧ P ≠ R) := ⟨by have := hRw.out; have := hRl.out; have := hPl.out; omega, by have := hRl.out; have := hPl.out; omega, by have := hRl.out; have := hPl.out; omega⟩
  have hnl : ¬ ((rn : Int) < 0) := by omega
  clear hr hg hg3 hcell
  go_upto_region 6 with (first
    | go_skip
    | (with_reducible refine wpList_load1 (by first | kernel_rfl | with_unfolding_all rfl) _ _ rfl P _ rfl _ _ hP5 _ e5 ga4 ?_)
    | (go_at_call 22; (with_reducible refine hdel.mono ?_); rintro e w6 ⟨rfl, ⟨cur6, hg6, hz6, hc6⟩, o6⟩; have hB6 := hB.other o6 hgB.out.1.symm; have hR6 := hR.other o6 hgB.out.2.1.symm; have hP6 := hP5.other o6 hgB.out.2.2.1.symm; have hk6 := o6.below _ _ hgB.out.2.2.2 hk)
    | ((with_reducible refine wpList_store_cell rfl 28 _ _ rfl P 5 rfl (.slice (some ⟨g, 0, none⟩) (nm - 1) cm) rfl rfl C 54 hP6 (by kernel_rfl) (by rw [hC.size]; decide) rfl ?_); intro W7 hP7 o7; have hB7 := hB6.other o7 hPg.out.2.1.symm; have hR7 := hR6.other o7 hPg.out.2.2.symm; have hg7 := hg6.other o7 hgB.out.2.2.1; have hk7 := o7.below _ _ hPg.out.1 hk6)
    | (with_reducible refine wpList_loadb (by first | kernel_rfl | with_unfolding_all rfl) 25 _ rfl B rfl G hB7 _ Try.underlying25 (by kernel_rfl) hzG ?_)
    | (go_at_call 13; (with_reducible refine (hls hk7).mono ?_); rintro e w8 ⟨v, L, rfl, hL, hown, hb8⟩; have hvc : Hid (v.cells = #[v] ∧ v.oneCell' = true) := (by rcases hown.2 with ⟨q, _⟩ | ⟨_, _, _, q, _⟩ <;> subst q <;> exact ⟨rfl, rfl⟩); have hWg : Hid (w3.heap.size ≤ W7.heap.size) := (by have h1 := hk4.size; have h2 := o5.size; have h3 := o6.size; have h4 := o7.size; have h5 := hPl.out; have h6 := hN4.out; show _ ≤ _; omega))
    | ((with_reducible refine wpList_alloc1 rfl 28 rfl (.slice none 0 0) Try.zeroValue28 rfl ?_); intro Q W9 hN9 hQ9 hk9)
    | ((with_reducible refine wpList_store_cell rfl 28 _ _ rfl Q 0 rfl v rfl hvc.out.1 #[.slice none 0 0] 28 hQ9 (by kernel_rfl) (by decide) hvc.out.2 ?_); intro V hQV oV)
    | fail)
  have hQl : Hid (w8.heap.size = Q) := hN9.out.1
  have h8 := hb8.size
  have h9 := hk9.size
  have h7 := hWg.out
  have hPQ := hPl.out
  have hP7l := hP7.lt
  have hRl' := hRl.out
  have hRw' := hRw.out
  have hgB' := hgB.out
  have hPg' := hPg.out
  have hQ' := hQl.out
  have hkV : Below w.heap.size w V := oV.below _ _ (by have := hk7.size; omega) (hk7.trans ((hb8.trans (hk9.mono hb8.size)).mono hk7.size))
  have hk7V : Below W7.heap.size W7 V := oV.below _ _ (by omega) (hb8.trans (hk9.mono hb8.size))
  have hk8V : Below w8.heap.size w8 V := oV.below _ _ (by omega) hk9
  have hBV := hB7.next hk7V
  have hRV := hR7.next hk7V
  have hPV := hP7.next hk7V
  have hgV := hg7.next hk7V
  have hold : ∀ b, b < w3.heap.size → b ≠ g → V.heap[b]? = w3.heap[b]? := fun b hb hne => (hk7V.block b (by omega)).trans ((o7.block b (by omega)).trans ((o6.block b hne).trans ((o5.block b (by omega)).trans (hk4.block b hb))))
  have hVs : Hid (W7.heap.size ≤ V.heap.size) := hk7V.size
  have hVs' := hVs.out
  have hlx : lnkX (oneP d i) o = ctO o.id o.label o.quota o.fixed (o.links.eraseIdx rn) := by
    have e : ∀ K, ({ o with links := K } : Ob) = ctO o.id o.label o.quota o.fixed K := fun K => congrArg (fun z : Ob => { z with links := K }) hct
    have h1 := her rn hrr.1 hrr.2
    have h2 : lnkX (oneP d i) o = { o with links := (lnkX (oneP d i) o).links } := rfl
    rw [h2, h1]
    exact e _
  have hCo := hC
  rw [hct] at hCo
  have hC9 : ObD (fun b => b < V.heap.size ∧ b ≠ B ∧ b ≠ R ∧ b ≠ P ∧ b ≠ Q) V (C.setIfInBounds 5 (.slice (some ⟨g, 0, none⟩) (nm - 1) cm)) (lnkX (oneP d i) o) := by
    rw [hlx]
    refine hCo.cont ((LbV.laterK hM2 fun b hb => hold b (hRn.out b hb.1).2 (by have := hb.2; omega)).wide fun b hb => ?_) ⟨_, _, _, rfl, by rw [List.length_eraseIdx_of_lt hrr.1, hll], by omega, ⟨by unfold maxLen at hcm; omega, fun e => by cases e⟩, fun hn => ⟨g, 0, rfl, ⟨hgV.lt, by omega, by omega, by omega, by omega⟩, fun j hj => by rw [Nat.zero_add, hgV.cell]; exact hc6 j hj⟩⟩ rfl
    have h1 := hRn.out b hb.1
    exact ⟨by omega, by omega, by omega, by omega, by omega⟩
  have hX9 : ObsD (LtN V) (fun b => b < V.heap.size ∧ b ≠ B ∧ b ≠ R ∧ b ≠ P ∧ b ≠ Q) V ao n cap X := (ObsD.laterK h (fun b hb => hkV.block b hb) (fun b hb => hkV.block b hb)).wide (fun b (hb : b < w.heap.size) => ⟨by omega, by omega, by omega, by omega, by omega⟩) (fun b (hb : b < w.heap.size) => by show b < _; omega)
  have hput := put_own (t := t) (ke := (key : Int)) (ro := ro) (fun b hb => hb.1) hX9 hT.srt hn hsm hC9 hnx
  rw [← hG.out, hpu] at hput
  obtain ⟨al, cl, rfl, _⟩ := RowC.of_owns hown
  have hct8 := ct_owns hown
  have hG4 : zW.size = G.size := by rw [hG.out]; rfl
  have hz2 : ∀ ao n cap, (Try.prog.info? 25).map (·.size) = some (#[.int .i64 t, .int .u64 (key : Int), .int .u64 ro, .slice ao n cap] : Array Value).size := fun _ _ _ => by kernel_rfl
  have h12 : ∀ ao n cap, (#[.int .i64 t, .int .u64 (key : Int), .int .u64 ro, .slice ao n cap] : Array Value).all (·.oneCell') = true := fun _ _ _ => by kernel_rfl
  have hG5 : ∀ ao3 n3 cap3, G.size = (#[.int .i64 t, .int .u64 (key : Int), .int .u64 ro, .slice ao3 n3 cap3] : Array Value).size := fun _ _ _ => by rw [hG.out]; rfl
  have h34 : ∀ ao3 n3 cap3, 3 < (#[.int .i64 t, .int .u64 (key : Int), .int .u64 ro, .slice ao3 n3 cap3] : Array Value).size := fun _ _ _ => by show 3 < 4; decide
  have ga3 := Try.isAgg23
  have hz5 := hC9.size
  have hQV' : Blk V Q #[.slice al L.length cl] 28 := hQV
  have hBF : ¬ ((B < V.heap.size ∧ B ≠ B ∧ B ≠ R ∧ B ≠ P ∧ B ≠ Q) ∨ V.heap.size ≤ B) := by omega
  have hRF : ¬ ((R < V.heap.size ∧ R ≠ B ∧ R ≠ R ∧ R ≠ P ∧ R ≠ Q) ∨ V.heap.size ≤ R) := by omega
  have hQlt := hQV'.lt
  have hLn := hL.out.2.2
  have hLr := (hL.out.1 hin).rise
  go_upto_region 8 with (first
    | go_skip
    | (with_reducible refine wpList_loadb (by first | kernel_rfl | with_unfolding_all rfl) 25 _ rfl B rfl G hBV _ Try.underlying25 (by kernel_rfl) hzG ?_)
    | (with_reducible refine wpList_loadb (by first | kernel_rfl | with_unfolding_all rfl) 54 _ rfl P rfl _ hPV _ Try.underlying54 (by kernel_rfl) (size40C hz5) ?_)
    | (go_at_call 23; (with_reducible refine hput.mono ?_); rintro e w11 ⟨ao3, n3, cap3, rfl, hO, hb11⟩; have hB11 := hBV.next hb11; have hR11 := hRV.next hb11; have hQ11 := hQV'.next hb11; have hk11 := hkV.trans (hb11.mono hkV.size); have hn3 := hO.obs.1; rw [List.length_map] at hn3)
    | ((with_reducible refine wpList_store_blk rfl 25 _ _ rfl B rfl #[.int .i64 t, .int .u64 (key : Int), .int .u64 ro, .slice ao3 n3 cap3] rfl G hB11 (hz2 _ _ _) (hG5 _ _ _) (h12 _ _ _) ?_); intro W12 hB12 o12; have hO12 := hO.to o12 (by omega) hBF; have hR12 := hR11.other o12 (by omega); have hQ12 := hQ11.other o12 (by omega); have hk12 := o12.below _ _ (by omega) hk11; have hV12 : V.heap.size ≤ W12.heap.size := (by rw [o12.size]; exact hb11.size); have hct12 := (CtD.laterK hct8 (w' := W12) fun b hb => (o12.block b (by have := hb.1; omega)).trans ((hb11.block b (by have := hb.2; have := hk8V.size; omega)).trans (hk8V.block b hb.2))).wide (D' := fun b => b < V.heap.size) fun b hb => (by have := hb.2; have := hk8V.size; show b < _; omega); have hdf := deleteF_v hO12 (by have := hXn.out; omega) hV12 hQlt hQ12 hct12 hLr (by omega))
    | (with_reducible refine wpList_load1 (by first | kernel_rfl | with_unfolding_all rfl) _ _ rfl B _ rfl _ _ hB12 _ (show (#[.int .i64 t, .int .u64 (key : Int), .int .u64 ro, .slice ao3 n3 cap3] : Array Value)[3]? = some (.slice ao3 n3 cap3) from rfl) ga3 ?_)
    | (go_at_call 24; (with_reducible refine hdf.mono ?_); rintro e w13 ⟨n4, rfl, hO13, hb13⟩; have hB13 : Blk w13 B #[.int .i64 t, .int .u64 (key : Int), .int .u64 ro, .slice ao3 n3 cap3] 25 := (hb13.block B (by omega)).trans hB12; have hR13 : Blk w13 R zW 25 := (hb13.block R (by omega)).trans hR12; have hQ13 : Blk w13 Q #[.slice al L.length cl] 28 := (hb13.block Q hQlt).trans hQ12; have hk13 := hk12.trans (hb13.mono (by have := hkV.size; omega)))
    | ((with_reducible refine wpList_store_cell rfl 23 _ _ rfl B 3 rfl (.slice ao3 n4 cap3) rfl rfl #[.int .i64 t, .int .u64 (key : Int), .int .u64 ro, .slice ao3 n3 cap3] 25 hB13 (by kernel_rfl) (h34 _ _ _) rfl ?_); intro W14 hB14 o14)
    | fail)
  have hB : Blk W14 B #[.int .i64 t, .int .u64 (key : Int), .int .u64 ro, .slice ao3 n4 cap3] 25 := hB14
  have hQ := hQ13.other o14 (by omega)
  have k14 := o14.below _ _ (by omega) hk13
  have hO15 := (hO13.to o14 (by omega) hBF).to (oth_drew R W14) (by omega) hRF
  have hR15 := ((hR13.other o14 (by omega)).other (oth_drew B W14) (by omega))
  have hs15 : V.heap.size ≤ W14.drew.heap.size := (by have h1 := hb13.size; have h2 := o14.size; have h3 := (oth_drew B W14).size; omega)
  have old : ∀ b, b < V.heap.size → b ≠ B → W14.drew.heap[b]? = V.heap[b]? := fun b hb hne => ((oth_drew B W14).block b hne).trans ((o14.block b hne).trans ((hb13.block b hb).trans ((o12.block b hne).trans (hb11.block b hb))))
  clear hO hb11 hB11 hR11 hQ11 hk11 hB12 o12 hO12 hR12 hQ12 hk12 hV12 hct12 hdf hO13 hb13 hB13 hR13 hQ13 hk13 hB14
  obtain ⟨Z, hZ⟩ : ∃ Z : World, Z = W14.drew := ⟨_, rfl⟩
  rw [← hZ] at hO15 hR15 hs15 old
  have hmx : Try.prog.follows .mixedOrders = true := by kernel_rfl
  refine PgM.region_out (S := fun W => Blk W B #[.int .i64 t, .int .u64 (key : Int), .int .u64 ro, .slice ao3 n4 cap3] 25 ∧ Blk W Q #[.slice al L.length cl] 28 ∧ Below w.heap.size w W) hmx (⟨hB.next (Below.refl _ _).drew, hQ.next (Below.refl _ _).drew, k14.trans ((Below.refl _ _).drew.mono k14.size)⟩) (fun hS15 => ?_)
  rw [← hZ] at hS15 ⊢
  clear hZ hB hQ k14 o14
  obtain ⟨W16, hr16, hR16, o16⟩ := run_store_blk hR15 (hz2 ao3 n4 cap3) (show zW.size = (#[.int .i64 t, .int .u64 (key : Int), .int .u64 ro, .slice ao3 n4 cap3] : Array Value).size from rfl) (h12 ao3 n4 cap3)
  refine wpAnyH_sym (by kernel_rfl) (fun _ _ _ _ _ h => h) hS15 [(0, some (.agg #[.int .i64 t, .int .u64 (key : Int), .int .u64 ro, .slice ao3 n4 cap3])), (1, some (.slice al L.length cl))] (l' := #[true, true, false, false, false]) (a' := { tmps := #[.agg G, .int .u64 d, .int .u64 i, .pointer (some ⟨B, 0, none⟩), ud, undef, .pointer (some ⟨R, 0, none⟩), .slice none 0 0, .int .i64 0, .pointer (some ⟨P, 0, none⟩), .int .i64 (rn : Int), .pointer (some ⟨Q, 0, none⟩), .tuple #[.agg C, .int .i64 (rn : Int)], .agg G, .int .u64 d, .int .u64 i, .tuple #[.agg C, .int .i64 (rn : Int)], .agg C, .int .i64 (rn : Int), .int .i64 (rn : Int), .bool false, ud, undef, .pointer (some ⟨P, 5, none⟩), .slice (some ⟨g, 0, none⟩) nm cm, .int .i64 (rn : Int), .int .i64 (rn : Int), .int .i64 ((rn : Int) + 1), .slice (some ⟨g, 0, none⟩) (nm - 1) cm, .pointer (some ⟨P, 5, none⟩), .agg G, .int .u64 d, .int .u64 i, .slice al L.length cl, .agg G, .agg (C.setIfInBounds 5 (.slice (some ⟨g, 0, none⟩) (nm - 1) cm)), .agg #[.int .i64 t, .int .u64 (key : Int), .int .u64 ro, .slice ao3 n3 cap3], .pointer (some ⟨B, 3, none⟩), .slice ao3 n3 cap3, .func (.func 25) #[] #[.pointer (some ⟨Q, 0, none⟩)], .slice ao3 n4 cap3, .pointer (some ⟨B, 3, none⟩), .agg #[.int .i64 t, .int .u64 (key : Int), .int .u64 ro, .slice ao3 n4 cap3], .slice al L.length cl], defers := [] }) (obs := [.load 25 B 0 (.agg #[.int .i64 t, .int .u64 (key : Int), .int .u64 ro, .slice ao3 n4 cap3]), .load 28 Q 0 (.slice al L.length cl)]) (n := 3) (by kernel_rfl) (by kernel_rfl) ⟨ob_loadb (fun W hS => hS.1) Try.underlying25 (by kernel_rfl) (hz2 _ _ _), ob_load1 (fun W hS => hS.2.1) rfl ga4, trivial⟩ ?_
  refine wpAnyH_single (i := 2) (n := 2) rfl (by kernel_rfl) ?_
  refine wpOp_storeL (ty := 25) (B := R) (off := 0) (v := .agg #[.int .i64 t, .int .u64 (key : Int), .int .u64 ro, .slice ao3 n4 cap3]) (d := none) (by kernel_rfl) hr16 ?_
  have hS16 : Blk W16 B #[.int .i64 t, .int .u64 (key : Int), .int .u64 ro, .slice ao3 n4 cap3] 25 ∧ Blk W16 Q #[.slice al L.length cl] 28 ∧ Below w.heap.size w W16 := ⟨hS15.1.other o16 (by omega), hS15.2.1.other o16 (by omega), o16.below _ _ (by omega) hS15.2.2⟩
  refine ⟨hS16, ?_⟩
  refine wpAnyH_sym (by kernel_rfl) (fun _ _ _ _ _ h => h) hS16 [(3, none), (4, none)] (l' := #[true, true, true, true, true]) (a' := { tmps := #[.agg G, .int .u64 d, .int .u64 i, .pointer (some ⟨B, 0, none⟩), ud, undef, .pointer (some ⟨R, 0, none⟩), .slice al L.length cl, .int .i64 0, .pointer (some ⟨P, 0, none⟩), .int .i64 (rn : Int), .pointer (some ⟨Q, 0, none⟩), .tuple #[.agg C, .int .i64 (rn : Int)], .agg G, .int .u64 d, .int .u64 i, .tuple #[.agg C, .int .i64 (rn : Int)], .agg C, .int .i64 (rn : Int), .int .i64 (rn : Int), .bool false, ud, undef, .pointer (some ⟨P, 5, none⟩), .slice (some ⟨g, 0, none⟩) nm cm, .int .i64 (rn : Int), .int .i64 (rn : Int), .int .i64 ((rn : Int) + 1), .slice (some ⟨g, 0, none⟩) (nm - 1) cm, .pointer (some ⟨P, 5, none⟩), .agg G, .int .u64 d, .int .u64 i, .slice al L.length cl, .agg G, .agg (C.setIfInBounds 5 (.slice (some ⟨g, 0, none⟩) (nm - 1) cm)), .agg #[.int .i64 t, .int .u64 (key : Int), .int .u64 ro, .slice ao3 n3 cap3], .pointer (some ⟨B, 3, none⟩), .slice ao3 n3 cap3, .func (.func 25) #[] #[.pointer (some ⟨Q, 0, none⟩)], .slice ao3 n4 cap3, .pointer (some ⟨B, 3, none⟩), .agg #[.int .i64 t, .int .u64 (key : Int), .int .u64 ro, .slice ao3 n4 cap3], .slice al L.length cl], defers := [] }) (obs := []) (n := 0) (by kernel_rfl) (by kernel_rfl) trivial ?_
  refine wpAnyH_done (by kernel_rfl) ?_ _
  go_wp2
  refine bodyPost_ret (v := .tuple #[.agg #[.int .i64 t, .int .u64 (key : Int), .int .u64 ro, .slice ao3 n4 cap3], .slice al L.length cl, .int .i64 0]) (res_w3 Try.results9 rfl rfl rfl hR16 rfl) rfl ?_
  refine ⟨ao3, n4, cap3, _, L, rfl, hL.out.1 hin, ?_, ?_, hS16.2.2⟩
  · have hO16 := (hO15.to o16 (by omega) hRF).obs
    have hz16 := o16.size
    exact hO16.wide (fun b hb => by have h1 := hb.2; show b < _; omega) (fun b hb => by have h1 := hb.2; show b < _; omega)
  · exact ownsS (by have := hk7.size; omega) (owns_later hown fun b hb hl => (o16.block b (by omega)).trans ((old b (by omega) (by omega)).trans (hk8V.block b hl)))
end Go.Proofs.Ytcmcakandbpjfaa
namespace Go.Proofs.Ytcmcakandbpjfaa
set_option maxRecDepth 100000
set_option maxHeartbeats 8000000
open Go.RowKit Go.Shelf
set_option linter.unusedVariables false
attribute [local go_sem] Oper.semAt_some

def awU : List Ob := [awE, awS 1]
theorem au_fit : fitD 0 0 1 awU = true := by decide +kernel
theorem au_in : (2 : Int) ∈ (fO awU 1).links := by decide +kernel
theorem au_ni : ¬ (3 : Int) ∈ (fO awU 1).links := by decide +kernel
theorem au_gone : Gone awU 1 (oneP 1 2) [2] := ⟨by decide, by decide +kernel, by decide, by decide +kernel⟩
theorem au_len : (swpX awU (oneP 1 2) [2]).length = 1 := by decide +kernel
theorem run_bs2 {C D : Array Value} (hz : C.size = 51) (hy : D.size = 51) (w : World) : (Instr.buildSlice 23 2 #[(0, .agg C), (1, .agg D)]).run Try.prog w = .ok (.slice (some ⟨w.heap.size, 0, none⟩) 2 2) (w.alloc (.cells (C ++ D) 54)) := by
 obtain ⟨i0, hi, hz0, hz1, hz2⟩ := info_parts infoO
 refine run_buildSlice w _ _ 2 _ (C ++ D) i0 _ Try.underlying23 hi hz0 (by rw [hz1]; omega) (by rw [hz1]; omega) ?_
 rw [hz1, show C ++ D = (C.toList ++ D.toList).toArray by simp]
 have := Great.fill_whole (s := 51) (by omega) [.agg C, .agg D] ((Array.range (2 * 51)).map ((Value.agg zC).cells[· % (Value.agg zC).cells.size]!)) (by simp [Value.cells, hz, hy]) (by simp)
 simpa [Value.cells] using this
theorem wpList_bs2 {ops : Array Oper} {Q : Exit → Act → World → Prop} {w : World} {a : Act} {op : Oper} {rest : List Oper} (hgd : op.guard = none) (x y : Operand) (ho : op.op = .buildSlice 23 2 #[(0, x), (1, y)]) (C D : Array Value) (hx : a.eval x = .agg C) (hx2 : a.eval y = .agg D) (hz : C.size = 51) (hy : D.size = 51)
  (h : ∀ B W, Hid (w.heap.size = B ∧ W.heap.size = B + 1) → Blk W B (C ++ D) 54 → Below w.heap.size w W → wpList Try.prog ops Q rest (a.put op.dst (.slice (some ⟨B, 0, none⟩) 2 2)) W) : wpList Try.prog ops Q (op :: rest) a w :=
 wpList_plain hgd fun K hK => by
  have e : (#[(0, x), (1, y)].map fun ((i : Nat), x) => (i, a.eval x)) = #[(0, Value.agg C), (1, Value.agg D)] := by simp [hx, hx2]
  unfold Oper.wp execOp
  simp only [ho, e, Sem.run_bind, run_bs2 hz hy, Result.andThen_ok]
  exact hK _ _ (h _ _ ⟨rfl, by simp⟩ (Blk.new w (C ++ D) 54) ((Below.refl _ w).alloc (Nat.le_refl _) _))
theorem wpList_iaX {ops : Array Oper} {Q : Exit → Act → World → Prop} {w : World} {a : Act} {op : Oper} {rest : List Oper} (hw : Region.wanted op (yielded ops a.tmps) = true) (ty : TypeId) (x y : Operand) (ho : op.op = .indexAddr ty x y) (u v : Value) (hx : a.eval x = u) (hy : a.eval y = v) (r : Value) (hr : (Instr.indexAt ty u v).run Try.prog w = .ok r w) (h : wpList Try.prog ops Q rest (a.put op.dst r) w) : wpList Try.prog ops Q (op :: rest) a w := by
 refine wpList_val hw ?_ h
 unfold execOp
 simp [ho, hx, hy, hr]
def auC (g : Nat) : Array Value := (comC (.int .u64 1) (.int .i64 2) (.slice none 0 0) (.int .i64 3) (.bool false)).setIfInBounds 5 (.slice (some ⟨g, 0, none⟩) 1 1)
def auS : Array Value := comC (.int .u64 2) (.int .i64 1) (.slice none 0 0) (.int .i64 1) (.bool false)
theorem auC_size (g : Nat) : (auC g).size = 51 := by kernel_rfl
theorem auS_size : auS.size = 51 := by kernel_rfl
theorem au_fst (g : Nat) : (auC g ++ auS).extract 0 (0 + 51) = auC g := by kernel_rfl
theorem au_snd (g : Nat) : (auC g ++ auS).extract 51 (51 + 51) = auS := by kernel_rfl
theorem au_obs {W : World} {B g : Nat} (h : Blk W B (auC g ++ auS) 54) (hg : Blk W g #[.int .u64 2] 22) : Obs W (some ⟨B, 0, none⟩) 2 2 awU := by
 have hE : ObD (LtN W) W (auC g) awE := (comC_d (w := W) (LabD.nil (LtN W) W)).cont ⟨none, 0, 0, rfl, LabD.nil _ _⟩ ⟨_, _, _, rfl, rfl, Nat.le_refl _, ⟨by omega, fun e => by cases e⟩, fun _ => ⟨g, 0, rfl, hg.lt, fun i hi => by
  obtain rfl : i = 0 := by omega
  exact hg.cell 0⟩⟩ rfl
 have hS : ObD (LtN W) W auS (awS 1) := comC_d (LabD.nil _ W)
 refine ⟨rfl, Nat.le_refl _, ⟨by omega, fun e => by cases e⟩, fun _ => ⟨B, 0, rfl, h.lt, fun i hi => ?_⟩⟩
 match i, hi with
 | 0, _ =>
  refine ⟨_, hE, ?_⟩
  have := h.range 0 51
  rw [au_fst] at this
  exact this
 | 1, _ =>
  refine ⟨_, hS, ?_⟩
  have := h.range 51 51
  rw [au_snd] at this
  exact this
theorem au_yes {W : World} {ao : Option Addr} {cap : Nat} (h : Obs W ao 2 cap awU) : Calls Try.prog 9 #[.agg #[.int .i64 0, .int .u64 0, .int .u64 1, .slice ao 2 cap], .int .u64 1, .int .u64 2] W fun e w' => ∃ ao2 cap2 g cur c, e = .returned (.tuple #[.agg #[.int .i64 0, .int .u64 0, .int .u64 1, .slice ao2 1 cap2], .slice (some ⟨g, 0, none⟩) 1 c, .int .i64 0]) ∧ Blk w' g cur 22 ∧ cur[0]? = some (.int .u64 2) ∧ Below W.heap.size W w' := by
 have := unref_yes (t := 0) (key := 0) (ro := 1) (d := 1) (i := 2) h au_fit (by omega) au_in
 refine this.mono ?_
 rintro e w' ⟨ao2, n2, cap2, v, L, rfl, hG, hO, hown, hb⟩
 obtain rfl : [2] = L := gone_uniq au_fit au_gone hG.out
 obtain rfl : 1 = n2 := au_len.symm.trans hO.1
 rcases hown.2 with ⟨_, h0⟩ | ⟨g, c, cur, q, hMg, hg, hnc, hcm, hcs, htk⟩
 ·cases h0
 ·cases q
  refine ⟨ao2, cap2, g, cur, c, rfl, hg, ?_, hb⟩
  have h9 : (cur.toList.take 1)[0]? = (wordsC [2])[0]? := by rw [← htk]; rfl
  rw [List.getElem?_take, if_pos (by omega)] at h9
  rw [← Array.getElem?_toList, h9]
  rfl
theorem au_no {W : World} {ao : Option Addr} {cap : Nat} (h : Obs W ao 2 cap awU) : Calls Try.prog 9 #[.agg #[.int .i64 0, .int .u64 0, .int .u64 1, .slice ao 2 cap], .int .u64 1, .int .u64 3] W fun e w' => ∃ ao2 n2 cap2, e = .returned (.tuple #[.agg #[.int .i64 0, .int .u64 0, .int .u64 1, .slice ao2 n2 cap2], .slice none 0 0, .int .i64 1]) ∧ Below W.heap.size W w' := by
 have := unref_no (t := 0) (key := 0) (ro := 1) (d := 1) (i := 3) h au_fit (by omega) au_ni
 refine this.mono ?_
 rintro e w' ⟨ao2, n2, cap2, rfl, _, hb⟩
 exact ⟨ao2, n2, cap2, rfl, hb⟩
theorem awake15_any (w : World) : Calls Try.prog 8 #[] w fun e w' => e = .returned (.bool true) ∧ Below w.heap.size w w' := by
 have hz2 : ∀ v, (Try.prog.info? 25).map (·.size) = some (#[.int .i64 0, .int .u64 0, .int .u64 1, v] : Array Value).size := fun _ => size43
 have hs2 : ∀ v, zW.size = (#[.int .i64 0, .int .u64 0, .int .u64 1, v] : Array Value).size := fun _ => rfl
 have h12 : ∀ ao n cap, (#[.int .i64 0, .int .u64 0, .int .u64 1, .slice ao n cap] : Array Value).all (·.oneCell') = true := fun _ _ _ => by kernel_rfl
 have ga3 := Try.isAgg23
 have ga1 := Try.isAgg22
 go_enter Try.func8, Try.ntmps8
 go_upto_region 2 with (first
  | go_skip
  | ((with_reducible refine wpList_bsw rfl _ rfl 2 rfl ?_); intro g W0 hN0 hg hk)
  | ((with_reducible refine wpList_buildw (by kernel_rfl) 54 [(0, .const (.int .u64 1)), (1, .const (.int .i64 2)), (3, .const (.int .i64 3)), (5, .tmp 8)] rfl (auC g) ?hf ?_); (case hf => kernel_rfl))
  | ((with_reducible refine wpList_buildw (by kernel_rfl) 54 [(0, .const (.int .u64 2)), (1, .const (.int .i64 1)), (3, .const (.int .i64 1))] rfl auS ?hf ?_); (case hf => kernel_rfl))
  | ((with_reducible refine wpList_bs2 rfl _ _ rfl (auC g) auS rfl rfl (auC_size g) auS_size ?_); intro B W1 hN1 hB hk1)
  | ((with_reducible refine wpList_buildw (by kernel_rfl) 25 [(2, .const (.int .u64 1)), (3, .tmp 11)] rfl #[.int .i64 0, .int .u64 0, .int .u64 1, .slice (some ⟨B, 0, none⟩) 2 2] ?hf ?_); (case hf => kernel_rfl))
  | ((with_reducible refine wpList_alloc rfl 25 rfl zW zero43 ?_); intro P1 W2 hN2 hP1a hk2)
  | ((with_reducible refine wpList_store_blk rfl _ _ _ rfl P1 rfl #[.int .i64 0, .int .u64 0, .int .u64 1, .slice (some ⟨B, 0, none⟩) 2 2] rfl zW hP1a (hz2 _) (hs2 _) (h12 _ _ _) ?_); intro V1 hP1 q1))
 have hB1 : Below W1.heap.size W1 V1 := q1.below _ _ (by have := hN2.out; omega) hk2
 have hO := au_obs (hB.next hB1) ((hg.next hk1).next hB1)
 have hk1' : Below w.heap.size w V1 := hk.trans ((hk1.trans (hB1.mono hk1.size)).mono hk.size)
 have hyes := au_yes hO
 clear hN0 hN1 hN2 hP1a hk2 q1
 go_upto_region 3 with (first
  | go_skip
  | (with_reducible refine wpList_loadb (by kernel_rfl) 25 _ rfl P1 rfl _ hP1 _ Try.underlying25 (by kernel_rfl) (hz2 _) ?_)
  | (go_at_call 9; (with_reducible refine hyes.mono ?_); rintro e w2 ⟨ao2, cap2, g2, cur, c2, rfl, hg2, hcu, hb2⟩; have hP12 := hP1.next hb2; have hO2 := obs_next hO hb2)
  | ((with_reducible refine wpList_alloc rfl 25 rfl zW zero43 ?_); intro P2 W3 hN3 hP2a hk3)
  | ((with_reducible refine wpList_store_blk rfl _ _ _ rfl P2 rfl #[.int .i64 0, .int .u64 0, .int .u64 1, .slice ao2 1 cap2] rfl zW hP2a (hz2 _) (hs2 _) (h12 _ _ _) ?_); intro V2 hP2 q2))
 have hb3 : Below w2.heap.size w2 V2 := q2.below _ _ (by have := hN3.out; omega) hk3
 have hP13 := hP12.next hb3
 have hg3 := hg2.next hb3
 have hno := au_no (obs_next hO2 hb3)
 have hk3' : Below w.heap.size w V2 := hk1'.trans ((hb2.trans (hb3.mono hb2.size)).mono hk1'.size)
 clear hN3 hP2a hk3 q2 hP1 hP12 hg2 hO2 hO
 go_upto_region 4 with (first
  | go_skip
  | (with_reducible refine wpList_loadb (by kernel_rfl) 25 _ rfl P1 rfl _ hP13 _ Try.underlying25 (by kernel_rfl) (hz2 _) ?_)
  | (go_at_call 9; (with_reducible refine hno.mono ?_); rintro e w4 ⟨ao4, n4, cap4, rfl, hb4⟩; have hP24 := hP2.next hb4; have hg4 := hg3.next hb4)
  | ((with_reducible refine wpList_alloc rfl 25 rfl zW zero43 ?_); intro P5 W5 hN5 hP5a hk5)
  | ((with_reducible refine wpList_store_blk rfl _ _ _ rfl P5 rfl #[.int .i64 0, .int .u64 0, .int .u64 1, .slice ao4 n4 cap4] rfl zW hP5a (hz2 _) (hs2 _) (h12 _ _ _) ?_); intro V5 hP5 q5))
 have hb5 : Below w4.heap.size w4 V5 := q5.below _ _ (by have := hN5.out; omega) hk5
 have hP25 := hP24.next hb5
 have hg5 := hg4.next hb5
 have hk5' : Below w.heap.size w V5 := hk3'.trans ((hb4.trans (hb5.mono hb4.size)).mono hk3'.size)
 clear hN5 hP5a hk5 q5 hP24 hg4 hP5
 have hr5 : ∀ W : World, (Instr.indexAt 28 (.slice (some ⟨g2, 0, none⟩) 1 c2) (.int .i64 0)).run Try.prog W = .ok (.pointer (some ⟨g2, 0, none⟩)) W := fun W => (iaw_at (S := fun _ => True) (b := g2) (off := 0) (i := 0) (n := 1) (cap := c2) (by omega)) W trivial
 have e3 : (#[.int .i64 0, .int .u64 0, .int .u64 1, .slice ao2 1 cap2] : Array Value)[3]? = some (.slice ao2 1 cap2) := rfl
 go_wp2_with (first
  | go_skip
  | (with_reducible refine wpList_load1 (by first | kernel_rfl | with_unfolding_all rfl) _ _ rfl P2 _ rfl _ _ hP25 _ e3 ga3 ?_)
  | (with_reducible refine wpList_iaX (by first | kernel_rfl | with_unfolding_all rfl) _ _ _ rfl _ _ rfl rfl _ (hr5 _) ?_)
  | (with_reducible refine wpList_load1 (by first | kernel_rfl | with_unfolding_all rfl) _ _ rfl g2 _ rfl _ _ hg5 _ hcu ga1 ?_))
 go_ret
 exact ⟨rfl, hk5'⟩
end Go.Proofs.Ytcmcakandbpjfaa
namespace Go.Proofs.Ytcmcakandbpjfaa
set_option maxRecDepth 100000
set_option maxHeartbeats 8000000
open Go.RowKit Go.Shelf
set_option linter.unusedVariables false

def Ws (W : World) (V : Array Value) (t : Int) (key : Nat) (ro : Int) (X : List Ob) : Prop := ∃ ao n cap, V = #[.int .i64 t, .int .u64 (key : Int), .int .u64 ro, .slice ao n cap] ∧ Obs W ao n cap X
section
variable {W W' : World} {V : Array Value} {t ro : Int} {key : Nat} {X : List Ob}
theorem Ws.next (h : Ws W V t key ro X) (k : Below W.heap.size W W') : Ws W' V t key ro X := by
 obtain ⟨ao, n, cap, e, h⟩ := h
 exact ⟨ao, n, cap, e, obs_next h k⟩
theorem Ws.size (h : Ws W V t key ro X) : (Try.prog.info? 25).map (·.size) = some V.size := by
 obtain ⟨ao, n, cap, rfl, h⟩ := h
 kernel_rfl
theorem Ws.old (h : Ws W V t key ro X) : zW.size = V.size := by
 obtain ⟨ao, n, cap, rfl, h⟩ := h
 rfl
theorem Ws.one (h : Ws W V t key ro X) : V.all (·.oneCell') = true := by
 obtain ⟨ao, n, cap, rfl, h⟩ := h
 kernel_rfl
theorem rfind_s (h : Ws W V t key ro X) {i : Int} : Calls Try.prog 16 #[.agg V, .int .u64 i] W fun e w' => ∃ C', e = .returned (.tuple #[.agg C', .bool (fnd X i).isSome]) ∧ ObD (LtN w') w' C' (fO X i) ∧ Below W.heap.size W w' := by
 obtain ⟨ao, n, cap, rfl, h⟩ := h
 exact rfind_u h
theorem rholders_s (h : Ws W V t key ro X) (hl : X.length ≤ 4096) {i : Int} : Calls Try.prog 17 #[.agg V, .int .u64 i] W fun e w' => ∃ ao cap, e = .returned (.slice ao (holL X i).length cap) ∧ Below W.heap.size W w' := by
 obtain ⟨ao, n, cap, rfl, h⟩ := h
 refine (rholders_any h (by rw [← h.1]; exact hl)).mono ?_
 rintro e w' ⟨v, rfl, ho, hk⟩
 obtain ⟨al, cl, rfl, _⟩ := RowC.of_owns ho
 exact ⟨al, cl, rfl, hk⟩
theorem unref_s (h : Ws W V t key ro X) (hf : fitD t key ro X = true) (hl : X.length < 1024) {d i : Int} (hin : i ∈ (fO X d).links) : Calls Try.prog 9 #[.agg V, .int .u64 d, .int .u64 i] W fun e w' => ∃ V' v L, e = .returned (.tuple #[.agg V', v, .int .i64 0]) ∧ Hid (Gone X ro (oneP d i) L) ∧ Ws w' V' t key ro (swpX X (oneP d i) L) ∧ w'.ownsRow W.heap.size 22 1 v L.length (wordsC L) ∧ Below W.heap.size W w' := by
 obtain ⟨ao, n, cap, rfl, h⟩ := h
 refine (unref_yes h hf (by rw [← h.1]; exact hl) hin).mono ?_
 rintro e w' ⟨ao2, n2, cap2, v, L, rfl, hG, hO, hown, hb⟩
 exact ⟨_, v, L, rfl, hG, ⟨ao2, n2, cap2, rfl, hO⟩, hown, hb⟩
theorem unref_n (h : Ws W V t key ro X) (hf : fitD t key ro X = true) (hl : X.length < 1024) {d i : Int} (hni : ¬ i ∈ (fO X d).links) : Calls Try.prog 9 #[.agg V, .int .u64 d, .int .u64 i] W fun e w' => ∃ V', e = .returned (.tuple #[.agg V', .slice none 0 0, .int .i64 1]) ∧ Ws w' V' t key ro X ∧ Below W.heap.size W w' := by
 obtain ⟨ao, n, cap, rfl, h⟩ := h
 refine (unref_no h hf (by rw [← h.1]; exact hl) hni).mono ?_
 rintro e w' ⟨ao2, n2, cap2, rfl, hO, hb⟩
 exact ⟨_, rfl, ⟨ao2, n2, cap2, rfl, hO⟩, hb⟩
end
end Go.Proofs.Ytcmcakandbpjfaa
namespace Go.Proofs.Ytcmcakandbpjfaa
set_option maxRecDepth 100000
set_option maxHeartbeats 8000000
open Go.RowKit Go.Shelf
set_option linter.unusedVariables false

section
variable {W W' : World} {V V' : Array Value} {t ro : Int} {key : Nat} {X : List Ob}
theorem rsame_s (h : Ws W V t key ro X) (h' : Ws W V' t key ro X) : Calls Try.prog 11 #[.agg V, .agg V'] W fun e w' => e = .returned (.bool true) ∧ Below W.heap.size W w' := by
 obtain ⟨a, n, c, rfl, o⟩ := h
 obtain ⟨a', n', c', rfl, o'⟩ := h'
 exact (rsame_w o o').yes rfl
end
end Go.Proofs.Ytcmcakandbpjfaa
namespace Go.Proofs.Ytcmcakandbpjfaa
set_option maxRecDepth 100000
set_option maxHeartbeats 8000000
open Go.RowKit Go.Shelf

section
variable {X : List Ob} {P : Int → Int → Bool} {G : List Int} {t ro : Int} {key : Nat} {d i : Int}
theorem just_none (hf : fitD t key ro X = true) (h : Gone X ro P G) {x : Int} (hx : x ∈ G) : holL (swpX X P G) x = [] := by
 have hT := tre_of hf
 cases e : holL (swpX X P G) x with
 | nil => rfl
 | cons c r =>
  exfalso
  have hc : c ∈ holL (swpX X P G) x := by rw [e]; exact List.mem_cons_self ..
  obtain ⟨y, hy, _, hl⟩ := hol_mem.1 hc
  obtain ⟨c0, hc0, hg, rfl⟩ := mem_swp.1 hy
  obtain ⟨l1, l2⟩ := lnk_mem.1 hl
  exact swp_stay hT h hc0 hg l1 l2 hx
theorem just_was (hf : fitD t key ro X = true) (h : Gone X ro P G) {x : Int} (hx : x ∈ G) : (fnd X x).isSome = true ∧ (fnd (swpX X P G) x).isSome = false := by
 refine ⟨h.mem x hx, ?_⟩
 rw [swp_fnd (tre_of hf).srt, if_pos hx]
 rfl
theorem just_hold (hf : fitD t key ro X = true) (h : Gone X ro P G) {o : Ob} (ho : o ∈ swpX X P G) (hne : o.id ≠ ro) : 0 < (holL (swpX X P G) o.id).length := by
 have hT := tre_of hf
 obtain ⟨c, hc, hg, rfl⟩ := mem_swp.1 ho
 have hne' : c.id ≠ ro := hne
 obtain ⟨e, he, hl, hP, hge⟩ := swp_holder hT h hc hne' hg
 exact List.length_pos_of_mem (hol_mem.2 ⟨lnkX P e, mem_swp.2 ⟨e, he, hge, rfl⟩, rfl, lnk_mem.2 ⟨hl, hP⟩⟩)
theorem just_same {c : Ob} (h : c.id ≠ d) : lnkX (oneP d i) c = c := by
 have : c.links.filter (fun j => !oneP d i c.id j) = c.links := List.filter_eq_self.2 fun j _ => by
  unfold oneP
  rw [decide_eq_false h]
  rfl
 unfold lnkX
 rw [this]
theorem just_len (hf : fitD t key ro X = true) (hd : i ∈ (fO X d).links) {c : Ob} (hc : fnd X d = some c) : (lnkX (oneP d i) c).links.length + 1 = c.links.length := by
 have e : fO X d = c := by unfold fO; rw [hc]; rfl
 have hd' := hd
 rw [e] at hd'
 obtain ⟨r, hr, er⟩ := List.mem_iff_getElem.1 hd'
 have h1 := lnk_erase (r := r) hf hd (by rw [e]; exact hr) (by rw [e, List.getD_eq_getElem?_getD, List.getElem?_eq_getElem hr, er]; rfl)
 rw [e] at h1
 rw [h1, List.length_eraseIdx_of_lt hr]
 omega
end
end Go.Proofs.Ytcmcakandbpjfaa
namespace Go.Proofs.Ytcmcakandbpjfaa
set_option maxRecDepth 100000
set_option maxHeartbeats 8000000
open Go.RowKit Go.Shelf
set_option linter.unusedVariables false

section
variable {X : List Ob} {P : Int → Int → Bool} {G : List Int} {t ro : Int} {key : Nat} {d i : Int}
theorem wd_swp (hw : ∀ x ∈ X, WdO x) : ∀ x ∈ swpX X P G, WdO x := fun x hx => by
 obtain ⟨c, hc, _, rfl⟩ := mem_swp.1 hx
 exact hw c hc
theorem just_room (hf : fitD t key ro X = true) (h : Gone X ro P G) {c : Ob} (hc : c ∈ X) (hg : ¬ c.id ∈ G) : ¬ roomN (swpX X P G) (lnkX P c) < roomN X c := by
 have h1 := swp_use (tre_of hf) h hc hg
 have h2 : (lnkX P c).quota = c.quota := rfl
 unfold roomN
 omega
end
section
variable {W : World} {V : Array Value} {t ro : Int} {key : Nat} {X : List Ob}
theorem Ws.cells (h : Ws W V t key ro X) : V[0]? = some (.int .i64 t) ∧ V[2]? = some (.int .u64 ro) ∧ ∃ ao n cap, V[3]? = some (.slice ao n cap) ∧ Obs W ao n cap X := by
 obtain ⟨ao, n, cap, rfl, h⟩ := h
 exact ⟨rfl, rfl, ao, n, cap, rfl, h⟩
theorem rtfit_s (h : Ws W V t key ro X) (hf : fitD t key ro X = true) (hw : ∀ x ∈ X, WdO x) : Calls Try.prog 15 #[.agg V] W fun e w' => e = .returned (.bool true) ∧ Below W.heap.size W w' := by
 obtain ⟨ao, n, cap, rfl, h⟩ := h
 have := rtfit_w (t := t) (key := key) (ro := ro) h (fun q x hx => sound_small0 ((fit_mem q).2.1 x hx)) hw
 rw [hf] at this
 exact this
theorem rroom_s (h : Ws W V t key ro X) (hT : Tre X ro) {C : Array Value} {o : Ob} (hC : ObD (LtN W) W C o) (hs : soundB o = true) : Calls Try.prog 18 #[.agg V, .agg C] W fun e w' => e = .returned (.int .i64 (roomN X o)) ∧ Below W.heap.size W w' := by
 obtain ⟨ao, n, cap, rfl, h⟩ := h
 exact rroom_w (t := t) (ke := (key : Int)) (ro := ro) h (fun x hx => (sound_q (hT.snd x hx)).1) hC (sound_small0 hs) (sound_q hs).1
theorem rfind_k {W1 : World} (h : Ws W V t key ro X) (k : Below W.heap.size W W1) {i : Int} {x : Ob} (hx : fnd X i = some x) : Calls Try.prog 16 #[.agg V, .int .u64 i] W1 fun e w' => ∃ C', e = .returned (.tuple #[.agg C', .bool true]) ∧ ObD (LtN W) W C' x ∧ Below W1.heap.size W1 w' := by
 obtain ⟨ao, n, cap, rfl, h⟩ := h
 have h0 := rfind_at (t := t) (ke := (key : Int)) (ro := ro) (i := i) h k
 rw [fO_some hx, hx] at h0
 refine h0.mono ?_
 rintro e w' ⟨C, rfl, hC, hb⟩
 exact ⟨C, rfl, hC.laterK fun b q => ((hb.block b (Nat.lt_of_lt_of_le q k.size)).trans (k.block b q)).symm, hb⟩
theorem unref_k (h : Ws W V t key ro X) (hf : fitD t key ro X = true) (hl : X.length < 1024) {d i : Int} (hin : i ∈ (fO X d).links) : Calls Try.prog 9 #[.agg V, .int .u64 d, .int .u64 i] W fun e w' => ∃ V' al m cl L, e = .returned (.tuple #[.agg V', .slice al m cl, .int .i64 0]) ∧ Hid (Gone X ro (oneP d i) L) ∧ Ws w' V' t key ro (swpX X (oneP d i) L) ∧ CtD (LtN w') w' al m cl L ∧ Below W.heap.size W w' := by
 refine (unref_s h hf hl hin).mono ?_
 rintro e w' ⟨V', v, L, rfl, hG, hV, hown, hb⟩
 obtain ⟨al, cl, rfl, hc⟩ := own_ct hown
 exact ⟨V', al, L.length, cl, L, rfl, hG, hV, hc.wide fun b hb => hb.2, hb⟩
end
structure Rw (W : World) (b o m : Nat) (L : List Int) : Prop where
 lt : b < W.heap.size
 at_ : ∀ k, k < m → W.cell? ⟨b, o + k, none⟩ = some (.int .u64 (L.getD k 0))
theorem Rw.next {W W' : World} {b o m : Nat} {L : List Int} (h : Rw W b o m L) (k : Below W.heap.size W W') : Rw W' b o m L :=
 ⟨Nat.lt_of_lt_of_le h.lt k.size, fun j hj => (k.cell (p := ⟨b, o + j, none⟩) h.lt).trans (h.at_ j hj)⟩
theorem Rw.of {W : World} {al : Option Addr} {m cl : Nat} {L : List Int} (h : CtD (LtN W) W al m cl L) (hm : 0 < m) : ∃ b o, al = some ⟨b, o, none⟩ ∧ Rw W b o m L := by
 obtain ⟨b, o, e, hb, hc⟩ := h.2.2.2 hm
 exact ⟨b, o, e, hb, hc⟩
theorem rise_getD {L : List Int} (h : L.Pairwise (· < ·)) {i j : Nat} (hij : i < j) (hj : j < L.length) : L.getD i 0 < L.getD j 0 := by
 rw [List.getD_eq_getElem?_getD, List.getD_eq_getElem?_getD, List.getElem?_eq_getElem hj, List.getElem?_eq_getElem (by omega)]
 exact List.pairwise_iff_getElem.1 h i j (by omega) hj hij
end Go.Proofs.Ytcmcakandbpjfaa
