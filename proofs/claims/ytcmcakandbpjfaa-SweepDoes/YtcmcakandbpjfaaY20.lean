/-
 PROVED HERE: plain facts (no Go text): a whole world without links, and without what goes by that, is whole; what lies in t. What is asked stands at each.
-/
import Derived.Test.YtcmcakandbpjfaaY4
import Derived.Test.YtcmcakandbpjfaaY5
import Derived.Test.YtcmcakandbpjfaaY9
import Derived.Test.YtcmcakandbpjfaaY10
import Derived.Test.YtcmcakandbpjfaaY15
import Derived.Test.YtcmcakandbpjfaaY17
import Derived.Test.YtcmcakandbpjfaaY18
import Derived.Test.YtcmcakandbpjfaaY19
namespace Go.Proofs.Ytcmcakandbpjfaa
set_option maxRecDepth 100000
set_option maxHeartbeats 8000000
set_option linter.unusedVariables false

theorem lnk_nil (P : Int → Int → Bool) {c : Ob} (h : c.links = []) : lnkX P c = c := by
 unfold lnkX
 rw [h]
 obtain ⟨id, kind, label, quota, fixed, links, data, maps, th, gt, inn, out⟩ := c
 simp only at h ⊢
 rw [h]; rfl
theorem lnk_all (P : Int → Int → Bool) {c : Ob} (h : ∀ j ∈ c.links, P c.id j = false) : lnkX P c = c := by
 unfold lnkX
 rw [List.filter_eq_self.2 fun j hj => by rw [h j hj]; rfl]
theorem lnk_mem {P : Int → Int → Bool} {c : Ob} {j : Int} : j ∈ (lnkX P c).links ↔ j ∈ c.links ∧ P c.id j = false := by
 unfold lnkX
 simp [List.mem_filter]
theorem lnk_sound (P : Int → Int → Bool) {c : Ob} (hs : soundB c = true) : soundB (lnkX P c) = true := by
 by_cases k : c.kind = 2
 ·obtain ⟨h1, h2, h3⟩ := sound_iff.1 hs
  refine sound_iff.2 ⟨h1, ?_, ?_⟩
  ·have hr := links_rise hs
   unfold ownB lnkX at *
   simp only at h2 ⊢
   rw [if_neg (by rw [k]; decide), if_pos k] at h2 ⊢
   simp only [Bool.and_eq_true, decide_eq_true_eq, List.all_eq_true] at h2 ⊢
   refine ⟨Nat.le_trans (List.length_filter_le ..) h2.1, fun l hl => h2.2.1 l (List.mem_filter.1 hl).1, ?_⟩
   unfold risB
   exact decide_eq_true (List.Pairwise.filter _ hr)
  ·rw [alone_iff] at h3 ⊢
   obtain ⟨id, kind, label, quota, fixed, links, data, maps, th, gt, inn, out⟩ := c
   unfold lnkX
   unfold aloO comO at h3 ⊢
   simp only at h3 ⊢ k
   rw [if_neg (by rw [k]; decide), if_pos k] at h3 ⊢
   cases h3
   rfl
 ·rw [lnk_nil P (links_nil hs k)]; exact hs
section
variable {t ro : Int} {key : Nat} {X : List Ob} {P Q : Int → Int → Bool} {G H : List Int}
theorem mem_swp {y : Ob} : y ∈ swpX X P G ↔ ∃ c ∈ X, ¬ c.id ∈ G ∧ lnkX P c = y := by
 unfold swpX
 rw [List.mem_filter, List.mem_map, decide_eq_true_eq]
 constructor
 ·rintro ⟨⟨c, hc, rfl⟩, h⟩; exact ⟨c, hc, h, rfl⟩
 ·rintro ⟨c, hc, h, rfl⟩; exact ⟨⟨c, hc, rfl⟩, h⟩
theorem swp_srt (hs : Srt X) : Srt (swpX X P G) := by
 unfold swpX Srt
 refine List.Pairwise.filter _ (List.pairwise_map.2 ?_)
 exact hs
theorem swp_len (X : List Ob) (P : Int → Int → Bool) (G : List Int) : (swpX X P G).length ≤ X.length := by
 unfold swpX
 exact Nat.le_trans (List.length_filter_le ..) (by rw [List.length_map]; exact Nat.le_refl _)
theorem swp_all (hs : Srt X) (hG : G.Pairwise (· < ·)) (hm : ∀ g ∈ G, (fnd X g).isSome = true) : (swpX X P G).length + G.length = X.length := by
 have h1 : (swpX X P G).length = (X.filter fun x => decide (¬ x.id ∈ G)).length := by
  unfold swpX
  rw [List.filter_map, List.length_map]; rfl
 have h2 : ((X.map Ob.id).filter fun k => decide (k ∈ G)) = G := rise_ext (List.Pairwise.filter _ (List.pairwise_map.2 hs)) hG fun x => by
  rw [List.mem_filter, List.mem_map, decide_eq_true_eq]
  constructor
  ·exact fun h => h.2
  ·intro h
   obtain ⟨o, ho⟩ := Option.isSome_iff_exists.1 (hm x h)
   exact ⟨⟨o, (fnd_id ho).2, (fnd_id ho).1⟩, h⟩
 have h3 : (X.filter fun x => decide (x.id ∈ G)).length = G.length := by
  conv => rhs; rw [← h2, List.filter_map, List.length_map]
  rfl
 rw [h1, ← h3]
 have : ∀ l : List Ob, (l.filter fun x => decide (¬ x.id ∈ G)).length + (l.filter fun x => decide (x.id ∈ G)).length = l.length := by
  intro l
  induction l with
  | nil => rfl
  | cons a r ih =>
   by_cases q : a.id ∈ G
   ·rw [List.filter_cons_of_neg (by simpa using q), List.filter_cons_of_pos (by simpa using q), List.length_cons, List.length_cons]; omega
   ·rw [List.filter_cons_of_pos (by simpa using q), List.filter_cons_of_neg (by simpa using q), List.length_cons, List.length_cons]; omega
 exact this X
end
end Go.Proofs.Ytcmcakandbpjfaa
namespace Go.Proofs.Ytcmcakandbpjfaa
set_option maxRecDepth 100000
set_option maxHeartbeats 8000000
open Go.RowKit Go.Shelf
set_option linter.unusedVariables false

def ctO (i : Int) (l : Lb) (q : Int) (f : Bool) (k : List Int) : Ob := ⟨i, 2, l, q, f, k, [], [], zTh, zGt, [], []⟩
theorem cn_of {x : Ob} (h : soundB x = true) (k : x.kind = 2) : x = ctO x.id x.label x.quota x.fixed x.links := by
 unfold soundB at h
 rw [Bool.and_eq_true, Bool.and_eq_true, sameO_iff, alone_iff] at h
 have e := h.2.2
 unfold aloO at e
 rw [if_neg (by rw [k]; decide), if_pos k] at e
 obtain ⟨id, kind, label, quota, fixed, links, data, maps, th, gt, inn, out⟩ := x
 simp only at k e ⊢
 unfold ctO
 subst k
 cases e
 rfl
section
variable {D D' : Nat → Prop} {w w' : World} {v : Option Value}
theorem LbV.nil' (h : LbV D w v []) : LbV D' w' v [] := by
 obtain ⟨a, n, c, e, h1, h2, h3, _⟩ := h
 have h0 : n = 0 := h1.symm
 exact ⟨a, n, c, e, h1, h2, h3, fun hn => by omega⟩
theorem CtV.nil' (h : CtV D w v []) : CtV D' w' v [] := by
 obtain ⟨a, n, c, e, h1, h2, h3, _⟩ := h
 have h0 : n = 0 := h1.symm
 exact ⟨a, n, c, e, h1, h2, h3, fun hn => by omega⟩
theorem MpV.nil' (h : MpV D w v []) : MpV D' w' v [] := by
 obtain ⟨a, n, c, e, h1, h2, h3, _⟩ := h
 have h0 : n = 0 := h1.symm
 exact ⟨a, n, c, e, h1, h2, h3, fun hn => by omega⟩
theorem ObD.cont {C : Array Value} {u : Value} {i q : Int} {l : Lb} {f : Bool} {k k' : List Int} (h : ObD D w C (ctO i l q f k)) (hl : LbV D' w' (C[2]?) l) (hk : CtV D' w' (some u) k') (hu : u.oneCell' = true) : ObD D' w' (C.setIfInBounds 5 u) (ctO i l q f k') := by
 have e : ∀ i, (C.setIfInBounds 5 u)[i]? = if 5 = i then some u else C[i]? := fun i => set_at (by rw [h.size]; omega)
 have n : ∀ i, 5 ≠ i → (C.setIfInBounds 5 u)[i]? = C[i]? := fun i q => by rw [e, if_neg q]
 have a : ThF D w (fun i => (C.setIfInBounds 5 u)[8 + i]?) zTh := h.th.congr fun i hi => (n (8 + i) (by omega)).symm
 have b : GtF D w (fun i => (C.setIfInBounds 5 u)[43 + i]?) zGt := h.gt.congr fun i hi => (n (43 + i) (by omega)).symm
 exact ⟨by simp [h.size], set_one h.one hu, (n 0 (by omega)).trans h.id, (n 1 (by omega)).trans h.kind, by rw [n 2 (by omega)]; exact hl, (n 3 (by omega)).trans h.quota, (n 4 (by omega)).trans h.fixed, by rw [e, if_pos rfl]; exact hk, by rw [n 6 (by omega)]; exact h.data.nil', by rw [n 7 (by omega)]; exact h.maps.nil',
  ⟨a.rlen, a.regs, a.pc, a.clear.nil', a.sc, a.si, a.handler, a.vector, a.state, a.wc, a.wi, a.wx, a.wv, a.wd, a.alerts.nil', a.lo, a.hi, a.l0.nil', a.l1.nil', a.l2.nil', a.l3.nil'⟩,
  ⟨b.grant.nil', b.clear.nil', b.sc, b.si, b.pc, b.arg⟩, by rw [n 49 (by omega)]; exact h.inn.nil', by rw [n 50 (by omega)]; exact h.out.nil'⟩
end
theorem erase_filter : ∀ {L : List Int} {r : Nat}, L.Nodup → r < L.length → L.eraseIdx r = L.filter fun j => decide (j ≠ L.getD r 0)
 | a :: l, 0, h, _ => by
  have ha := (List.nodup_cons.1 h).1
  show l = (a :: l).filter fun j => decide (j ≠ a)
  rw [List.filter_cons_of_neg (by simp)]
  symm
  exact List.filter_eq_self.2 fun x hx => decide_eq_true (fun (q : x = a) => ha (q ▸ hx))
 | a :: l, r + 1, h, hr => by
  obtain ⟨ha, hl⟩ := List.nodup_cons.1 h
  have hr' : r < l.length := by simpa using hr
  have ih := erase_filter hl hr'
  have hm : l.getD r 0 ∈ l := by rw [List.getD_eq_getElem?_getD, List.getElem?_eq_getElem hr']; exact List.getElem_mem _
  show a :: l.eraseIdx r = (a :: l).filter fun j => decide (j ≠ l.getD r 0)
  have hp : decide (a ≠ l.getD r 0) = true := decide_eq_true fun q => ha (by rw [q]; exact hm)
  rw [List.filter_cons, if_pos hp, ih]
theorem puR_lnk {t ro : Int} {key : Nat} {X : List Ob} {d i : Int} (hf : fitD t key ro X = true) (hd : i ∈ (fO X d).links) : puR X (lnkX (oneP d i) (fO X d)) = X.map (lnkX (oneP d i)) := by
 have hT := tre_of hf
 obtain ⟨o, ho, eo, hox, hid⟩ := fO_links hd
 have hi : (fnd X (lnkX (oneP d i) (fO X d)).id).isSome = true := by
  show (fnd X (fO X d).id).isSome = true
  rw [eo, hid, ho]; rfl
 rw [put_map hT.srt hi]
 refine List.map_congr_left fun x hx => ?_
 show (if x.id = (fO X d).id then _ else _) = _
 rw [eo]
 by_cases q : x.id = o.id
 ·rw [if_pos q, srt_uniq hT.srt hx hox q]
 ·rw [if_neg q]
  exact (lnk_all _ fun j hj => by unfold oneP; rw [decide_eq_false (fun e => q (by rw [e, hid])), Bool.false_and]).symm
theorem lnk_erase {t ro : Int} {key : Nat} {X : List Ob} {d i : Int} {r : Nat} (hf : fitD t key ro X = true) (hd : i ∈ (fO X d).links) (hr : r < (fO X d).links.length) (e : (fO X d).links.getD r 0 = i) : (lnkX (oneP d i) (fO X d)).links = (fO X d).links.eraseIdx r := by
 have hT := tre_of hf
 obtain ⟨o, ho, eo, hox, hid⟩ := fO_links hd
 rw [erase_filter (by rw [eo]; exact links_nodup (hT.snd o hox)) hr, e]
 unfold lnkX
 refine List.filter_congr fun j hj => ?_
 unfold oneP
 rw [eo, hid, decide_eq_true rfl, Bool.true_and]
 by_cases q : j = i <;> simp [q]
end Go.Proofs.Ytcmcakandbpjfaa
namespace Go.Proofs.Ytcmcakandbpjfaa
set_option maxRecDepth 100000
set_option maxHeartbeats 8000000
set_option linter.unusedVariables false

def aloL (Y : List Ob) (ro : Int) : Option Ob := Y.find? fun y => decide (y.id ≠ ro) && decide ((holL Y y.id).length = 0)
structure Goi (X : List Ob) (ro : Int) (P : Int → Int → Bool) (G : List Int) : Prop where
 rise : G.Pairwise (· < ·)
 mem : ∀ g ∈ G, (fnd X g).isSome = true
 root : ¬ ro ∈ G
 im : ∀ x ∈ X, x.id ∈ G → ∀ c ∈ X, x.id ∈ c.links → P c.id x.id = true ∨ c.id ∈ G
section
variable {X : List Ob} {ro x : Int} {P : Int → Int → Bool} {G : List Int}
theorem goi_nil : Goi X ro P [] := ⟨List.Pairwise.nil, fun g h => (by cases h), fun h => (by cases h), fun x _ h => (by cases h)⟩
theorem swp_zero (X : List Ob) (P : Int → Int → Bool) : swpX X P [] = X.map (lnkX P) := by
 unfold swpX
 exact List.filter_eq_self.2 fun x _ => decide_eq_true (fun h => by cases h)
theorem swp_drp (hs : Srt X) (i : Int) : drpL (swpX X P G) i = swpX X P (insW G i) := by
 rw [← rdr_eq (swp_srt hs)]
 unfold rdr swpX
 rw [List.filter_filter]
 refine List.filter_congr fun x _ => ?_
 rw [Bool.eq_iff_iff]
 simp only [Bool.and_eq_true, decide_eq_true_eq, ins_mem, not_or, ne_eq]
theorem alo_one {Y : List Ob} {y : Ob} (e : aloL Y ro = some y) : y ∈ Y ∧ y.id ≠ ro ∧ holL Y y.id = [] := by
 unfold aloL at e
 have h1 := List.find?_some e
 simp only [Bool.and_eq_true, decide_eq_true_eq] at h1
 exact ⟨List.mem_of_find?_eq_some e, h1.1, List.eq_nil_of_length_eq_zero h1.2⟩
theorem alo_none {Y : List Ob} (e : aloL Y ro = none) : ∀ y ∈ Y, y.id ≠ ro → holL Y y.id ≠ [] := fun y hy hne q => by
 unfold aloL at e
 have := List.find?_eq_none.1 e y hy
 rw [decide_eq_true hne, q] at this
 exact this rfl
theorem goi_step (hs : Srt X) (h : Goi X ro P G) {y : Ob} (e : aloL (swpX X P G) ro = some y) : Goi X ro P (insW G y.id) := by
 obtain ⟨hy, hne, hol⟩ := alo_one e
 obtain ⟨c, hc, hg, rfl⟩ := mem_swp.1 hy
 have hid : (lnkX P c).id = c.id := rfl
 rw [hid] at hne hol ⊢
 have himc : ∀ d ∈ X, c.id ∈ d.links → P d.id c.id = true ∨ d.id ∈ insW G c.id := fun d hd hl => by
  cases hP : P d.id c.id with
  | true => exact .inl rfl
  | false =>
   right
   refine ins_mem.2 (.inr (Classical.byContradiction fun q => ?_))
   have : d.id ∈ holL (swpX X P G) c.id := hol_mem.2 ⟨lnkX P d, mem_swp.2 ⟨d, hd, q, rfl⟩, rfl, lnk_mem.2 ⟨hl, hP⟩⟩
   rw [hol] at this
   cases this
 refine ⟨ins_rise h.rise hg, fun g q => ?_, fun q => ?_, fun x hx hi d hd hl => ?_⟩
 ·rcases ins_mem.1 q with rfl | q
  ·rw [(fnd_some hs).2 ⟨hc, rfl⟩]; rfl
  ·exact h.mem g q
 ·rcases ins_mem.1 q with q | q
  ·exact hne q.symm
  ·exact h.root q
 ·rcases ins_mem.1 hi with q | q
  ·rw [q] at hl ⊢
   exact himc d hd hl
  ·rcases h.im x hx q d hd hl with r | r
   ·exact .inl r
   ·exact .inr (ins_mem.2 (.inr r))
theorem goi_end (hs : Srt X) (h : Goi X ro P G) (e : aloL (swpX X P G) ro = none) : Gone X ro P G := by
 refine ⟨h.rise, h.mem, h.root, fun x hx hne => ⟨h.im x hx, fun hall => Classical.byContradiction fun hg => ?_⟩⟩
 have hn := alo_none e (lnkX P x) (mem_swp.2 ⟨x, hx, hg, rfl⟩) hne
 have hid : (lnkX P x).id = x.id := rfl
 rw [hid] at hn
 cases q : holL (swpX X P G) x.id with
 | nil => exact hn q
 | cons a r =>
  have ha : a ∈ holL (swpX X P G) x.id := by rw [q]; exact List.mem_cons_self ..
  obtain ⟨y, hy, _, hl⟩ := hol_mem.1 ha
  obtain ⟨c, hc, hgc, rfl⟩ := mem_swp.1 hy
  obtain ⟨l1, l2⟩ := lnk_mem.1 hl
  rcases hall c hc l1 with r | r
  ·rw [r] at l2; cases l2
  ·exact hgc r
theorem goi_len (hs : Srt X) (hr : (fnd X ro).isSome = true) (h : Goi X ro P G) : G.length < X.length := by
 have h1 := swp_all (P := P) hs h.rise h.mem
 obtain ⟨r, e⟩ := Option.isSome_iff_exists.1 hr
 obtain ⟨er, hrX⟩ := fnd_id e
 have h2 : lnkX P r ∈ swpX X P G := mem_swp.2 ⟨r, hrX, by rw [er]; exact h.root, rfl⟩
 have := List.length_pos_of_mem h2
 omega
def wthL (L : List Int) (i : Int) : List Int := L.filter fun j => decide (j ≠ i)
theorem wth_snoc {L : List Int} {i y : Int} {k : Nat} (hk : k < L.length) (e : L.getD k 0 = y) : wthL (L.take (k + 1)) i = wthL (L.take k) i ++ (if y = i then [] else [y]) := by
 have e' : L[k] = y := by simpa [List.getD_eq_getElem?_getD, List.getElem?_eq_getElem hk] using e
 unfold wthL
 rw [List.take_add_one, List.getElem?_eq_getElem hk, List.filter_append, e']
 by_cases q : y = i <;> simp [q]
theorem wth_one {d i : Int} {c : Ob} (h : c.id = d) : wthL c.links i = (lnkX (oneP d i) c).links := by
 unfold wthL lnkX oneP
 simp only [h]
 exact List.filter_congr fun j _ => by by_cases q : j = i <;> simp [q]
theorem wth_len {L : List Int} {i : Int} : (wthL L i).length = L.length ↔ ¬ i ∈ L := by
 unfold wthL
 rw [List.length_filter_eq_length_iff]
 simp only [decide_eq_true_eq]
 exact ⟨fun h q => h i q rfl, fun h a ha e => h (e ▸ ha)⟩
end
end Go.Proofs.Ytcmcakandbpjfaa
namespace Go.Proofs.Ytcmcakandbpjfaa
set_option maxRecDepth 100000
set_option maxHeartbeats 8000000
open Go.ChangeShapes Go.WideShapes Go.ChangeAt Go.RowKit
set_option linter.unusedVariables false

def wtl (x : Int) : Bool → List Int → List Int
 | d, [] => if d then [] else [x]
 | d, c :: r => (if !d && decide (x < c) then [x] else []) ++ (c :: wtl x (d || decide (x < c)) r)
theorem wtl_drop {C : List Int} {k : Nat} {y : Int} (h : k < C.length) (e : C.getD k 0 = y) (x : Int) (d : Bool) :
  wtl x d (C.drop k) = (if !d && decide (x < y) then [x] else []) ++ (y :: wtl x (d || decide (x < y)) (C.drop (k + 1))) := by
 have e' : C[k] = y := by simpa [List.getD_eq_getElem?_getD, List.getElem?_eq_getElem h] using e
 rw [List.drop_eq_getElem_cons h, e']
 rfl
theorem wtl_true (x : Int) : ∀ C : List Int, wtl x true C = C
 | [] => rfl
 | c :: r => by simp [wtl, wtl_true x r]
theorem wtl_small {x : Int} : ∀ {C : List Int}, (∀ c ∈ C, x < c) → wtl x false C = x :: C
 | [], _ => rfl
 | c :: r, h => by
  have hc : x < c := h c (by simp)
  simp [wtl, hc, wtl_true]
theorem ah_zero {x : Int} {C : List Int} (h : ∀ c ∈ C, x ≤ c) : ahW C x = 0 := by
 unfold ahW
 rw [List.length_eq_zero_iff, List.filter_eq_nil_iff]
 intro c hc
 have := h c hc
 simp
 omega
theorem wtl_ins {x : Int} : ∀ {C : List Int}, C.Pairwise (· < ·) → wtl x false C = insW C x
 | [], _ => rfl
 | c :: r, h => by
  obtain ⟨h1, h2⟩ := List.pairwise_cons.1 h
  by_cases hx : x ≤ c
  ·have e : ahW (c :: r) x = 0 := ah_zero fun d hd => by
    rcases List.mem_cons.1 hd with rfl | hd
    ·exact hx
    ·have := h1 d hd; omega
   unfold insW
   rw [e]
   by_cases hc : x < c
   ·rw [wtl_small fun d hd => ?_]
    ·rfl
    ·rcases List.mem_cons.1 hd with rfl | hd
     ·exact hc
     ·have := h1 d hd; omega
   ·obtain rfl : x = c := by omega
    have : wtl x false (x :: r) = x :: wtl x false r := by simp [wtl]
    rw [this, wtl_small h1]
    rfl
  ·have hc : ¬ x < c := by omega
   have e1 : wtl x false (c :: r) = c :: wtl x false r := by simp [wtl, hc]
   have e2 : ahW (c :: r) x = ahW r x + 1 := by
    unfold ahW
    rw [List.filter_cons_of_pos (by simp; omega)]
    rfl
   rw [e1, wtl_ins h2]
   unfold insW
   rw [e2]
   rfl
end Go.Proofs.Ytcmcakandbpjfaa
namespace Go.Proofs.Ytcmcakandbpjfaa
set_option maxRecDepth 100000
set_option maxHeartbeats 8000000
open Go.ChangeShapes Go.WideShapes Go.ChangeAt Go.RowKit
set_option linter.unusedVariables false

theorem rwithout_v {w : World} {ao : Option Addr} {n cap : Nat} {C : List Int} {x : Int} (hC : CtD (LtN w) w ao n cap C) (hn : n ≤ 4096) :
  Calls Try.prog 27 #[.slice ao n cap, .int .u64 x] w fun e w' => ∃ v, e = .returned v ∧ w'.ownsRow w.heap.size 22 1 v (wthL C x).length (wordsC (wthL C x)) ∧ Below w.heap.size w w' := by
 obtain ⟨i0, hi, hz0, hz1, hz2⟩ := info_parts infoU64
 have hll := hC.1
 have hnc := hC.2.1
 have hcm := hC.2.2.1.1
 go_enter Try.func27, Try.ntmps27
 go_wp2
 go_loopw [5, 6] (fun v i wr => ∃ (k : Nat) (O : List Int) (ao1 : Option Addr) (cap1 : Nat), k ≤ n ∧ i = .int .i64 k ∧ v = .slice ao1 O.length cap1 ∧ Hid (wthL (C.take k) x = O) ∧ O.length ≤ k ∧ wr.ownsRow w.heap.size 22 1 (.slice ao1 O.length cap1) O.length (O.map (Value.int .u64)) ∧ Below w.heap.size w wr) (fun _ i _ => n - (intOf i).toNat)
 case atStart => exact ⟨0, [], none, 0, Nat.zero_le _, rfl, rfl, rfl, Nat.le_refl _, World.ownsRow_nil _ _ _ _, Below.refl _ _⟩
 case round =>
  obtain ⟨k, O, ao1, cap1, hk, rfl, rfl, hO, hOl, hrow, hb⟩ := hrel
  have hbs := hb.size
  by_cases hkn : k < n
  ·obtain ⟨b, off, hao, hbb, hc⟩ := ct_at hC hkn
   subst hao
   have hbB : b < w.heap.size := hbb
   obtain ⟨y, hy⟩ : ∃ y, Hid (C.getD k 0 = y) := ⟨_, rfl⟩
   rw [hy.out] at hc
   have d0 := (hb.cell (p := ⟨b, off + k, none⟩) hbB).trans hc
   have HW : Hid (wthL (C.take (k + 1)) x = _) := wth_snoc (i := x) (show k < C.length by omega) hy.out
   have hkn' : (k : Int) < n := by omega
   clear hC
   by_cases hxy : y = x
   ·have hxb : (y == x) = true := by simpa using hxy
    rw [if_pos hxy, List.append_nil, hO.out] at HW
    clear hxy
    go_wp2
    go_roundw
    case rel => exact ⟨k + 1, O, ao1, cap1, by omega, by go_num, rfl, HW, by omega, hrow, hb⟩
    case measure => simp [intOf]; omega
   ·have hxb : (y == x) = false := by simpa using hxy
    rw [if_neg hxy, hO.out] at HW
    clear hxy
    go_wp2_with (at_builtin; refine wpList_append_own _ rfl (.tmp 19) (.tmp 24) 28 rfl w.heap.size 22 i0 (.int .u64 0) 1 8 Try.underlying28 hi hz0 hz1 hz2 rfl (by decide) _ _ _ rfl (hrow.alloc _) ⟨wr.heap.size, 0, none⟩ 1 1 [.int .u64 y] rfl rfl (cell_one_new _ _ _) (by simp [Value.oneCell']) (by unfold maxLen; omega) (by omega) (by simp; omega) ?_; intro v1 w1 hown1 hgrow1 _; obtain ⟨g1, cp1, rfl⟩ := ownsRow_two hown1; have hb1 := app_below hb hrow hgrow1 hbs)
    go_roundw
    case rel => exact ⟨k + 1, O ++ [y], some ⟨g1, 0, none⟩, cp1, by omega, by go_num, by simp, HW, by simp; omega, by simpa using hown1, hb1⟩
    case measure => simp [intOf]; omega
  ·obtain rfl : k = n := by omega
   have hO2 : Hid (wthL C x = O) := by
    have h3 := hO.out
    rw [List.take_of_length_le (by omega)] at h3
    exact h3
   clear hC hO
   go_wp2
   go_ret
   exact ⟨_, rfl, by rw [hO2.out]; exact hrow, hb⟩
theorem rinsert_v {w : World} {ao : Option Addr} {n cap : Nat} {C : List Int} {x : Int} (hC : CtD (LtN w) w ao n cap C) (hs : C.Pairwise (· < ·)) (hn : n ≤ 4096) :
  Calls Try.prog 31 #[.slice ao n cap, .int .u64 x] w fun e w' => ∃ v, e = .returned v ∧ w'.ownsRow w.heap.size 22 1 v (insW C x).length (wordsC (insW C x)) ∧ Below w.heap.size w w' := by
 obtain ⟨i0, hi, hz0, hz1, hz2⟩ := info_parts infoU64
 have hll := hC.1
 have hnc := hC.2.1
 have hcm := hC.2.2.1.1
 have hI : Hid (insW C x = wtl x false C) := (wtl_ins hs).symm
 obtain ⟨R, hR⟩ : ∃ R, Hid (insW C x = R) := ⟨_, rfl⟩
 rw [hR.out] at hI ⊢
 clear hs
 go_enter Try.func31, Try.ntmps31
 go_wp2
 go_loopw [5, 6, 7] (fun v dv i wr => ∃ (k : Nat) (d : Bool) (O : List Int) (ao1 : Option Addr) (cap1 : Nat), k ≤ n ∧ i = .int .i64 k ∧ dv = .bool d ∧ v = .slice ao1 O.length cap1 ∧ Hid (R = O ++ wtl x d (C.drop k)) ∧ O.length ≤ 2 * k ∧ wr.ownsRow w.heap.size 22 1 (.slice ao1 O.length cap1) O.length (O.map (Value.int .u64)) ∧ Below w.heap.size w wr) (fun _ _ i _ => n - (intOf i).toNat)
 case atStart => exact ⟨0, _, [], none, 0, Nat.zero_le _, rfl, rfl, rfl, hI.out, Nat.le_refl _, World.ownsRow_nil _ _ _ _, Below.refl _ _⟩
 case round =>
  obtain ⟨k, d, O, ao1, cap1, hk, rfl, rfl, rfl, hO, hOl, hrow, hb⟩ := hrel
  have hbs := hb.size
  by_cases hkn : k < n
  ·obtain ⟨b, off, hao, hbb, hc⟩ := ct_at hC hkn
   subst hao
   have hbB : b < w.heap.size := hbb
   obtain ⟨y, hy⟩ : ∃ y, Hid (C.getD k 0 = y) := ⟨_, rfl⟩
   rw [hy.out] at hc
   have d0 := (hb.cell (p := ⟨b, off + k, none⟩) hbB).trans hc
   have HW : Hid (wtl x d (C.drop k) = _) := wtl_drop (by omega) hy.out x d
   have hbw : b < wr.heap.size := by omega
   clear hC
   cases d with
   | true =>
    go_wp2_with (at_builtin; refine wpList_append_own _ rfl (.tmp 28) (.tmp 33) 28 rfl w.heap.size 22 i0 (.int .u64 0) 1 8 Try.underlying28 hi hz0 hz1 hz2 rfl (by decide) _ _ _ rfl (hrow.alloc _) ⟨wr.heap.size, 0, none⟩ 1 1 [.int .u64 y] rfl rfl (cell_one_new _ _ _) (by simp [Value.oneCell']) (by unfold maxLen; omega) (by omega) (by simp; omega) ?_; intro v1 w1 hown1 hgrow1 _; obtain ⟨g1, cp1, rfl⟩ := ownsRow_two hown1; have hb1 := app_below hb hrow hgrow1 hbs)
    go_roundw
    case rel => exact ⟨k + 1, true, O ++ [y], some ⟨g1, 0, none⟩, cp1, by omega, by go_num, rfl, by simp, hO.out.trans (by rw [HW.out]; simp), by simp; omega, by simpa using hown1, hb1⟩
    case measure => simp [intOf]; omega
   | false =>
    by_cases hxy : x < y
    ·have hxb : decide (x < y) = true := by simpa using hxy
     go_wp2_with (first | (at_builtin; refine wpList_append_own _ rfl (.tmp 24) (.tmp 26) 28 rfl w.heap.size 22 i0 (.int .u64 0) 1 8 Try.underlying28 hi hz0 hz1 hz2 rfl (by decide) _ _ _ rfl (hrow.alloc _) ⟨wr.heap.size, 0, none⟩ 1 1 [.int .u64 x] rfl rfl (cell_one_new _ _ _) (by simp [Value.oneCell']) (by unfold maxLen; omega) (by omega) (by simp; omega) ?_; intro v1 w1 hown1 hgrow1 _; obtain ⟨g1, cp1, rfl⟩ := ownsRow_two hown1; have hb1 := app_below hb hrow hgrow1 hbs; have hbs1 := hb1.size; have d2 := (hb1.cell (p := ⟨b, off + k, none⟩) hbB).trans hc) | (at_builtin; refine wpList_append_own _ rfl (.tmp 28) (.tmp 33) 28 rfl w.heap.size 22 i0 (.int .u64 0) 1 8 Try.underlying28 hi hz0 hz1 hz2 rfl (by decide) _ _ _ rfl (hown1.alloc _) ⟨w1.heap.size, 0, none⟩ 1 1 [.int .u64 y] rfl rfl (cell_one_new _ _ _) (by simp [Value.oneCell']) (by unfold maxLen; omega) (by omega) (by simp; omega) ?_; intro v2 w2 hown2 hgrow2 _; obtain ⟨g2, cp2, rfl⟩ := ownsRow_two hown2; have hb2 := app_below hb1 hown1 hgrow2 hbs1))
     go_roundw
     case rel => exact ⟨k + 1, true, O ++ [x] ++ [y], some ⟨g2, 0, none⟩, cp2, by omega, by go_num, rfl, by simp, hO.out.trans (by rw [HW.out]; simp [hxy]), by simp; omega, by simpa using hown2, hb2⟩
     case measure => simp [intOf]; omega
    ·have hxb : decide (x < y) = false := by simpa using hxy
     go_wp2_with (at_builtin; refine wpList_append_own _ rfl (.tmp 28) (.tmp 33) 28 rfl w.heap.size 22 i0 (.int .u64 0) 1 8 Try.underlying28 hi hz0 hz1 hz2 rfl (by decide) _ _ _ rfl (hrow.alloc _) ⟨wr.heap.size, 0, none⟩ 1 1 [.int .u64 y] rfl rfl (cell_one_new _ _ _) (by simp [Value.oneCell']) (by unfold maxLen; omega) (by omega) (by simp; omega) ?_; intro v1 w1 hown1 hgrow1 _; obtain ⟨g1, cp1, rfl⟩ := ownsRow_two hown1; have hb1 := app_below hb hrow hgrow1 hbs)
     go_roundw
     case rel => exact ⟨k + 1, false, O ++ [y], some ⟨g1, 0, none⟩, cp1, by omega, by go_num, rfl, by simp, hO.out.trans (by rw [HW.out]; simp [hxy]), by simp; omega, by simpa using hown1, hb1⟩
     case measure => simp [intOf]; omega
  ·have hO' : Hid (R = O ++ wtl x d []) := by
    have h2 : C.drop k = [] := List.drop_eq_nil_of_le (by omega)
    have h3 := hO.out
    rw [h2] at h3
    exact h3
   clear hC hO hI
   cases d with
   | true =>
    have hO2 : Hid (R = O) := by have := hO'.out; show R = O; simpa [wtl] using this
    go_wp2
    go_ret
    exact ⟨_, rfl, by rw [hO2.out]; exact hrow, hb⟩
   | false =>
    have hO2 : Hid (R = O ++ [x]) := hO'.out
    go_wp2_with (at_builtin; refine wpList_append_own _ rfl (.tmp 37) (.tmp 39) 28 rfl w.heap.size 22 i0 (.int .u64 0) 1 8 Try.underlying28 hi hz0 hz1 hz2 rfl (by decide) _ _ _ rfl (hrow.alloc _) ⟨wr.heap.size, 0, none⟩ 1 1 [.int .u64 x] rfl rfl (cell_one_new _ _ _) (by simp [Value.oneCell']) (by unfold maxLen; omega) (by omega) (by simp; omega) ?_; intro v1 w1 hown1 hgrow1 _; obtain ⟨g1, cp1, rfl⟩ := ownsRow_two hown1; have hb1 := app_below hb hrow hgrow1 hbs)
    go_ret
    exact ⟨_, rfl, by rw [hO2.out]; unfold wordsC; simpa using hown1, hb1⟩
end Go.Proofs.Ytcmcakandbpjfaa
namespace Go.Proofs.Ytcmcakandbpjfaa
set_option maxRecDepth 100000
set_option maxHeartbeats 8000000
open Go.RowKit Go.Shelf
set_option linter.unusedVariables false
attribute [local go_sem] Oper.semAt_some

section
variable {Y : List Ob} {ro : Int}
theorem alo_at {k : Nat} (h : ∀ q, q < k → ¬ ((oat Y q).id ≠ ro ∧ (holL Y (oat Y q).id).length = 0)) (hk : k < Y.length) (e : (oat Y k).id ≠ ro ∧ (holL Y (oat Y k).id).length = 0) : aloL Y ro = some (oat Y k) := by
 unfold aloL
 rw [List.find?_eq_some_iff_getElem]
 refine ⟨by simpa using e, k, hk, (oat_get hk).symm, fun j hj => ?_⟩
 have := h j hj
 rw [oat_get (by omega)] at this
 rw [Bool.not_eq_true', Bool.and_eq_false_iff, decide_eq_false_iff_not, decide_eq_false_iff_not]
 rcases Classical.em ((Y[j]'(by omega)).id ≠ ro) with q | q
 ·exact .inr fun r => this ⟨q, r⟩
 ·exact .inl q
theorem alo_no (h : ∀ q, q < Y.length → ¬ ((oat Y q).id ≠ ro ∧ (holL Y (oat Y q).id).length = 0)) : aloL Y ro = none := by
 unfold aloL
 refine List.find?_eq_none.2 fun x hx => ?_
 obtain ⟨j, hj, rfl⟩ := List.mem_iff_getElem.1 hx
 have := h j hj
 rw [oat_get hj] at this
 simpa using this
end
theorem ralone_v {w : World} {t ke ro : Int} {ao : Option Addr} {n cap : Nat} {X : List Ob} (h : Obs w ao n cap X) (hn16 : n ≤ 4096) : Calls Try.prog 29 #[.agg #[.int .i64 t, .int .u64 ke, .int .u64 ro, .slice ao n cap]] w fun e w' => e = .returned (.tuple #[.int .u64 (((aloL X ro).map Ob.id).getD 0), .bool (aloL X ro).isSome]) ∧ Below w.heap.size w w' := by
 have hn : Hid (X.length = n) := h.1
 have hnc := h.2.1
 have hcm := h.2.2.1.1
 have ga1 := Try.isAgg22
 have ga3 := Try.isAgg23
 have c3 : (#[.int .i64 t, .int .u64 ke, .int .u64 ro, .slice ao n cap] : Array Value)[3]? = some (.slice ao n cap) := rfl
 have c2 : (#[.int .i64 t, .int .u64 ke, .int .u64 ro, .slice ao n cap] : Array Value)[2]? = some (.int .u64 ro) := rfl
 have hzG : (Try.prog.info? 25).map (·.size) = some (#[.int .i64 t, .int .u64 ke, .int .u64 ro, .slice ao n cap] : Array Value).size := size43
 have hol := fun {W : World} {i : Int} (hk : Below w.heap.size w W) => rholders_any (t := t) (ke := ke) (ro := ro) (i := i) (obs_next h hk) (by omega)
 obtain ⟨G, hG⟩ : ∃ G : Array Value, G = #[.int .i64 t, .int .u64 ke, .int .u64 ro, .slice ao n cap] := ⟨_, rfl⟩
 rw [← hG] at c3 c2 hzG
 simp only [← hG] at hol
 rw [← hG]
 clear hG
 go_enter Try.func29, Try.ntmps29
 go_wp2_with (first
  | (with_reducible refine wpList_box rfl _ _ rfl G rfl ?_; intro B W hB hb hk))
 go_loopw [4] (fun j wr => ∃ k : Nat, k ≤ n ∧ j = .int .i64 k ∧ Hid (∀ q, q < k → ¬ ((oat X q).id ≠ ro ∧ (holL X (oat X q).id).length = 0)) ∧ Blk wr B G 25 ∧ Below w.heap.size w wr) (fun j _ => n - (intOf j).toNat)
 case atStart => exact ⟨0, Nat.zero_le _, rfl, fun q hq => absurd hq (by omega), hb, hk⟩
 case round =>
  clear hb hk
  obtain ⟨k, hkn1, rfl, hal, hb, hk⟩ := hrel
  by_cases hkn : k < n
  ·obtain ⟨b, off, C, rfl, hbb, hC, hr⟩ := obs_at (obs_next h hk) hkn
   have hkn' : (k : Int) < n := by omega
   have hkX : k < X.length := by rw [hn.out]; exact hkn
   have hid : wr.cell? ⟨b, off + k * 51, none⟩ = some (.int .u64 (oat X k).id) := by simpa using hr 0 _ (by simpa using hC.id)
   have hat := fun e => alo_at (ro := ro) hal.out hkX e
   have hsu : ¬ ((oat X k).id ≠ ro ∧ (holL X (oat X k).id).length = 0) → ∀ q, q < k + 1 → ¬ ((oat X q).id ≠ ro ∧ (holL X (oat X q).id).length = 0) := fun e => fn_succ hal.out e
   clear hC hr
   obtain ⟨i, hi⟩ : ∃ i, (oat X k).id = i := ⟨_, rfl⟩
   rw [hi] at hid hat hsu
   obtain ⟨m, hm⟩ : ∃ m, Hid ((holL X i).length = m) := ⟨_, rfl⟩
   rw [hm.out] at hat hsu
   have hoi := fun {W : World} (hk : Below w.heap.size w W) => hol (W := W) (i := i) hk
   by_cases e1 : i = ro
   ·have e1b : (i != ro) = false := by simpa using e1
    replace hsu := hsu fun q => q.1 e1
    clear e1 hat hoi hol
    go_wp2_with (first
     | (with_reducible refine wpList_load1 (by first | kernel_rfl | with_unfolding_all rfl) _ _ rfl B _ rfl _ _ hb _ c3 ga3 ?_)
     | (with_reducible refine wpList_load1 (by first | kernel_rfl | with_unfolding_all rfl) _ _ rfl B _ rfl _ _ hb _ c2 ga1 ?_)
     | (with_reducible refine wpList_loadc (by kernel_rfl) _ _ rfl b _ rfl _ hid ga1 ?_))
    go_roundw
    case rel => exact ⟨k + 1, by omega, by go_num, hsu, hb, hk⟩
    case measure => simp [intOf]; omega
   ·have e1b : (i != ro) = true := by simpa using e1
    by_cases e2 : m = 0
    ·have e2b : ((m : Int) == 0) = true := by rw [beq_iff_eq]; omega
     replace hat := hat ⟨e1, e2⟩
     clear e1 e2 hsu
     go_wp2_with (first
      | (with_reducible refine wpList_load1 (by first | kernel_rfl | with_unfolding_all rfl) _ _ rfl B _ rfl _ _ hb _ c3 ga3 ?_)
      | (with_reducible refine wpList_load1 (by first | kernel_rfl | with_unfolding_all rfl) _ _ rfl B _ rfl _ _ hb _ c2 ga1 ?_)
      | (with_reducible refine wpList_loadc (by kernel_rfl) _ _ rfl b _ rfl _ hid ga1 ?_)
      | (with_reducible refine wpList_loadb (by first | kernel_rfl | with_unfolding_all rfl) 25 _ rfl B rfl G hb _ Try.underlying25 (by kernel_rfl) hzG ?_)
      | (go_at_call 17; (with_reducible refine (hoi hk).mono ?_); rintro e w1 ⟨v, rfl, hown1, hb1⟩; obtain ⟨al1, cl1, rfl, hct1⟩ := own_ct hown1; rw [hm.out]; replace hb := hb.next hb1; replace hk := hk.trans (hb1.mono hk.size); clear hb1 hown1 hct1))
     refine bodyPost_ret (results_tmp2 Try.results29 _ _ _) rfl ?_
     rw [hat]
     exact ⟨by rw [Option.map_some, Option.getD_some, hi]; rfl, hk⟩
    ·have e2b : ((m : Int) == 0) = false := by rw [beq_eq_false_iff_ne]; omega
     replace hsu := hsu fun q => e2 q.2
     clear e1 e2 hat
     go_wp2_with (first
      | (with_reducible refine wpList_load1 (by first | kernel_rfl | with_unfolding_all rfl) _ _ rfl B _ rfl _ _ hb _ c3 ga3 ?_)
      | (with_reducible refine wpList_load1 (by first | kernel_rfl | with_unfolding_all rfl) _ _ rfl B _ rfl _ _ hb _ c2 ga1 ?_)
      | (with_reducible refine wpList_loadc (by kernel_rfl) _ _ rfl b _ rfl _ hid ga1 ?_)
      | (with_reducible refine wpList_loadb (by first | kernel_rfl | with_unfolding_all rfl) 25 _ rfl B rfl G hb _ Try.underlying25 (by kernel_rfl) hzG ?_)
      | (go_at_call 17; (with_reducible refine (hoi hk).mono ?_); rintro e w1 ⟨v, rfl, hown1, hb1⟩; obtain ⟨al1, cl1, rfl, hct1⟩ := own_ct hown1; rw [hm.out]; replace hb := hb.next hb1; replace hk := hk.trans (hb1.mono hk.size); clear hb1 hown1 hct1))
     go_roundw
     case rel => exact ⟨k + 1, by omega, by go_num, hsu, hb, hk⟩
     case measure => simp [intOf]; omega
  ·obtain rfl : k = n := by omega
   have hno : aloL X ro = none := alo_no fun q hq => hal.out q (by rw [← hn.out]; exact hq)
   go_wp2_with (first
    | (with_reducible refine wpList_load1 (by first | kernel_rfl | with_unfolding_all rfl) _ _ rfl B _ rfl _ _ hb _ c3 ga3 ?_))
   refine bodyPost_ret (results_tmp2 Try.results29 _ _ _) rfl ?_
   rw [hno]
   exact ⟨rfl, hk⟩
end Go.Proofs.Ytcmcakandbpjfaa
namespace Go.Proofs.Ytcmcakandbpjfaa
set_option maxRecDepth 100000
set_option maxHeartbeats 8000000
open Go.RowKit Go.Shelf
set_option linter.unusedVariables false
attribute [local go_sem] Oper.semAt_some

theorem rdrop_d {D0 : Nat → Prop} {w : World} {t ke ro : Int} {ao : Option Addr} {n cap : Nat} {X : List Ob} {i : Int} (hD : ∀ b, D0 b → b < w.heap.size) (h : ObsD (LtN w) D0 w ao n cap X) (hs : Srt X) (hn16 : n < 1024) : Calls Try.prog 30 #[.agg #[.int .i64 t, .int .u64 ke, .int .u64 ro, .slice ao n cap], .int .u64 i] w fun e w' => ∃ ao2 n2 cap2, e = .returned (.agg #[.int .i64 t, .int .u64 ke, .int .u64 ro, .slice ao2 n2 cap2]) ∧ ObsD (New w w') D0 w' ao2 n2 cap2 (drpL X i) ∧ Below w.heap.size w w' := by
 rw [← rdr_eq hs i]
 clear hs
 have hn : Hid (X.length = n) := h.1
 have hnc := h.2.1
 have hcm := h.2.2.1.1
 have ga1 := Try.isAgg22
 have ga3 := Try.isAgg23
 have c3 : (#[.int .i64 t, .int .u64 ke, .int .u64 ro, .slice ao n cap] : Array Value)[3]? = some (.slice ao n cap) := rfl
 have hzG : (Try.prog.info? 25).map (·.size) = some (#[.int .i64 t, .int .u64 ke, .int .u64 ro, .slice ao n cap] : Array Value).size := size43
 have hz2 : ∀ v, (Try.prog.info? 25).map (·.size) = some (#[.int .i64 t, .int .u64 ke, .int .u64 ro, v] : Array Value).size := fun _ => size43
 have hs2 : ∀ v, zW.size = (#[.int .i64 t, .int .u64 ke, .int .u64 ro, v] : Array Value).size := fun _ => rfl
 have h12 : ∀ ao n cap, (#[.int .i64 t, .int .u64 ke, .int .u64 ro, .slice ao n cap] : Array Value).all (·.oneCell') = true := fun _ _ _ => by kernel_rfl
 have cS : ∀ v, (#[.int .i64 t, .int .u64 ke, .int .u64 ro, .slice ao n cap] : Array Value).setIfInBounds 3 v = #[.int .i64 t, .int .u64 ke, .int .u64 ro, v] := fun v => rfl
 have hzG4 : (#[.int .i64 t, .int .u64 ke, .int .u64 ro, .slice ao n cap] : Array Value).size = 4 := rfl
 obtain ⟨G, hG⟩ : ∃ G : Array Value, G = #[.int .i64 t, .int .u64 ke, .int .u64 ro, .slice ao n cap] := ⟨_, rfl⟩
 rw [← hG] at c3 hzG cS hzG4
 rw [← hG]
 clear hG
 go_enter Try.func30, Try.ntmps30
 go_wp2_with (first
  | (with_reducible refine wpList_box rfl _ _ rfl G rfl ?_; intro B W hB hb hk)
  | ((with_reducible refine wpList_alloc rfl _ rfl zW zero43 ?_); intro R W0 hB1 hR hk1; replace hb := hb.next hk1; replace hk := hk.trans (hk1.mono hk.size)))
 have hne : B ≠ R := by have := hB.out; have := hB1.out; omega
 have hBR0 : Hid (B < W0.heap.size ∧ R < W0.heap.size) := ⟨hb.lt, hR.lt⟩
 have hRl : Hid (w.heap.size ≤ R ∧ w.heap.size ≤ B) := by have := hB.out; have := hB1.out; refine (⟨?_, ?_⟩ : _ ∧ _) <;> omega
 clear hB hB1 hk1
 go_loopw [5, 6] (fun v j wr => ∃ (k : Nat) (cs : List Value), k ≤ n ∧ j = .int .i64 k ∧ wr.ownsRow W0.heap.size 54 51 v (rdr (X.take k) i).length cs ∧ RowO D0 wr (rdr (X.take k) i) cs ∧ Below W0.heap.size W0 wr) (fun _ j _ => n - (intOf j).toNat)
 case atStart => exact ⟨0, [], Nat.zero_le _, rfl, World.ownsRow_nil _ _ _ _, rfl, Below.refl _ _⟩
 case round =>
  obtain ⟨k, cs, hkn1, rfl, hown, hro, hb0⟩ := hrel
  have hbw := hk.trans (hb0.mono hk.size)
  replace hb := hb.next hb0
  replace hR := hR.next hb0
  have hbs := hbw.size
  have hb0s := hb0.size
  by_cases hkn : k < n
  ·obtain ⟨b, off, C, rfl, hbb, hC, hr⟩ := obs_atD (obsD_next h hD hbw) hkn
   have hkn' : (k : Int) < n := by omega
   have hz := hC.size
   have hid : wr.cell? ⟨b, off + k * 51, none⟩ = some (.int .u64 (oat X k).id) := by simpa using hr 0 _ (by simpa using hC.id)
   have hl : (rdr (X.take k) i).length ≤ k := Nat.le_trans (List.length_filter_le ..) (by simp; omega)
   have hsu := rdr_succ (i := i) (show k < X.length by rw [hn.out]; exact hkn)
   go_wp2_with (first
    | (with_reducible refine wpList_load1 (by kernel_rfl) _ _ rfl B _ rfl _ _ hb _ (by assumption) (by assumption) ?_)
    | (with_reducible refine wpList_loadc (by kernel_rfl) _ _ rfl b _ rfl _ hid ga1 ?_)
    | ((with_reducible refine wpList_test (by kernel_rfl) .neq _ _ _ _ rfl _ _ rfl rfl (neg_int _ _ _ _ _ _) ?_ ?_) <;> intro hq)
    | (with_reducible refine wpList_loadm (by kernel_rfl) 54 _ rfl b _ rfl C hr _ Try.underlying54 (by kernel_rfl) (size40C hz) ?_)
    | ((with_reducible refine wpList_bs1 rfl _ rfl C rfl hz ?_); intro Bq W8 hBq hbq hk8; have hown8 := own_next hown hk8)
    | (at_builtin; refine wpList_append_row infoO Try.underlying23 zC_size (by omega) rfl _ _ rfl W0.heap.size _ _ cs rfl hown8 _ _ _ _ C.toList rfl (row_one hbq hz) (obC_one hC) (by unfold maxLen; omega) (by omega) (Nat.le_trans hb0s hk8.size) ?_; intro v' w2 hown' hgrow))
   ·go_roundw
    case rel =>
     rw [if_pos hq.out] at hsu
     have hb2 : Below W0.heap.size W0 w2 := (hb0.trans (hk8.mono hb0s)).grown hgrow (Nat.le_trans hb0s hk8.size) (own_ge hown8)
     have hbw2 := hk.trans (hb2.mono hk.size)
     refine ⟨k + 1, cs ++ C.toList, by omega, by go_num, ?_, ?_, hb2⟩
     ·rw [hsu, List.length_append]; exact hown'
     ·rw [hsu]
      exact RowO.app (hro.laterK fun b hb => (hbw2.block b (hD b hb)).trans (hbw.block b (hD b hb)).symm) (RowO.single (hC.laterK fun b hb => (hbw2.block b (hD b hb)).trans (hbw.block b (hD b hb)).symm))
    case measure => simp [intOf]; omega
   ·go_roundw
    case rel =>
     rw [if_neg hq.out, List.append_nil] at hsu
     exact ⟨k + 1, cs, by omega, by go_num, by rw [hsu]; exact hown, by rw [hsu]; exact hro, hb0⟩
    case measure => simp [intOf]; omega
  ·obtain rfl : k = n := by omega
   obtain ⟨ao2, cap2, rfl, hrc⟩ := RowC.of_owns hown
   generalize (rdr (X.take k) i).length = m2 at hown hrc ⊢
   go_wp2_with (first
    | (with_reducible refine wpList_load1 (by kernel_rfl) _ _ rfl B _ rfl _ _ hb _ (by assumption) (by assumption) ?_)
    | ((with_reducible refine wpList_store_cell rfl _ _ _ rfl B 3 rfl (.slice ao2 m2 cap2) rfl rfl G _ hb (by kernel_rfl) (by rw [hzG4]; omega) rfl ?_); intro W4 hb4 o4; rw [cS] at hb4; have hR4 := hR.other o4 hne.symm)
    | (with_reducible refine wpList_load_blk rfl _ _ rfl B rfl _ hb4 _ Try.underlying25 rfl (hz2 _) ?_)
    | ((with_reducible refine wpList_store_blk rfl _ _ _ rfl R rfl _ rfl zW hR4 (hz2 _) (hs2 _) (h12 _ _ _) ?_); intro W5 hR5 o5))
   refine bodyPost_ret (v := .agg _) (res43 Try.results30 rfl hR5 rfl) rfl ?_
   have hRo := hRl.out
   have ht : X.take k = X := by rw [← hn.out]; exact List.take_length
   rw [ht] at hro
   have hlt := hb0.size
   have hBR := hBR0.out
   refine ⟨ao2, m2, cap2, rfl, ?_, o5.below _ _ hRo.1 (o4.below _ _ hRo.2 hbw)⟩
   have hob := hrc.obs hro
   refine (hob.laterK (w' := W5) (fun b hb => (o5.block b (by have := hD b hb; omega)).trans (o4.block b (by have := hD b hb; omega))) (fun b hb => (o5.block b (by have := hb.1; omega)).trans (o4.block b (by have := hb.1; omega)))).wide (fun b hb => hb) (fun b hb => ?_)
   have h1 := hb.1
   have h2 := hb.2
   exact ⟨by omega, by rw [o5.size, o4.size]; exact h2⟩
end Go.Proofs.Ytcmcakandbpjfaa
namespace Go.Proofs.Ytcmcakandbpjfaa
set_option maxRecDepth 100000
set_option maxHeartbeats 8000000
open Go.RowKit Go.Shelf
set_option linter.unusedVariables false
attribute [local go_sem] Oper.semAt_some

theorem wpList_alloc1 {P : Program} {ops : Array Oper} {Q : Exit → Act → World → Prop} {w : World} {a : Act} {op : Oper} {rest : List Oper} (hgd : op.guard = none) (ty : TypeId) (ho : op.op = .alloc ty) (z : Value) (hz : ∀ w, (zeroValue ty).run P w = .ok z w) (hc : z.cells = #[z])
  (h : ∀ B W, Hid (w.heap.size = B ∧ W.heap.size = B + 1) → Blk W B #[z] ty → Below w.heap.size w W → wpList P ops Q rest (a.put op.dst (.pointer (some ⟨B, 0, none⟩))) W) : wpList P ops Q (op :: rest) a w :=
 wpList_plain hgd fun K hK => by
  unfold Oper.wp execOp
  simp only [ho, Instr.alloc, hz, newVar, newRow, newObj, Sem.run_bind, hc, Result.andThen_ok]
  exact hK _ _ (h _ _ ⟨rfl, by simp⟩ (Blk.new w #[z] ty) ((Below.refl _ w).alloc (Nat.le_refl _) _))
theorem res_w3 {fn : Func} {p u z : Tmp} (h : fn.results = #[.cell p 25, .tmp u, .tmp z]) {tmps : Array Value} {w : World} {B : Nat} {C : Array Value} {v s : Value} (hp : tmps.getD p undef = .pointer (some ⟨B, 0, none⟩)) (hu : tmps.getD u undef = v) (hz : tmps.getD z undef = s) (hB : Blk w B C 25) (hs : C.size = 4) : (results fn tmps).run Try.prog w = .ok (.tuple #[.agg C, v, s]) w := by
 have := run_loadVar_mid (P := Try.prog) w B 0 25 C.toList _ hB.range0 Try.underlying25 rfl (by rw [Array.length_toList, hs]; kernel_rfl)
 rw [Array.toArray_toList] at this
 rw [Array.getD_eq_getD_getElem?] at hp hu hz
 unfold results
 simp [h, hp, hu, hz, asAddr, this, Result.andThen]
theorem unref_no {w : World} {t ro : Int} {key : Nat} {ao : Option Addr} {n cap : Nat} {X : List Ob} {d i : Int} (h : Obs w ao n cap X) (hf : fitD t key ro X = true) (hn : n < 1024) (hni : ¬ i ∈ (fO X d).links) : Calls Try.prog 9 #[.agg #[.int .i64 t, .int .u64 (key : Int), .int .u64 ro, .slice ao n cap], .int .u64 d, .int .u64 i] w fun e w' => ∃ ao2 n2 cap2, e = .returned (.tuple #[.agg #[.int .i64 t, .int .u64 (key : Int), .int .u64 ro, .slice ao2 n2 cap2], .slice none 0 0, .int .i64 1]) ∧ Obs w' ao2 n2 cap2 X ∧ Below w.heap.size w w' := by
 have hT := tre_of hf
 have hsm : Smalls X := fun x hx => sound_small0 (hT.snd x hx)
 have hpl := fun {W : World} (hk : Below w.heap.size w W) => place_v (t := t) (ke := (key : Int)) (ro := ro) (d := d) (i := i) (obs_next h hk) hT.srt (by omega) hsm
 have hdz : drpL X 0 = X := drp_none hT.srt (by
  cases q : fnd X 0 with
  | none => rfl
  | some x => have h1 := fnd_id q; have := id_pos (hT.snd x h1.2); omega)
 have hdr := fun {W : World} (hk : Below w.heap.size w W) => drop_w (t := t) (ke := (key : Int)) (ro := ro) (i := 0) (D0 := LtN w) (fun b hb => Nat.lt_of_lt_of_le hb hk.size) ((ObsD.laterK h (fun b hb => hk.block b hb) (fun b hb => hk.block b hb)).wide (fun b hb => hb) (fun b hb => Nat.lt_of_lt_of_le hb hk.size)) hT.srt hn hsm
 rw [hdz] at hdr
 have hzG : (Try.prog.info? 25).map (·.size) = some (#[.int .i64 t, .int .u64 (key : Int), .int .u64 ro, .slice ao n cap] : Array Value).size := by kernel_rfl
 have hz2 : ∀ v, (Try.prog.info? 25).map (·.size) = some (#[.int .i64 t, .int .u64 (key : Int), .int .u64 ro, v] : Array Value).size := fun _ => by kernel_rfl
 have hs2 : ∀ v, zW.size = (#[.int .i64 t, .int .u64 (key : Int), .int .u64 ro, v] : Array Value).size := fun _ => rfl
 have h12 : ∀ ao n cap, (#[.int .i64 t, .int .u64 (key : Int), .int .u64 ro, .slice ao n cap] : Array Value).all (·.oneCell') = true := fun _ _ _ => by kernel_rfl
 obtain ⟨G, hG⟩ : ∃ G : Array Value, G = #[.int .i64 t, .int .u64 (key : Int), .int .u64 ro, .slice ao n cap] := ⟨_, rfl⟩
 rw [← hG] at hzG hpl hdr
 rw [← hG]
 clear hG
 have tk1 : True := trivial
 go_enter Try.func9, Try.ntmps9
 go_upto_region 2 with (first
  | go_skip
  | (with_reducible refine wpList_box rfl 25 _ rfl G rfl ?_; intro B W1 hN1 hB hk)
  | ((with_reducible refine wpList_alloc rfl 25 rfl zW zero43 ?_); intro R W2 hN2 hR hk2; have hRw : Hid (w.heap.size ≤ R ∧ B < R) := (by have := hN2.out; have := hk.size; have := hB.lt; exact ⟨by omega, by omega⟩); replace hB := hB.next hk2; replace hk := hk.trans (hk2.mono hk.size))
  | (with_reducible refine wpList_loadb (by first | kernel_rfl | with_unfolding_all rfl) 25 _ rfl B rfl G hB _ Try.underlying25 (by kernel_rfl) hzG ?_)
  | (go_at_call 20; (with_reducible refine (hpl hk).mono ?_); rintro e w3 ⟨C, r, rfl, hC, hr, hb3, hM3⟩; have hRl : Hid (R < w3.heap.size ∧ B < w3.heap.size) := ⟨Nat.lt_of_lt_of_le hR.lt hb3.size, Nat.lt_of_lt_of_le hB.lt hb3.size⟩; replace hB := hB.next hb3; replace hR := hR.next hb3; replace hk := hk.trans (hb3.mono hk.size))
  | ((with_reducible refine wpList_alloc rfl 54 rfl zC zero40 ?_); intro P W4 hN4 hP hk4; have hPl : Hid (R < P ∧ B < P) := (by have := hN4.out; have := hRl.out; exact ⟨by omega, by omega⟩); replace hB := hB.next hk4; replace hR := hR.next hk4; replace hk := hk.trans (hk4.mono hk.size))
  | ((with_reducible refine wpList_store_blk rfl _ _ _ rfl P rfl C rfl zC hP (size40C hC.size) (zC_size.trans hC.size.symm) hC.one ?_); intro W5 hP5 o5; replace hB := hB.other o5 (by have := hPl.out; omega); replace hR := hR.other o5 (by have := hPl.out; omega); replace hk := o5.below _ _ (by have := hRw.out; have := hPl.out; omega) hk))
 have hr1 : r = -1 := by
  have h1 := hr.out.1
  have h2 := hr.out.2.1
  have : ¬ 0 ≤ r := fun q => hni (h1.1 q)
  omega
 subst hr1
 go_wp2_with (first
  | go_skip
  | (with_reducible refine wpList_loadb (by first | kernel_rfl | with_unfolding_all rfl) 25 _ rfl B rfl G hB _ Try.underlying25 (by kernel_rfl) hzG ?_)
  | (go_at_call 21; (with_reducible refine (hdr hk).mono ?_); rintro e w6 ⟨ao2, n2, cap2, rfl, hO, hb6⟩; have hsz6 := hk.size; have hR5 := hR.lt; replace hR := hR.next hb6; replace hk := hk.trans (hb6.mono hk.size))
  | ((with_reducible refine wpList_store_blk rfl 25 _ _ rfl R rfl _ rfl zW hR (hz2 _) (hs2 _) (h12 _ _ _) ?_); intro W7 hR7 o7))
 refine bodyPost_ret (v := .tuple #[.agg #[.int .i64 t, .int .u64 (key : Int), .int .u64 ro, .slice ao2 n2 cap2], .slice none 0 0, .int .i64 1]) (res_w3 Try.results9 rfl rfl rfl hR7 rfl) rfl ?_
 have hRk := hRw.out.1
 exact ⟨ao2, n2, cap2, rfl, (hO.laterK (fun b hb => o7.block b (by rcases hb with q | q; have q' : b < w.heap.size := q; omega; have := q.1; have := hR5; omega)) (fun b hb => o7.block b (by have := hb.1; have := hR5; omega))).wide (fun b hb => by rcases hb with q | q; have q' : b < w.heap.size := q; have := hk.size; have := o7.size; show b < _; omega; have := q.2; have := o7.size; show b < _; omega) (fun b hb => by have := hb.2; have := o7.size; show b < _; omega), o7.below _ _ hRk hk⟩
end Go.Proofs.Ytcmcakandbpjfaa
namespace Go.Proofs.Ytcmcakandbpjfaa
set_option maxRecDepth 100000
set_option maxHeartbeats 8000000
open Go.RowKit Go.Shelf
set_option linter.unusedVariables false
attribute [local go_sem] Oper.semAt_some

structure Lp (D0 : Nat → Prop) (N B R : Nat) (t key ro : Int) (Y : List Ob) (G : List Int) (ao : Option Addr) (n cap : Nat) (al : Option Addr) (cl : Nat) (W : World) : Prop where
 bw : Blk W B #[.int .i64 t, .int .u64 key, .int .u64 ro, .slice ao n cap] 25
 br : Blk W R zW 25
 ob : ObsD (fun b => N ≤ b ∧ b < W.heap.size) D0 W ao n cap Y
 ct : CtD (fun b => N ≤ b ∧ b < W.heap.size) W al G.length cl G
 le : N ≤ W.heap.size
 d0 : ∀ b, D0 b → b < N ∧ b ≠ B ∧ b ≠ R
 bl : B < N ∧ R < N ∧ B ≠ R
section
variable {D0 : Nat → Prop} {N B R : Nat} {t key ro : Int} {Y Y' : List Ob} {G : List Int} {ao al ao' : Option Addr} {n cap cl n' cap' : Nat} {W W' W2 : World}
theorem Lp.next (h : Lp D0 N B R t key ro Y G ao n cap al cl W) (k : Below W.heap.size W W') : Lp D0 N B R t key ro Y G ao n cap al cl W' :=
  ⟨h.bw.next k, h.br.next k,
   (h.ob.laterK (fun b hb => k.block b (Nat.lt_of_lt_of_le (h.d0 b hb).1 h.le)) (fun b hb => k.block b hb.2)).wide (fun b hb => hb) (fun b hb => ⟨hb.1, Nat.lt_of_lt_of_le hb.2 k.size⟩),
   (h.ct.laterK fun b hb => k.block b hb.2).wide fun b hb => ⟨hb.1, Nat.lt_of_lt_of_le hb.2 k.size⟩, Nat.le_trans h.le k.size, h.d0, h.bl⟩
theorem Lp.obs (h : Lp D0 N B R t key ro Y G ao n cap al cl W) : Obs W ao n cap Y :=
 h.ob.wide (fun b hb => Nat.lt_of_lt_of_le (h.d0 b hb).1 h.le) (fun b hb => hb.2)
theorem Lp.obsD (h : Lp D0 N B R t key ro Y G ao n cap al cl W) : ObsD (LtN W) D0 W ao n cap Y := h.ob.wide (fun b hb => hb) (fun b hb => hb.2)
theorem Lp.dlt (h : Lp D0 N B R t key ro Y G ao n cap al cl W) : ∀ b, D0 b → b < W.heap.size := fun b hb => Nat.lt_of_lt_of_le (h.d0 b hb).1 h.le
theorem Lp.put (h : Lp D0 N B R t key ro Y G ao n cap al cl W) (hb : Below W.heap.size W W') (ho : ObsD (New W W') D0 W' ao' n' cap' Y') (o : Oth B W' W2) (hB : Blk W2 B #[.int .i64 t, .int .u64 key, .int .u64 ro, .slice ao' n' cap'] 25) : Lp D0 N B R t key ro Y' G ao' n' cap' al cl W2 := by
 have h1 := h.next hb
 have hs := o.size
 have hbl := h.bl
 refine ⟨hB, h1.br.other o (by omega), (ho.laterK (fun b q => o.block b (by have := (h.d0 b q).2.1; omega)) (fun b q => o.block b (by have := q.1; have := h.le; omega))).wide (fun b q => q) (fun b q => ⟨by have := q.1; have := h.le; omega, by have := q.2; omega⟩),
  (h1.ct.laterK fun b q => o.block b (by have := q.1; omega)).wide fun b q => ⟨q.1, by have := q.2; omega⟩, by have := h1.le; omega, h.d0, h.bl⟩
end
theorem runref_no {w : World} {t ro : Int} {key : Nat} {ao : Option Addr} {n cap : Nat} {X : List Ob} {d i : Int} (h : Obs w ao n cap X) (hf : fitD t key ro X = true) (hn : n < 1024) (hni : ¬ i ∈ (fO X d).links) : Calls Try.prog 10 #[.agg #[.int .i64 t, .int .u64 (key : Int), .int .u64 ro, .slice ao n cap], .int .u64 d, .int .u64 i] w fun e w' => e = .returned (.tuple #[.agg #[.int .i64 t, .int .u64 (key : Int), .int .u64 ro, .slice ao n cap], .slice none 0 0, .int .i64 1]) ∧ Below w.heap.size w w' := by
 have hT := tre_of hf
 have hla := (tre_lays hT).at d
 have hfi := fun {W : World} (hk : Below w.heap.size w W) => rfind_at (t := t) (ke := (key : Int)) (ro := ro) (i := d) h hk
 have hzG : (Try.prog.info? 25).map (·.size) = some (#[.int .i64 t, .int .u64 (key : Int), .int .u64 ro, .slice ao n cap] : Array Value).size := by kernel_rfl
 have hz2 : (#[.int .i64 t, .int .u64 (key : Int), .int .u64 ro, .slice ao n cap] : Array Value).size = 4 := rfl
 have hs2 : zW.size = (#[.int .i64 t, .int .u64 (key : Int), .int .u64 ro, .slice ao n cap] : Array Value).size := rfl
 have h12 : (#[.int .i64 t, .int .u64 (key : Int), .int .u64 ro, .slice ao n cap] : Array Value).all (·.oneCell') = true := by kernel_rfl
 obtain ⟨G, hG⟩ : ∃ G : Array Value, G = #[.int .i64 t, .int .u64 (key : Int), .int .u64 ro, .slice ao n cap] := ⟨_, rfl⟩
 rw [← hG] at hzG hz2 hs2 h12
 simp only [← hG] at hfi
 rw [← hG]
 clear hG
 have hlw : (wthL (fO X d).links i).length = (fO X d).links.length := wth_len.2 hni
 have hll : (fO X d).links.length ≤ 4000 := hla.2.2.2.2
 obtain ⟨b, hb⟩ : ∃ b, Hid ((fnd X d).isSome = b) := ⟨_, rfl⟩
 simp only [hb.out] at hfi
 generalize fO X d = o at *
 have tk1 : True := trivial
 go_enter Try.func10, Try.ntmps10
 go_upto_region 2 with (first
  | go_skip
  | (with_reducible refine wpList_box rfl 25 _ rfl G rfl ?_; intro B W1 hN1 hB hk)
  | ((with_reducible refine wpList_alloc rfl 25 rfl zW zero43 ?_); intro R W2 hN2 hR hk2; have hRw : Hid (w.heap.size ≤ R ∧ B ≠ R) := (by have := hN2.out; have := hk.size; have := hB.lt; exact ⟨by omega, by omega⟩); replace hB := hB.next hk2; replace hk := hk.trans (hk2.mono hk.size))
  | (with_reducible refine wpList_loadb (by first | kernel_rfl | with_unfolding_all rfl) 25 _ rfl B rfl G hB _ Try.underlying25 (by kernel_rfl) hzG ?_)
  | (go_at_call 16; (with_reducible refine (hfi hk).mono ?_); rintro e w3 ⟨C, rfl, hC, hb3⟩; have hz := hC.size; have h1c := hC.one; replace hC := ob_up hC (hk.trans (hb3.mono hk.size)); replace hB := hB.next hb3; replace hR := hR.next hb3; replace hk := hk.trans (hb3.mono hk.size))
  | ((with_reducible refine wpList_alloc rfl 54 rfl zC zero40 ?_); have hx := hC; intro P W4 hN4 hP hk4; clear hx; have hle4 := hN4.out.1)
  | ((with_reducible refine wpList_store_blk rfl _ _ _ rfl P rfl C rfl zC hP (size40C hz) (zC_size.trans hz.symm) h1c ?_); intro V4 hP4 o4; have k4 := o4.below _ _ (Nat.le_of_eq hle4) hk4; replace hC := hC.next k4; replace hB := hB.next k4; replace hR := hR.next k4; replace hk := hk.trans (k4.mono hk.size); clear k4 o4 hk4 hN4 hle4))
 obtain ⟨a5, n5, k5, c5, l5⟩ := hC.links
 have hn5 : Hid (o.links.length = n5) := l5.1
 have hwt := fun {W : World} (k : Below V4.heap.size V4 W) => rwithout_v (x := i) (ct_up l5 k) (by rw [← hn5.out]; omega)
 rw [hn5.out] at hlw
 simp only [hlw] at hwt
 have hn5c := l5.2.1
 have hn5m := l5.2.2.1.1
 clear hC l5 hfi
 have hk9 : Below V4.heap.size V4 V4 := Below.refl _ _
 cases b with
 | true =>
  go_wp2_with (first
   | go_skip
   | (with_reducible refine wpList_load1 (by first | kernel_rfl | with_unfolding_all rfl) _ _ rfl P 5 rfl _ _ hP4 _ c5 Try.isAgg28 ?_)
   | (go_at_call 27; (with_reducible refine (hwt hk9).mono ?_); rintro e w5 ⟨v, rfl, hown, hb5⟩; obtain ⟨al, cl, rfl, hct⟩ := RowC.of_owns hown; replace hB := hB.next hb5; replace hR := hR.next hb5; replace hP4 := hP4.next hb5; replace hk := hk.trans (hb5.mono hk.size); clear hown hct)
   | (with_reducible refine wpList_loadb (by first | kernel_rfl | with_unfolding_all rfl) 25 _ rfl B rfl G hB _ Try.underlying25 (by kernel_rfl) hzG ?_)
   | ((with_reducible refine wpList_store_blk rfl 25 _ _ rfl R rfl G rfl zW hR hzG hs2 h12 ?_); intro W7 hR7 o7))
  refine bodyPost_ret (res_w3 Try.results10 rfl rfl rfl hR7 hz2) rfl ?_
  exact ⟨rfl, o7.below _ _ hRw.out.1 hk⟩
 | false =>
  go_wp2_with (first
   | go_skip
   | (with_reducible refine wpList_load1 (by first | kernel_rfl | with_unfolding_all rfl) _ _ rfl P 5 rfl _ _ hP4 _ c5 Try.isAgg28 ?_)
   | (go_at_call 27; (with_reducible refine (hwt hk9).mono ?_); rintro e w5 ⟨v, rfl, hown, hb5⟩; obtain ⟨al, cl, rfl, hct⟩ := RowC.of_owns hown; replace hB := hB.next hb5; replace hR := hR.next hb5; replace hP4 := hP4.next hb5; replace hk := hk.trans (hb5.mono hk.size); clear hown hct)
   | (with_reducible refine wpList_loadb (by first | kernel_rfl | with_unfolding_all rfl) 25 _ rfl B rfl G hB _ Try.underlying25 (by kernel_rfl) hzG ?_)
   | ((with_reducible refine wpList_store_blk rfl 25 _ _ rfl R rfl G rfl zW hR hzG hs2 h12 ?_); intro W7 hR7 o7))
  refine bodyPost_ret (res_w3 Try.results10 rfl rfl rfl hR7 hz2) rfl ?_
  exact ⟨rfl, o7.below _ _ hRw.out.1 hk⟩
end Go.Proofs.Ytcmcakandbpjfaa
namespace Go.Proofs.Ytcmcakandbpjfaa
set_option maxRecDepth 100000
set_option maxHeartbeats 8000000
open Go.RowKit Go.Shelf
set_option linter.unusedVariables false
attribute [local go_sem] Oper.semAt_some

theorem runref_yes {w : World} {t ro : Int} {key : Nat} {ao : Option Addr} {n cap : Nat} {X : List Ob} {d i0 : Int} (h : Obs w ao n cap X) (hf : fitD t key ro X = true) (hn : n < 1024) (hin : i0 ∈ (fO X d).links) : Calls Try.prog 10 #[.agg #[.int .i64 t, .int .u64 (key : Int), .int .u64 ro, .slice ao n cap], .int .u64 d, .int .u64 i0] w fun e w' => ∃ ao2 n2 cap2 al cl L, e = .returned (.tuple #[.agg #[.int .i64 t, .int .u64 (key : Int), .int .u64 ro, .slice ao2 n2 cap2], .slice al (L : List Int).length cl, .int .i64 0]) ∧ Hid (Gone X ro (oneP d i0) L) ∧ Obs w' ao2 n2 cap2 (swpX X (oneP d i0) L) ∧ CtD (LtN w') w' al L.length cl L ∧ Below w.heap.size w w' := by
 have hT := tre_of hf
 have hXn : Hid (X.length = n) := h.1
 obtain ⟨r0, hr0, _, _⟩ := hT.rot
 have hro : (fnd X ro).isSome = true := by rw [hr0]; rfl
 obtain ⟨o, ho, eo, hox, hid⟩ := fO_links hin
 have hla := ((tre_lays hT).ris o hox).2
 have hpu := puR_lnk hf hin
 rw [eo] at hpu hin
 rw [← swp_zero X (oneP d i0)] at hpu
 have hwl : (wthL o.links i0).length ≠ o.links.length := fun q => wth_len.1 q hin
 have hwe : wthL o.links i0 = (lnkX (oneP d i0) o).links := wth_one hid
 have hle : (wthL o.links i0).length ≤ o.links.length := List.length_filter_le ..
 have hlk : ({ o with links := wthL o.links i0 } : Ob) = lnkX (oneP d i0) o := by rw [hwe]; rfl
 clear hwe
 obtain ⟨L1, hL1⟩ : ∃ L1, Hid (wthL o.links i0 = L1) := ⟨_, rfl⟩
 rw [hL1.out] at hwl hle hlk
 have hfi := fun {W : World} (hk : Below w.heap.size w W) => rfind_at (t := t) (ke := (key : Int)) (ro := ro) (i := d) h hk
 rw [eo, ho] at hfi
 simp only [Option.isSome_some] at hfi
 have hzG : (Try.prog.info? 25).map (·.size) = some (#[.int .i64 t, .int .u64 (key : Int), .int .u64 ro, .slice ao n cap] : Array Value).size := by kernel_rfl
 have hz2 : ∀ v, (Try.prog.info? 25).map (·.size) = some (#[.int .i64 t, .int .u64 (key : Int), .int .u64 ro, v] : Array Value).size := fun _ => by kernel_rfl
 have hs2 : ∀ v, zW.size = (#[.int .i64 t, .int .u64 (key : Int), .int .u64 ro, v] : Array Value).size := fun _ => rfl
 have h12 : ∀ ao n cap, (#[.int .i64 t, .int .u64 (key : Int), .int .u64 ro, .slice ao n cap] : Array Value).all (·.oneCell') = true := fun _ _ _ => by kernel_rfl
 have hps := fun {W : World} {D0 : Nat → Prop} {C : Array Value} (hD : ∀ b, D0 b → b < W.heap.size) (h : ObsD (LtN W) D0 W ao n cap X) (hx : ObD D0 W C (lnkX (oneP d i0) o)) => rput_d (t := t) (ke := (key : Int)) (ro := ro) hD h hT.srt hn hx
 rw [hpu] at hps
 clear hpu
 have hsg : zW.size = (#[.int .i64 t, .int .u64 (key : Int), .int .u64 ro, .slice ao n cap] : Array Value).size := rfl
 obtain ⟨G, hG⟩ : ∃ G : Array Value, Hid (G = #[.int .i64 t, .int .u64 (key : Int), .int .u64 ro, .slice ao n cap]) := ⟨_, rfl⟩
 rw [← hG.out] at hzG hsg
 simp only [← hG.out] at hfi hps
 rw [← hG.out]
 go_enter Try.func10, Try.ntmps10
 go_upto_region 2 with (first
  | go_skip
  | (with_reducible refine wpList_box rfl 25 _ rfl G rfl ?_; intro B W1 hN1 hB hk)
  | ((with_reducible refine wpList_alloc rfl 25 rfl zW zero43 ?_); intro R W2 hN2 hR hk2; have hRw : Hid (w.heap.size ≤ R ∧ B < R ∧ w.heap.size ≤ B) := (by have := hN2.out; have := hk.size; have := hB.lt; have := hN1.out; exact ⟨by omega, by omega, by omega⟩); replace hB := hB.next hk2; replace hk := hk.trans (hk2.mono hk.size))
  | (with_reducible refine wpList_loadb (by first | kernel_rfl | with_unfolding_all rfl) 25 _ rfl B rfl G hB _ Try.underlying25 (by kernel_rfl) hzG ?_)
  | (go_at_call 16; (with_reducible refine (hfi hk).mono ?_); rintro e w3 ⟨C, rfl, hC, hb3⟩; have hz := hC.size; have h1c := hC.one; replace hB := hB.next hb3; replace hR := hR.next hb3; replace hk := hk.trans (hb3.mono hk.size); replace hC : ObD (LtN w) w C o := hC.laterK fun b q => (hk.block b q).symm)
  | ((with_reducible refine wpList_alloc rfl 54 rfl zC zero40 ?_); intro P W4 hN4 hP hk4; have hRP : Hid (R < P) := (by have := hR.lt; have := hN4.out; show _ < _; omega); have hle4 := hN4.out.1)
  | ((with_reducible refine wpList_store_blk rfl _ _ _ rfl P rfl C rfl zC hP (size40C hz) (zC_size.trans hz.symm) h1c ?_); intro V4 hP4 o4; have k4 := o4.below _ _ (Nat.le_of_eq hle4) hk4; replace hB := hB.next k4; replace hR := hR.next k4; replace hk := hk.trans (k4.mono hk.size); have hPl : Hid (P < V4.heap.size) := hP4.lt; clear k4 o4 hk4 hN4 hle4))
 obtain ⟨a5, n5, k5, c5, l5⟩ := hC.links
 have hn5 : Hid (o.links.length = n5) := l5.1
 have hwt := fun {W : World} (k : Below w.heap.size w W) => rwithout_v (x := i0) (ct_up l5 k) (by rw [← hn5.out]; omega)
 simp only [hL1.out] at hwt
 have hn5c := l5.2.1
 have hn5m := l5.2.2.1.1
 go_upto_region 3 with (first
  | go_skip
  | (with_reducible refine wpList_load1 (by first | kernel_rfl | with_unfolding_all rfl) _ _ rfl P 5 rfl _ _ hP4 _ c5 Try.isAgg28 ?_)
  | (go_at_call 27; (with_reducible refine (hwt hk).mono ?_); rintro e w5 ⟨v, rfl, hown, hb5⟩; obtain ⟨al, cl, rfl, hct⟩ := own_ct hown; replace hB := hB.next hb5; replace hR := hR.next hb5; replace hP4 := hP4.next hb5; replace hk := hk.trans (hb5.mono hk.size); clear hown))
 have hwb : (((L1.length : Nat) : Int) == (n5 : Int)) = false := by
  have := hn5.out
  rw [beq_eq_false_iff_ne]
  omega
 have hcn := hct.2.1
 have hcm := hct.2.2.1.1
 have hb4 : V4.heap.size ≤ w5.heap.size := hb5.size
 have hctV : CtV (fun b => b < w5.heap.size ∧ b ≠ B ∧ b ≠ R ∧ b ≠ P) w5 (some (.slice al L1.length cl)) (L1) := ⟨_, _, _, rfl, hct.wide fun b hb => ⟨hb.2, by have := hRP.out; have := hRw.out; have := hPl.out; have := hb.1; omega, by have := hRP.out; have := hRw.out; have := hPl.out; have := hb.1; omega, by have := hPl.out; have := hb.1; omega⟩⟩
 have hC5 : ObD (fun b => b < w5.heap.size ∧ b ≠ B ∧ b ≠ R ∧ b ≠ P) w5 C o := (hC.laterK fun b q => hk.block b q).wide fun b q => ⟨Nat.lt_of_lt_of_le q hk.size, by have q' : b < w.heap.size := q; have := hRw.out; omega, by have q' : b < w.heap.size := q; have := hRw.out; omega, by have q' : b < w.heap.size := q; have := hRw.out; have := hRP.out; omega⟩
 have hT5 := hC5.set5 hctV rfl
 rw [hlk] at hT5
 obtain ⟨T, e1⟩ : ∃ T, Hid (C.setIfInBounds 5 (.slice al L1.length cl) = T) := ⟨_, rfl⟩
 rw [e1.out] at hT5
 have hzT := hT5.size
 have hX5 : ObsD (LtN w5) (fun b => b < w5.heap.size ∧ b ≠ B ∧ b ≠ R ∧ b ≠ P) w5 ao n cap X := (ObsD.laterK h (fun b hb => hk.block b hb) (fun b hb => hk.block b hb)).wide (fun b q => ⟨Nat.lt_of_lt_of_le q hk.size, by have q' : b < w.heap.size := q; have := hRw.out; omega, by have q' : b < w.heap.size := q; have := hRw.out; omega, by have q' : b < w.heap.size := q; have := hRw.out; have := hRP.out; omega⟩) (fun b q => Nat.lt_of_lt_of_le q hk.size)
 have hPw : Hid (w.heap.size ≤ P) := by have := hRw.out; have := hRP.out; show _ ≤ _; omega
 have hRB : Hid (B < P ∧ B < w5.heap.size ∧ R < w5.heap.size ∧ P < w5.heap.size) := by have := hRw.out; have := hRP.out; have := hPl.out; refine (⟨?_, ?_, ?_, ?_⟩ : _ ∧ _ ∧ _ ∧ _) <;> omega
 clear hfi hwt hctV hct hC5 hwl
 go_upto_region 6 with (first
  | go_skip
  | (with_reducible refine wpList_load1 (by first | kernel_rfl | with_unfolding_all rfl) _ _ rfl P 5 rfl _ _ hP4 _ c5 Try.isAgg28 ?_)
  | ((with_reducible refine wpList_store_cell rfl 28 _ _ rfl P 5 rfl (.slice al L1.length cl) rfl rfl C _ hP4 (by kernel_rfl) (by rw [hz]; decide) rfl ?_); intro W6 hP6 o6; rw [e1.out] at hP6; replace hk := o6.below _ _ hPw.out hk; replace hB := hB.other o6 (by have := hRB.out; omega); replace hR := hR.other o6 (by have := hRP.out; omega)))
 have hs6 := o6.size
 have hX0 : ObsD (fun b => b < w.heap.size) (fun b => b < w.heap.size) W6 ao n cap X := ObsD.laterK h (fun b hb => hk.block b hb) (fun b hb => hk.block b hb)
 have hX6 : ObsD (LtN W6) (fun b => b < W6.heap.size ∧ b ≠ B ∧ b ≠ R ∧ b ≠ P) W6 ao n cap X := hX0.wide (fun b q => ⟨Nat.lt_of_lt_of_le q hk.size, by have := hRw.out; omega, by have := hRw.out; omega, by have := hRw.out; have := hRP.out; omega⟩) (fun b q => Nat.lt_of_lt_of_le q hk.size)
 have hT6 : ObD (fun b => b < W6.heap.size ∧ b ≠ B ∧ b ≠ R ∧ b ≠ P) W6 T (lnkX (oneP d i0) o) := (hT5.laterK fun b hb => o6.block b hb.2.2.2).wide fun b hb => ⟨by rw [hs6]; exact hb.1, hb.2⟩
 have hsG : ∀ v, G.size = (#[.int .i64 t, .int .u64 (key : Int), .int .u64 ro, v] : Array Value).size := fun v => by rw [hG.out]; rfl
 clear hX5 hX0 hT5 hC hb5 hP
 go_upto_region 7 with (first
  | go_skip
  | (with_reducible refine wpList_loadb (by first | kernel_rfl | with_unfolding_all rfl) 25 _ rfl B rfl G hB _ Try.underlying25 (by kernel_rfl) hzG ?_)
  | (with_reducible refine wpList_loadb (by first | kernel_rfl | with_unfolding_all rfl) 54 _ rfl P rfl T hP6 _ Try.underlying54 (by kernel_rfl) (size40C hzT) ?_)
  | (go_at_call 28; (with_reducible refine (hps (fun b hb => hb.1) hX6 hT6).mono ?_); rintro e w7 ⟨ao2, n2, cap2, rfl, hO, hb7⟩; replace hB := hB.next hb7; replace hR := hR.next hb7; replace hk := hk.trans (hb7.mono hk.size))
  | ((with_reducible refine wpList_store_blk rfl 25 _ _ rfl B rfl _ rfl G hB (hz2 _) (hsG _) (h12 _ _ _) ?_); intro W8 hB8 o8))
 have hs8 := o8.size
 have hb7s := hb7.size
 have hk8 : Below w.heap.size w W8 := o8.below _ _ (by have := hRw.out; omega) hk
 have hLp : Lp (fun b => b < W6.heap.size ∧ b ≠ B ∧ b ≠ R ∧ b ≠ P) W6.heap.size B R t (key : Int) ro (swpX X (oneP d i0) []) [] ao2 n2 cap2 none 0 W8 := by
  have hbb := hRB.out
  have hrw := hRw.out
  refine ⟨hB8, hR.other o8 (by omega), (hO.laterK (fun b q => o8.block b q.2.1) (fun b q => o8.block b (by have := q.1; omega))).wide (fun b q => q) (fun b q => ⟨q.1, by have := q.2; omega⟩), ⟨rfl, Nat.le_refl _, ⟨by decide, fun _ => rfl⟩, fun q => absurd q (by decide)⟩, by omega, fun b q => ⟨q.1, q.2.1, q.2.2.1⟩, by omega, by omega, by omega⟩
 have hn2 : (swpX X (oneP d i0) []).length = n2 := hO.1
 have hn2c := hO.2.1
 have hn2m := hO.2.2.1.1
 have hXn2 : X.length = n2 := by rw [← hn2, swp_zero, List.length_map]
 have hRw8 := hRw.out
 have hRB9 := hRw8.2.2
 clear hO hB hR hb7 o8 hB8 hk hps hX6 hT6 hzG hsg hP6 o6 hsG
 go_wp2_with (first
  | go_skip
  | (with_reducible refine wpList_load1 (by first | kernel_rfl | with_unfolding_all rfl) _ _ rfl B 3 rfl _ _ hLp.bw _ rfl Try.isAgg23 ?_))
 obtain ⟨D1, hD1⟩ : ∃ D1 : Nat → Prop, D1 = fun b => b < W6.heap.size ∧ b ≠ B ∧ b ≠ R ∧ b ≠ P := ⟨_, rfl⟩
 rw [← hD1] at hLp
 clear hD1
 obtain ⟨N, hN⟩ : ∃ N, W6.heap.size = N := ⟨_, rfl⟩
 rw [hN] at hLp
 go_loopw [12, 14] (fun g i wr => ∃ (k : Nat) (G : List Int) (ao2 : Option Addr) (n2 cap2 : Nat) (al : Option Addr) (cl : Nat), i = .int .i64 k ∧ g = .slice al G.length cl ∧ Hid (Goi X ro (oneP d i0) G ∧ G.length = k) ∧ Lp D1 N B R t (key : Int) ro (swpX X (oneP d i0) G) G ao2 n2 cap2 al cl wr ∧ Below w.heap.size w wr) (fun _ i _ => n2 - (intOf i).toNat)
 case atStart => exact ⟨0, [], ao2, n2, cap2, none, 0, rfl, rfl, ⟨goi_nil, rfl⟩, hLp, hk8⟩
 case round =>
  clear hLp hk8
  obtain ⟨k, G1, ao3, n3, cap3, al1, cl1, rfl, rfl, hg, hLp, hk⟩ := hrel
  have hgi := hg.out.1
  have hgl := goi_len hT.srt hro hgi
  have hkn' : (k : Int) < n2 := by have := hg.out.2; omega
  have hn3 : (swpX X (oneP d i0) G1).length = n3 := hLp.ob.1
  have hle3 := swp_len X (oneP d i0) G1
  have hobs := hLp.obs
  have hal := fun {W : World} (k : Below wr.heap.size wr W) => ralone_v (t := t) (ke := (key : Int)) (ro := ro) (obs_next hobs k) (by have := hXn.out; omega)
  have h3c := hLp.ob.2.1
  have h3m := hLp.ob.2.2.1.1
  have hzV : (Try.prog.info? 25).map (·.size) = some (#[.int .i64 t, .int .u64 (key : Int), .int .u64 ro, .slice ao3 n3 cap3] : Array Value).size := hz2 _
  have hk0 : Below wr.heap.size wr wr := Below.refl _ _
  cases hA : aloL (swpX X (oneP d i0) G1) ro with
  | none =>
   have hgo := goi_end hT.srt hgi hA
   simp only [hA, Option.map_none, Option.getD_none, Option.isSome_none] at hal
   go_wp2_with (first
    | go_skip
    | (with_reducible refine wpList_loadb (by first | kernel_rfl | with_unfolding_all rfl) 25 _ rfl B rfl _ hLp.bw _ Try.underlying25 (by kernel_rfl) hzV ?_)
    | (go_at_call 29; (with_reducible refine (hal hk0).mono ?_); rintro e w9 ⟨rfl, hb9⟩; replace hLp := hLp.next hb9; replace hk := hk.trans (hb9.mono hk.size))
    | ((with_reducible refine wpList_store_blk rfl 25 _ _ rfl R rfl _ rfl zW hLp.br (hz2 _) (hs2 _) (h12 _ _ _) ?_); intro W10 hR10 o10))
   refine bodyPost_ret (res_w3 Try.results10 rfl rfl rfl hR10 rfl) rfl ?_
   have hs10 := o10.size
   have hle9 := hLp.le
   have hbl9 := hLp.bl
   refine ⟨ao3, n3, cap3, al1, cl1, G1, rfl, hgo, ?_, ?_, o10.below _ _ hRw8.1 hk⟩
   ·exact (hLp.ob.laterK (w' := W10) (fun b q => o10.block b (hLp.d0 b q).2.2) (fun b q => o10.block b (by have := q.1; omega))).wide (fun b q => by have := (hLp.d0 b q).1; show b < _; omega) (fun b q => by have := q.2; show b < _; omega)
   ·exact (hLp.ct.laterK (w' := W10) fun b q => o10.block b (by have := q.1; omega)).wide fun b q => by have := q.2; show b < _; omega
  | some y =>
   have hgs := goi_step hT.srt hgi hA
   have hdr := fun {W : World} (h : Lp D1 N B R t (key : Int) ro (swpX X (oneP d i0) G1) G1 ao3 n3 cap3 al1 cl1 W) => rdrop_d (t := t) (ke := (key : Int)) (ro := ro) (i := y.id) h.dlt h.obsD (swp_srt hT.srt) (by have := hXn.out; omega)
   rw [swp_drp hT.srt] at hdr
   have hir := fun {W : World} {Y : List Ob} {ao n cap} (h : Lp D1 N B R t (key : Int) ro Y G1 ao n cap al1 cl1 W) => rinsert_v (x := y.id) (h.ct.wide fun b q => q.2) hgi.rise (by have := hXn.out; omega)
   have hil : Hid ((insW G1 y.id).length = G1.length + 1) := ins_len G1 y.id
   have h1c := hLp.ct.2.1
   have h1m := hLp.ct.2.2.1.1
   simp only [hA, Option.map_some, Option.getD_some, Option.isSome_some] at hal
   generalize y.id = yi at *
   have hs4 : ∀ u v, (#[.int .i64 t, .int .u64 (key : Int), .int .u64 ro, u] : Array Value).size = (#[.int .i64 t, .int .u64 (key : Int), .int .u64 ro, v] : Array Value).size := fun _ _ => rfl
   clear hA
   go_wp2_with (first
    | go_skip
    | (with_reducible refine wpList_loadb (by first | kernel_rfl | with_unfolding_all rfl) 25 _ rfl B rfl _ hLp.bw _ Try.underlying25 (by kernel_rfl) hzV ?_)
    | (go_at_call 29; (with_reducible refine (hal hk0).mono ?_); rintro e w9 ⟨rfl, hb9⟩; replace hLp := hLp.next hb9; replace hk := hk.trans (hb9.mono hk.size))
    | (go_at_call 30; (with_reducible refine (hdr hLp).mono ?_); rintro e w10 ⟨ao4, n4, cap4, rfl, hO, hb10⟩; have hB10 := hLp.bw.next hb10; replace hk := hk.trans (hb10.mono hk.size))
    | ((with_reducible refine wpList_store_blk rfl 25 _ _ rfl B rfl _ rfl _ hB10 (hz2 _) (hs4 _ _) (h12 _ _ _) ?_); intro W11 hB11 o11; replace hLp := hLp.put hb10 hO o11 hB11; replace hk := o11.below _ _ hRB9 hk)
    | (go_at_call 31; (with_reducible refine (hir hLp).mono ?_); rintro e w12 ⟨v, rfl, hown, hb12⟩; obtain ⟨al4, cl4, rfl, hct⟩ := own_ct hown; have hle11 := hLp.le; replace hLp := hLp.next hb12; replace hk := hk.trans (hb12.mono hk.size)))
   go_roundw
   case rel => exact ⟨k + 1, insW G1 yi, ao4, n4, cap4, al4, cl4, by go_num, rfl, ⟨hgs, by rw [hil.out, hg.out.2]⟩, ⟨hLp.bw, hLp.br, hLp.ob, hct.wide fun b q => ⟨Nat.le_trans hle11 q.1, q.2⟩, hLp.le, hLp.d0, hLp.bl⟩, hk⟩
   case measure => simp [intOf]; omega
end Go.Proofs.Ytcmcakandbpjfaa
namespace Go.Proofs.Ytcmcakandbpjfaa
set_option maxRecDepth 100000
set_option maxHeartbeats 8000000
open Go.RowKit Go.Shelf
set_option linter.unusedVariables false
attribute [local go_sem] Oper.semAt_some

def few15P (t : Int) (key : Nat) (ro : Int) (l : List Ob) : Prop := (l.length ≤ 20 ∧ ∀ i, i < l.length → fewO (oat l i)) ∧ fitD t key ro l = true
theorem few15_any {w : World} {t ro : Int} {key : Nat} {ao : Option Addr} {n cap : Nat} {X : List Ob} (h : Obs w ao n cap X) (hw : ∀ x ∈ X, WdO x) : Asks 7 #[.agg #[.int .i64 t, .int .u64 (key : Int), .int .u64 ro, .slice ao n cap]] (few15P t key ro X) w := by
  have hn : Hid (X.length = n) := h.1
  have hnc := h.2.1
  have hcm := h.2.2.1.1
  have hft := fun (W : World) (hk : Below w.heap.size w W) => rtfit_w (t := t) (ro := ro) (key := key) (obs_next h hk) (fun hf x hx => sound_small0 ((fit_mem hf).2.1 x hx)) hw
  have hzg : (Try.prog.info? 25).map (·.size) = some (#[.int .i64 t, .int .u64 (key : Int), .int .u64 ro, .slice ao n cap] : Array Value).size := by kernel_rfl
  have c3 : (#[.int .i64 t, .int .u64 (key : Int), .int .u64 ro, .slice ao n cap] : Array Value)[3]? = some (.slice ao n cap) := rfl
  obtain ⟨D, hD⟩ : ∃ D : Array Value, D = #[.int .i64 t, .int .u64 (key : Int), .int .u64 ro, .slice ao n cap] := ⟨_, rfl⟩
  rw [← hD] at hft hzg c3
  rw [← hD]
  clear hD
  obtain ⟨fb, hfb⟩ : ∃ fb, Hid (fitD t key ro X = fb) := ⟨_, rfl⟩
  rw [hfb.out] at hft
  have ga3 := Try.isAgg23
  unfold Asks
  by_cases h20 : n ≤ 20
  · have h20' : ¬ (20 : Int) < n := by omega
    go_enter Try.func7, Try.ntmps7
    go_wp2_with (first
      | (with_reducible refine wpList_box rfl 25 _ rfl D rfl ?_; intro B W0 hN0 hB kw)
      | (with_reducible refine wpList_load1 (by kernel_rfl) _ _ rfl B _ rfl _ _ hB _ c3 ga3 ?_))
    go_loopw [12] (fun i wr => ∃ k : Nat, k ≤ n ∧ i = .int .i64 k ∧ Hid (∀ j, j < k → fewO (oat X j)) ∧ Blk wr B D 25 ∧ Below w.heap.size w wr) (fun i _ => n - (intOf i).toNat)
    case atStart => exact ⟨0, Nat.zero_le _, rfl, fun j hj => absurd hj (by omega), hB, kw⟩
    case round =>
      clear hB kw
      obtain ⟨k, hk, rfl, hal, hB, hb⟩ := hrel
      have hbs := hb.size
      by_cases hkn : k < n
      · obtain ⟨b, off, C, rfl, hbb, hC, hr⟩ := obs_at (obs_next h hb) hkn
        have hkn' : (k : Int) < n := by omega
        have hz := hC.size
        obtain ⟨a2, n2, q2, c2, l2⟩ := hC.label
        obtain ⟨a5, n5, q5, c5, l5⟩ := hC.links
        obtain ⟨a6, n6, q6, c6, l6⟩ := hC.data
        obtain ⟨a7, n7, q7, c7, l7⟩ := hC.maps
        have m2 : Hid ((oat X k).label.length = n2) := l2.1
        have m5 : Hid ((oat X k).links.length = n5) := l5.1
        have m6 : Hid ((oat X k).data.length = n6) := l6.1
        have m7 : Hid ((oat X k).maps.length = n7) := l7.1
        have hone := hC.one
        clear l2 l5 l6 l7 hC hft
        go_wp2_with (first
          | (with_reducible refine wpList_loadm (by kernel_rfl) 54 _ rfl b _ rfl C hr _ Try.underlying54 (by kernel_rfl) (size40C hz) ?_)
          | ((with_reducible refine wpList_alloc rfl _ rfl zC zero40 ?_); intro R W1 hB1 hR1 hk1)
          | ((with_reducible refine wpList_store_blk rfl _ _ _ rfl R rfl C rfl zC hR1 (size40C hz) (zC_size.trans hz.symm) hone ?_); intro W2 hR2 o2; have k2 := o2.below wr.heap.size wr (by have := hB1.out.1; omega) hk1; have k3 := hb.trans (k2.mono hbs); have hB2 := hB.next k2)
          | (with_reducible refine wpList_load1 (by first | kernel_rfl | with_unfolding_all rfl) _ _ rfl R _ rfl _ _ hR2 _ c2 Try.isAgg39 ?_)
          | (with_reducible refine wpList_load1 (by first | kernel_rfl | with_unfolding_all rfl) _ _ rfl R _ rfl _ _ hR2 _ c5 Try.isAgg28 ?_)
          | (with_reducible refine wpList_load1 (by first | kernel_rfl | with_unfolding_all rfl) _ _ rfl R _ rfl _ _ hR2 _ c6 Try.isAgg28 ?_)
          | (with_reducible refine wpList_load1 (by first | kernel_rfl | with_unfolding_all rfl) _ _ rfl R _ rfl _ _ hR2 _ c7 Try.isAgg40 ?_)
          | ((with_reducible refine wpList_test (by first | kernel_rfl | with_unfolding_all rfl) .gtr 3 _ _ _ rfl (.int .i64 (n2 : Int)) _ rfl rfl (tgt_int _ _ _ _ _ _) ?_ ?_) <;> intro e2)
          | ((with_reducible refine wpList_test (by first | kernel_rfl | with_unfolding_all rfl) .gtr 3 _ _ _ rfl (.int .i64 (n5 : Int)) _ rfl rfl (tgt_int _ _ _ _ _ _) ?_ ?_) <;> intro e5)
          | ((with_reducible refine wpList_test (by first | kernel_rfl | with_unfolding_all rfl) .gtr 3 _ _ _ rfl (.int .i64 (n6 : Int)) _ rfl rfl (tgt_int _ _ _ _ _ _) ?_ ?_) <;> intro e6)
          | ((with_reducible refine wpList_test (by first | kernel_rfl | with_unfolding_all rfl) .gtr 3 _ _ _ rfl (.int .i64 (n7 : Int)) _ rfl rfl (tgt_int _ _ _ _ _ _) ?_ ?_) <;> intro e7))
        all_goals first
          | (go_ret
             refine askP_no (Y := fewO (oat X k)) ?_ k3 (fun e => e.1.2 k (by rw [hn.out]; exact hkn))
             refine (?_ : ¬ fewO (oat X k))
             rintro ⟨f2, f5, f6, f7⟩
             rw [m2.out] at f2
             rw [m5.out] at f5
             rw [m6.out] at f6
             rw [m7.out] at f7
             simp only [Hid] at *
             omega)
          | (go_roundw
             case rel => exact ⟨k + 1, by omega, by go_num, fn_succ hal.out (by refine ⟨?_, ?_, ?_, ?_⟩ <;> first | (rw [m2.out]; have := e2.out; omega) | (rw [m5.out]; have := e5.out; omega) | (rw [m6.out]; have := e6.out; omega) | (rw [m7.out]; have := e7.out; omega)), hB2, k3⟩
             case measure => simp [intOf]; omega)
      · obtain rfl : k = n := by omega
        go_wp2_with (first
          | (with_reducible refine wpList_loadb (by kernel_rfl) 25 _ rfl B rfl D hB _ Try.underlying25 (by kernel_rfl) hzg ?_)
          | (go_at_call 15; (with_reducible refine (hft _ hb).mono ?_); rintro e w2 ⟨rfl, hb2⟩))
        go_ret
        refine ⟨fb, rfl, ⟨fun e => ⟨⟨by rw [hn.out]; exact h20, fun i hi => hal.out i (by rw [hn.out] at hi; exact hi)⟩, by rw [hfb.out]; exact e⟩, fun e => hfb.out.symm.trans e.2⟩, hb.trans (hb2.mono hb.size)⟩
  · have h20' : (20 : Int) < n := by omega
    have hq : Hid (¬ n ≤ 20) := h20
    go_enter Try.func7, Try.ntmps7
    go_wp2_with (first
      | (with_reducible refine wpList_box rfl 25 _ rfl D rfl ?_; intro B W0 hN0 hB kw)
      | (with_reducible refine wpList_load1 (by kernel_rfl) _ _ rfl B _ rfl _ _ hB _ c3 ga3 ?_))
    go_ret
    exact askP_no hq kw (fun e => by have := e.1.1; rw [hn.out] at this; exact this)
end Go.Proofs.Ytcmcakandbpjfaa
namespace Go.Proofs.Ytcmcakandbpjfaa
set_option maxRecDepth 100000
set_option maxHeartbeats 8000000
open Go.RowKit Go.Shelf
set_option linter.unusedVariables false
attribute [local go_sem] Oper.semAt_some

theorem unref_yes {w : World} {t ro : Int} {key : Nat} {ao : Option Addr} {n cap : Nat} {X : List Ob} {d i : Int} (h : Obs w ao n cap X) (hf : fitD t key ro X = true) (hn : n < 1024) (hin : i ∈ (fO X d).links) : Calls Try.prog 9 #[.agg #[.int .i64 t, .int .u64 (key : Int), .int .u64 ro, .slice ao n cap], .int .u64 d, .int .u64 i] w fun e w' => ∃ ao2 n2 cap2 v L, e = .returned (.tuple #[.agg #[.int .i64 t, .int .u64 (key : Int), .int .u64 ro, .slice ao2 n2 cap2], v, .int .i64 0]) ∧ Hid (Gone X ro (oneP d i) L) ∧ Obs w' ao2 n2 cap2 (swpX X (oneP d i) L) ∧ w'.ownsRow w.heap.size 22 1 v L.length (wordsC L) ∧ Below w.heap.size w w' := by
  have hT := tre_of hf
  have hXn : Hid (X.length = n) := h.1
  have hsm : Smalls X := fun x hx => sound_small0 (hT.snd x hx)
  have hpl := fun {W : World} (hk : Below w.heap.size w W) => place_v (t := t) (ke := (key : Int)) (ro := ro) (d := d) (i := i) (obs_next h hk) hT.srt (by omega) hsm
  have hls := fun {W : World} (hk : Below w.heap.size w W) => lost_v (t := t) (key := key) (ro := ro) (d := d) (i := i) (obs_next h hk) hf (by omega) hsm
  have hzG : (Try.prog.info? 25).map (·.size) = some (#[.int .i64 t, .int .u64 (key : Int), .int .u64 ro, .slice ao n cap] : Array Value).size := by kernel_rfl
  have ga4 := Try.isAgg28
  obtain ⟨o, ho, eo, hox, hid⟩ := fO_links hin
  have hso := hT.snd o hox
  have hkd : o.kind = 2 := links_cont hT hox (by rw [eo] at hin; exact hin)
  have hct := cn_of hso hkd
  have hnx : Small (lnkX (oneP d i) (fO X d)) := sound_small0 (lnk_sound _ (by rw [eo]; exact hso))
  have hpu := puR_lnk hf hin
  have her := fun (r : Nat) (h1 : r < (fO X d).links.length) (h2 : (fO X d).links.getD r 0 = i) => lnk_erase hf hin h1 h2
  obtain ⟨G, hG⟩ : ∃ G : Array Value, Hid (G = #[.int .i64 t, .int .u64 (key : Int), .int .u64 ro, .slice ao n cap]) := ⟨_, rfl⟩
  rw [← hG.out] at hzG hpl hls
  rw [← hG.out]
  rw [eo] at hpl her hnx hpu
  have tk1 : True := trivial
  go_enter Try.func9, Try.ntmps9
  go_upto_region 2 with (first
    | go_skip
    | (with_reducible refine wpList_box rfl 25 _ rfl G rfl ?_; intro B W1 hN1 hB hk)
    | ((with_reducible refine wpList_alloc rfl 25 rfl zW zero43 ?_); intro R W2 hN2 hR hk2; have hRw : Hid (w.heap.size ≤ R ∧ B < R ∧ w.heap.size ≤ B) := (by have := hN2.out; have := hk.size; have := hB.lt; have := hN1.out; exact ⟨by omega, by omega, by omega⟩); replace hB := hB.next hk2; replace hk := hk.trans (hk2.mono hk.size))
    | (with_reducible refine wpList_loadb (by first | kernel_rfl | with_unfolding_all rfl) 25 _ rfl B rfl G hB _ Try.underlying25 (by kernel_rfl) hzG ?_)
    | (go_at_call 20; (with_reducible refine (hpl hk).mono ?_); rintro e w3 ⟨C, r, rfl, hC, hr, hb3, M, hM2, ⟨am, nm, cm, e5, hM5⟩, hMw⟩; have hRl : Hid (R < w3.heap.size ∧ B < w3.heap.size ∧ R < M) := ⟨Nat.lt_of_lt_of_le hR.lt hb3.size, Nat.lt_of_lt_of_le hB.lt hb3.size, Nat.lt_of_lt_of_le hR.lt hMw⟩; have hRn : Hid (∀ b, New _ w3 b → R < b ∧ b < w3.heap.size) := fun b hb => ⟨Nat.lt_of_lt_of_le hR.lt hb.1, hb.2⟩; replace hB := hB.next hb3; replace hR := hR.next hb3; replace hk := hk.trans (hb3.mono hk.size))
    | ((with_reducible refine wpList_alloc rfl 54 rfl zC zero40 ?_); intro P W4 hN4 hP hk4; have hPl : Hid (w3.heap.size = P) := hN4.out.1; replace hB := hB.next hk4; replace hR := hR.next hk4; replace hk := hk.trans (hk4.mono hk.size))
    | ((with_reducible refine wpList_store_blk rfl _ _ _ rfl P rfl C rfl zC hP (size40C hC.size) (zC_size.trans hC.size.symm) hC.one ?_); intro W5 hP5 o5; replace hB := hB.other o5 (by have := hPl.out; have := hRl.out; omega); replace hR := hR.other o5 (by have := hPl.out; have := hRl.out; omega); replace hk := o5.below _ _ (by have := hRw.out; have := hPl.out; have := hRl.out; omega) hk))
  obtain ⟨rn, hrn⟩ : ∃ rn : Nat, Hid (r = rn) := ⟨r.toNat, by
    have h1 := hr.out.1.2 (by rw [← eo]; exact hin)
    show r = _
    omega⟩
  obtain rfl := hrn.out
  have hrr := hr.out.2.2 (by omega)
  rw [Int.toNat_natCast] at hrr
  obtain ⟨hl1, ⟨_, h0⟩ | ⟨g, c, cur, q, hMg, hg, hnc, hcm, hcs, htk⟩⟩ := hM5
  · exfalso
    have := hrr.1
    have h9 : (wordsC o.links).length = o.links.length := by simp [wordsC]
    omega
  cases q
  have hll : o.links.length = nm := by have : (wordsC o.links).length = o.links.length := by simp [wordsC]
                                       omega
  have hr64 : rn < 64 := by
    have h9 := ((own2 hkd).1 (sound_iff.1 hso).2.1).1
    omega
  have hcell : ∀ j, j < nm → cur[j]? = some (.int .u64 (o.links.getD j 0)) := fun j hj => by
    have h9 : (cur.toList.take (nm * 1))[j]? = (wordsC o.links)[j]? := by rw [htk]
    rw [List.getElem?_take, if_pos (by omega)] at h9
    rw [← Array.getElem?_toList, h9]
    unfold wordsC
    rw [List.getElem?_map, List.getElem?_eq_getElem (by omega), List.getD_eq_getElem?_getD, List.getElem?_eq_getElem (by omega)]
    rfl
  have hg3 : Blk w3 g cur 22 := hg
  have hgP : g < P := by have := hg3.lt; have := hPl.out; omega
  have hg5 : Blk W5 g cur 22 := (hg3.next hk4).other o5 (by omega)
  have hdel := delete_v hg5 (by omega) hll hnc (by unfold maxLen at hcm; omega) hcell (show rn < nm by omega)
  have hgB : Hid (g ≠ B ∧ g ≠ R ∧ g ≠ P ∧ w.heap.size ≤ g) := ⟨by have := hRw.out; have := hRl.out; omega, by have := hRl.out; omega, by omega, by have := hRw.out; have := hRl.out; omega⟩
  have hPg : Hid (w.heap.size ≤ P ∧ P ≠ B ∧ P ≠ R) := ⟨by have := hRw.out; have := hRl.out; have := hPl.out; omega, by have := hRl.out; have := hPl.out; omega, by have := hRl.out; have := hPl.out; omega⟩
  have hnl : ¬ ((rn : Int) < 0) := by omega
  clear hr hg hg3 hcell
  go_upto_region 6 with (first
    | go_skip
    | (with_reducible refine wpList_load1 (by first | kernel_rfl | with_unfolding_all rfl) _ _ rfl P _ rfl _ _ hP5 _ e5 ga4 ?_)
    | (go_at_call 22; (with_reducible refine hdel.mono ?_); rintro e w6 ⟨rfl, ⟨cur6, hg6, hz6, hc6⟩, o6⟩; have hB6 := hB.other o6 hgB.out.1.symm; have hR6 := hR.other o6 hgB.out.2.1.symm; have hP6 := hP5.other o6 hgB.out.2.2.1.symm; have hk6 := o6.below _ _ hgB.out.2.2.2 hk)
    | ((with_reducible refine wpList_store_cell rfl 28 _ _ rfl P 5 rfl (.slice (some ⟨g, 0, none⟩) (nm - 1) cm) rfl rfl C 54 hP6 (by kernel_rfl) (by rw [hC.size]; decide) rfl ?_); intro W7 hP7 o7; have hB7 := hB6.other o7 hPg.out.2.1.symm; have hR7 := hR6.other o7 hPg.out.2.2.symm; have hg7 := hg6.other o7 hgB.out.2.2.1; have hk7 := o7.below _ _ hPg.out.1 hk6)
    | (with_reducible refine wpList_loadb (by first | kernel_rfl | with_unfolding_all rfl) 25 _ rfl B rfl G hB7 _ Try.underlying25 (by kernel_rfl) hzG ?_)
    | (go_at_call 13; (with_reducible refine (hls hk7).mono ?_); rintro e w8 ⟨v, L, rfl, hL, hown, hb8⟩; have hvc : Hid (v.cells = #[v] ∧ v.oneCell' = true) := (by rcases hown.2 with ⟨q, _⟩ | ⟨_, _, _, q, _⟩ <;> subst q <;> exact ⟨rfl, rfl⟩); have hWg : Hid (w3.heap.size ≤ W7.heap.size) := (by have h1 := hk4.size; have h2 := o5.size; have h3 := o6.size; have h4 := o7.size; have h5 := hPl.out; have h6 := hN4.out; show _ ≤ _; omega))
    | ((with_reducible refine wpList_alloc1 rfl 28 rfl (.slice none 0 0) Try.zeroValue28 rfl ?_); intro Q W9 hN9 hQ9 hk9)
    | ((with_reducible refine wpList_store_cell rfl 28 _ _ rfl Q 0 rfl v rfl hvc.out.1 #[.slice none 0 0] 28 hQ9 (by kernel_rfl) (by decide) hvc.out.2 ?_); intro V hQV oV)
    | fail)
  have hQl : Hid (w8.heap.size = Q) := hN9.out.1
  have h8 := hb8.size
  have h9 := hk9.size
  have h7 := hWg.out
  have hPQ := hPl.out
  have hP7l := hP7.lt
  have hRl' := hRl.out
  have hRw' := hRw.out
  have hgB' := hgB.out
  have hPg' := hPg.out
  have hQ' := hQl.out
  have hkV : Below w.heap.size w V := oV.below _ _ (by have := hk7.size; omega) (hk7.trans ((hb8.trans (hk9.mono hb8.size)).mono hk7.size))
  have hk7V : Below W7.heap.size W7 V := oV.below _ _ (by omega) (hb8.trans (hk9.mono hb8.size))
  have hk8V : Below w8.heap.size w8 V := oV.below _ _ (by omega) hk9
  have hBV := hB7.next hk7V
  have hRV := hR7.next hk7V
  have hPV := hP7.next hk7V
  have hgV := hg7.next hk7V
  have hold : ∀ b, b < w3.heap.size → b ≠ g → V.heap[b]? = w3.heap[b]? := fun b hb hne => (hk7V.block b (by omega)).trans ((o7.block b (by omega)).trans ((o6.block b hne).trans ((o5.block b (by omega)).trans (hk4.block b hb))))
  have hVs : Hid (W7.heap.size ≤ V.heap.size) := hk7V.size
  have hVs' := hVs.out
  have hlx : lnkX (oneP d i) o = ctO o.id o.label o.quota o.fixed (o.links.eraseIdx rn) := by
    have e : ∀ K, ({ o with links := K } : Ob) = ctO o.id o.label o.quota o.fixed K := fun K => congrArg (fun z : Ob => { z with links := K }) hct
    have h1 := her rn hrr.1 hrr.2
    have h2 : lnkX (oneP d i) o = { o with links := (lnkX (oneP d i) o).links } := rfl
    rw [h2, h1]
    exact e _
  have hCo := hC
  rw [hct] at hCo
  have hC9 : ObD (fun b => b < V.heap.size ∧ b ≠ B ∧ b ≠ R ∧ b ≠ P ∧ b ≠ Q) V (C.setIfInBounds 5 (.slice (some ⟨g, 0, none⟩) (nm - 1) cm)) (lnkX (oneP d i) o) := by
    rw [hlx]
    refine hCo.cont ((LbV.laterK hM2 fun b hb => hold b (hRn.out b hb.1).2 (by have := hb.2; omega)).wide fun b hb => ?_) ⟨_, _, _, rfl, by rw [List.length_eraseIdx_of_lt hrr.1, hll], by omega, ⟨by unfold maxLen at hcm; omega, fun e => by cases e⟩, fun hn => ⟨g, 0, rfl, ⟨hgV.lt, by omega, by omega, by omega, by omega⟩, fun j hj => by rw [Nat.zero_add, hgV.cell]; exact hc6 j hj⟩⟩ rfl
    have h1 := hRn.out b hb.1
    exact ⟨by omega, by omega, by omega, by omega, by omega⟩
  have hX9 : ObsD (LtN V) (fun b => b < V.heap.size ∧ b ≠ B ∧ b ≠ R ∧ b ≠ P ∧ b ≠ Q) V ao n cap X := (ObsD.laterK h (fun b hb => hkV.block b hb) (fun b hb => hkV.block b hb)).wide (fun b (hb : b < w.heap.size) => ⟨by omega, by omega, by omega, by omega, by omega⟩) (fun b (hb : b < w.heap.size) => by show b < _; omega)
  have hput := put_own (t := t) (ke := (key : Int)) (ro := ro) (fun b hb => hb.1) hX9 hT.srt hn hsm hC9 hnx
  rw [← hG.out, hpu] at hput
  obtain ⟨al, cl, rfl, _⟩ := RowC.of_owns hown
  have hct8 := ct_owns hown
  have hG4 : zW.size = G.size := by rw [hG.out]; rfl
  have hz2 : ∀ ao n cap, (Try.prog.info? 25).map (·.size) = some (#[.int .i64 t, .int .u64 (key : Int), .int .u64 ro, .slice ao n cap] : Array Value).size := fun _ _ _ => by kernel_rfl
  have h12 : ∀ ao n cap, (#[.int .i64 t, .int .u64 (key : Int), .int .u64 ro, .slice ao n cap] : Array Value).all (·.oneCell') = true := fun _ _ _ => by kernel_rfl
  have hG5 : ∀ ao3 n3 cap3, G.size = (#[.int .i64 t, .int .u64 (key : Int), .int .u64 ro, .slice ao3 n3 cap3] : Array Value).size := fun _ _ _ => by rw [hG.out]; rfl
  have h34 : ∀ ao3 n3 cap3, 3 < (#[.int .i64 t, .int .u64 (key : Int), .int .u64 ro, .slice ao3 n3 cap3] : Array Value).size := fun _ _ _ => by show 3 < 4; decide
  have ga3 := Try.isAgg23
  have hz5 := hC9.size
  have hQV' : Blk V Q #[.slice al L.length cl] 28 := hQV
  have hBF : ¬ ((B < V.heap.size ∧ B ≠ B ∧ B ≠ R ∧ B ≠ P ∧ B ≠ Q) ∨ V.heap.size ≤ B) := by omega
  have hRF : ¬ ((R < V.heap.size ∧ R ≠ B ∧ R ≠ R ∧ R ≠ P ∧ R ≠ Q) ∨ V.heap.size ≤ R) := by omega
  have hQlt := hQV'.lt
  have hLn := hL.out.2.2
  have hLr := (hL.out.1 hin).rise
  go_upto_region 8 with (first
    | go_skip
    | (with_reducible refine wpList_loadb (by first | kernel_rfl | with_unfolding_all rfl) 25 _ rfl B rfl G hBV _ Try.underlying25 (by kernel_rfl) hzG ?_)
    | (with_reducible refine wpList_loadb (by first | kernel_rfl | with_unfolding_all rfl) 54 _ rfl P rfl _ hPV _ Try.underlying54 (by kernel_rfl) (size40C hz5) ?_)
    | (go_at_call 23; (with_reducible refine hput.mono ?_); rintro e w11 ⟨ao3, n3, cap3, rfl, hO, hb11⟩; have hB11 := hBV.next hb11; have hR11 := hRV.next hb11; have hQ11 := hQV'.next hb11; have hk11 := hkV.trans (hb11.mono hkV.size); have hn3 := hO.obs.1; rw [List.length_map] at hn3)
    | ((with_reducible refine wpList_store_blk rfl 25 _ _ rfl B rfl #[.int .i64 t, .int .u64 (key : Int), .int .u64 ro, .slice ao3 n3 cap3] rfl G hB11 (hz2 _ _ _) (hG5 _ _ _) (h12 _ _ _) ?_); intro W12 hB12 o12; have hO12 := hO.to o12 (by omega) hBF; have hR12 := hR11.other o12 (by omega); have hQ12 := hQ11.other o12 (by omega); have hk12 := o12.below _ _ (by omega) hk11; have hV12 : V.heap.size ≤ W12.heap.size := (by rw [o12.size]; exact hb11.size); have hct12 := (CtD.laterK hct8 (w' := W12) fun b hb => (o12.block b (by have := hb.1; omega)).trans ((hb11.block b (by have := hb.2; have := hk8V.size; omega)).trans (hk8V.block b hb.2))).wide (D' := fun b => b < V.heap.size) fun b hb => (by have := hb.2; have := hk8V.size; show b < _; omega); have hdf := deleteF_v hO12 (by have := hXn.out; omega) hV12 hQlt hQ12 hct12 hLr (by omega))
    | (with_reducible refine wpList_load1 (by first | kernel_rfl | with_unfolding_all rfl) _ _ rfl B _ rfl _ _ hB12 _ (show (#[.int .i64 t, .int .u64 (key : Int), .int .u64 ro, .slice ao3 n3 cap3] : Array Value)[3]? = some (.slice ao3 n3 cap3) from rfl) ga3 ?_)
    | (go_at_call 24; (with_reducible refine hdf.mono ?_); rintro e w13 ⟨n4, rfl, hO13, hb13⟩; have hB13 : Blk w13 B #[.int .i64 t, .int .u64 (key : Int), .int .u64 ro, .slice ao3 n3 cap3] 25 := (hb13.block B (by omega)).trans hB12; have hR13 : Blk w13 R zW 25 := (hb13.block R (by omega)).trans hR12; have hQ13 : Blk w13 Q #[.slice al L.length cl] 28 := (hb13.block Q hQlt).trans hQ12; have hk13 := hk12.trans (hb13.mono (by have := hkV.size; omega)))
    | ((with_reducible refine wpList_store_cell rfl 23 _ _ rfl B 3 rfl (.slice ao3 n4 cap3) rfl rfl #[.int .i64 t, .int .u64 (key : Int), .int .u64 ro, .slice ao3 n3 cap3] 25 hB13 (by kernel_rfl) (h34 _ _ _) rfl ?_); intro W14 hB14 o14)
    | fail)
  have hB : Blk W14 B #[.int .i64 t, .int .u64 (key : Int), .int .u64 ro, .slice ao3 n4 cap3] 25 := hB14
  have hQ := hQ13.other o14 (by omega)
  have k14 := o14.below _ _ (by omega) hk13
  have hO15 := (hO13.to o14 (by omega) hBF).to (oth_drew R W14) (by omega) hRF
  have hR15 := ((hR13.other o14 (by omega)).other (oth_drew B W14) (by omega))
  have hs15 : V.heap.size ≤ W14.drew.heap.size := (by have h1 := hb13.size; have h2 := o14.size; have h3 := (oth_drew B W14).size; omega)
  have old : ∀ b, b < V.heap.size → b ≠ B → W14.drew.heap[b]? = V.heap[b]? := fun b hb hne => ((oth_drew B W14).block b hne).trans ((o14.block b hne).trans ((hb13.block b hb).trans ((o12.block b hne).trans (hb11.block b hb))))
  clear hO hb11 hB11 hR11 hQ11 hk11 hB12 o12 hO12 hR12 hQ12 hk12 hV12 hct12 hdf hO13 hb13 hB13 hR13 hQ13 hk13 hB14
  obtain ⟨Z, hZ⟩ : ∃ Z : World, Z = W14.drew := ⟨_, rfl⟩
  rw [← hZ] at hO15 hR15 hs15 old
  have hmx : Try.prog.follows .mixedOrders = true := by kernel_rfl
  refine PgM.region_out (S := fun W => Blk W B #[.int .i64 t, .int .u64 (key : Int), .int .u64 ro, .slice ao3 n4 cap3] 25 ∧ Blk W Q #[.slice al L.length cl] 28 ∧ Below w.heap.size w W) hmx (⟨hB.next (Below.refl _ _).drew, hQ.next (Below.refl _ _).drew, k14.trans ((Below.refl _ _).drew.mono k14.size)⟩) (fun hS15 => ?_)
  rw [← hZ] at hS15 ⊢
  clear hZ hB hQ k14 o14
  obtain ⟨W16, hr16, hR16, o16⟩ := run_store_blk hR15 (hz2 ao3 n4 cap3) (show zW.size = (#[.int .i64 t, .int .u64 (key : Int), .int .u64 ro, .slice ao3 n4 cap3] : Array Value).size from rfl) (h12 ao3 n4 cap3)
  refine wpAnyH_sym (by kernel_rfl) (fun _ _ _ _ _ h => h) hS15 [(0, some (.agg #[.int .i64 t, .int .u64 (key : Int), .int .u64 ro, .slice ao3 n4 cap3])), (1, some (.slice al L.length cl))] (l' := #[true, true, false, false, false]) (a' := { tmps := #[.agg G, .int .u64 d, .int .u64 i, .pointer (some ⟨B, 0, none⟩), ud, undef, .pointer (some ⟨R, 0, none⟩), .slice none 0 0, .int .i64 0, .pointer (some ⟨P, 0, none⟩), .int .i64 (rn : Int), .pointer (some ⟨Q, 0, none⟩), .tuple #[.agg C, .int .i64 (rn : Int)], .agg G, .int .u64 d, .int .u64 i, .tuple #[.agg C, .int .i64 (rn : Int)], .agg C, .int .i64 (rn : Int), .int .i64 (rn : Int), .bool false, ud, undef, .pointer (some ⟨P, 5, none⟩), .slice (some ⟨g, 0, none⟩) nm cm, .int .i64 (rn : Int), .int .i64 (rn : Int), .int .i64 ((rn : Int) + 1), .slice (some ⟨g, 0, none⟩) (nm - 1) cm, .pointer (some ⟨P, 5, none⟩), .agg G, .int .u64 d, .int .u64 i, .slice al L.length cl, .agg G, .agg (C.setIfInBounds 5 (.slice (some ⟨g, 0, none⟩) (nm - 1) cm)), .agg #[.int .i64 t, .int .u64 (key : Int), .int .u64 ro, .slice ao3 n3 cap3], .pointer (some ⟨B, 3, none⟩), .slice ao3 n3 cap3, .func (.func 25) #[] #[.pointer (some ⟨Q, 0, none⟩)], .slice ao3 n4 cap3, .pointer (some ⟨B, 3, none⟩), .agg #[.int .i64 t, .int .u64 (key : Int), .int .u64 ro, .slice ao3 n4 cap3], .slice al L.length cl], defers := [] }) (obs := [.load 25 B 0 (.agg #[.int .i64 t, .int .u64 (key : Int), .int .u64 ro, .slice ao3 n4 cap3]), .load 28 Q 0 (.slice al L.length cl)]) (n := 3) (by kernel_rfl) (by kernel_rfl) ⟨ob_loadb (fun W hS => hS.1) Try.underlying25 (by kernel_rfl) (hz2 _ _ _), ob_load1 (fun W hS => hS.2.1) rfl ga4, trivial⟩ ?_
  refine wpAnyH_single (i := 2) (n := 2) rfl (by kernel_rfl) ?_
  refine wpOp_storeL (ty := 25) (B := R) (off := 0) (v := .agg #[.int .i64 t, .int .u64 (key : Int), .int .u64 ro, .slice ao3 n4 cap3]) (d := none) (by kernel_rfl) hr16 ?_
  have hS16 : Blk W16 B #[.int .i64 t, .int .u64 (key : Int), .int .u64 ro, .slice ao3 n4 cap3] 25 ∧ Blk W16 Q #[.slice al L.length cl] 28 ∧ Below w.heap.size w W16 := ⟨hS15.1.other o16 (by omega), hS15.2.1.other o16 (by omega), o16.below _ _ (by omega) hS15.2.2⟩
  refine ⟨hS16, ?_⟩
  refine wpAnyH_sym (by kernel_rfl) (fun _ _ _ _ _ h => h) hS16 [(3, none), (4, none)] (l' := #[true, true, true, true, true]) (a' := { tmps := #[.agg G, .int .u64 d, .int .u64 i, .pointer (some ⟨B, 0, none⟩), ud, undef, .pointer (some ⟨R, 0, none⟩), .slice al L.length cl, .int .i64 0, .pointer (some ⟨P, 0, none⟩), .int .i64 (rn : Int), .pointer (some ⟨Q, 0, none⟩), .tuple #[.agg C, .int .i64 (rn : Int)], .agg G, .int .u64 d, .int .u64 i, .tuple #[.agg C, .int .i64 (rn : Int)], .agg C, .int .i64 (rn : Int), .int .i64 (rn : Int), .bool false, ud, undef, .pointer (some ⟨P, 5, none⟩), .slice (some ⟨g, 0, none⟩) nm cm, .int .i64 (rn : Int), .int .i64 (rn : Int), .int .i64 ((rn : Int) + 1), .slice (some ⟨g, 0, none⟩) (nm - 1) cm, .pointer (some ⟨P, 5, none⟩), .agg G, .int .u64 d, .int .u64 i, .slice al L.length cl, .agg G, .agg (C.setIfInBounds 5 (.slice (some ⟨g, 0, none⟩) (nm - 1) cm)), .agg #[.int .i64 t, .int .u64 (key : Int), .int .u64 ro, .slice ao3 n3 cap3], .pointer (some ⟨B, 3, none⟩), .slice ao3 n3 cap3, .func (.func 25) #[] #[.pointer (some ⟨Q, 0, none⟩)], .slice ao3 n4 cap3, .pointer (some ⟨B, 3, none⟩), .agg #[.int .i64 t, .int .u64 (key : Int), .int .u64 ro, .slice ao3 n4 cap3], .slice al L.length cl], defers := [] }) (obs := []) (n := 0) (by kernel_rfl) (by kernel_rfl) trivial ?_
  refine wpAnyH_done (by kernel_rfl) ?_ _
  go_wp2
  refine bodyPost_ret (v := .tuple #[.agg #[.int .i64 t, .int .u64 (key : Int), .int .u64 ro, .slice ao3 n4 cap3], .slice al L.length cl, .int .i64 0]) (res_w3 Try.results9 rfl rfl rfl hR16 rfl) rfl ?_
  refine ⟨ao3, n4, cap3, _, L, rfl, hL.out.1 hin, ?_, ?_, hS16.2.2⟩
  · have hO16 := (hO15.to o16 (by omega) hRF).obs
    have hz16 := o16.size
    exact hO16.wide (fun b hb => by have h1 := hb.2; show b < _; omega) (fun b hb => by have h1 := hb.2; show b < _; omega)
  · exact ownsS (by have := hk7.size; omega) (owns_later hown fun b hb hl => (o16.block b (by omega)).trans ((old b (by omega) (by omega)).trans (hk8V.block b hl)))
end Go.Proofs.Ytcmcakandbpjfaa
namespace Go.Proofs.Ytcmcakandbpjfaa
set_option maxRecDepth 100000
set_option maxHeartbeats 8000000
open Go.RowKit Go.Shelf
set_option linter.unusedVariables false
attribute [local go_sem] Oper.semAt_some

def awU : List Ob := [awE, awS 1]
theorem au_fit : fitD 0 0 1 awU = true := by decide +kernel
theorem au_in : (2 : Int) ∈ (fO awU 1).links := by decide +kernel
theorem au_ni : ¬ (3 : Int) ∈ (fO awU 1).links := by decide +kernel
theorem au_gone : Gone awU 1 (oneP 1 2) [2] := ⟨by decide, by decide +kernel, by decide, by decide +kernel⟩
theorem au_len : (swpX awU (oneP 1 2) [2]).length = 1 := by decide +kernel
theorem run_bs2 {C D : Array Value} (hz : C.size = 51) (hy : D.size = 51) (w : World) : (Instr.buildSlice 23 2 #[(0, .agg C), (1, .agg D)]).run Try.prog w = .ok (.slice (some ⟨w.heap.size, 0, none⟩) 2 2) (w.alloc (.cells (C ++ D) 54)) := by
 obtain ⟨i0, hi, hz0, hz1, hz2⟩ := info_parts infoO
 refine run_buildSlice w _ _ 2 _ (C ++ D) i0 _ Try.underlying23 hi hz0 (by rw [hz1]; omega) (by rw [hz1]; omega) ?_
 rw [hz1, show C ++ D = (C.toList ++ D.toList).toArray by simp]
 have := Great.fill_whole (s := 51) (by omega) [.agg C, .agg D] ((Array.range (2 * 51)).map ((Value.agg zC).cells[· % (Value.agg zC).cells.size]!)) (by simp [Value.cells, hz, hy]) (by simp)
 simpa [Value.cells] using this
theorem wpList_bs2 {ops : Array Oper} {Q : Exit → Act → World → Prop} {w : World} {a : Act} {op : Oper} {rest : List Oper} (hgd : op.guard = none) (x y : Operand) (ho : op.op = .buildSlice 23 2 #[(0, x), (1, y)]) (C D : Array Value) (hx : a.eval x = .agg C) (hx2 : a.eval y = .agg D) (hz : C.size = 51) (hy : D.size = 51)
  (h : ∀ B W, Hid (w.heap.size = B ∧ W.heap.size = B + 1) → Blk W B (C ++ D) 54 → Below w.heap.size w W → wpList Try.prog ops Q rest (a.put op.dst (.slice (some ⟨B, 0, none⟩) 2 2)) W) : wpList Try.prog ops Q (op :: rest) a w :=
 wpList_plain hgd fun K hK => by
  have e : (#[(0, x), (1, y)].map fun ((i : Nat), x) => (i, a.eval x)) = #[(0, Value.agg C), (1, Value.agg D)] := by simp [hx, hx2]
  unfold Oper.wp execOp
  simp only [ho, e, Sem.run_bind, run_bs2 hz hy, Result.andThen_ok]
  exact hK _ _ (h _ _ ⟨rfl, by simp⟩ (Blk.new w (C ++ D) 54) ((Below.refl _ w).alloc (Nat.le_refl _) _))
theorem wpList_iaX {ops : Array Oper} {Q : Exit → Act → World → Prop} {w : World} {a : Act} {op : Oper} {rest : List Oper} (hw : Region.wanted op (yielded ops a.tmps) = true) (ty : TypeId) (x y : Operand) (ho : op.op = .indexAddr ty x y) (u v : Value) (hx : a.eval x = u) (hy : a.eval y = v) (r : Value) (hr : (Instr.indexAt ty u v).run Try.prog w = .ok r w) (h : wpList Try.prog ops Q rest (a.put op.dst r) w) : wpList Try.prog ops Q (op :: rest) a w := by
 refine wpList_val hw ?_ h
 unfold execOp
 simp [ho, hx, hy, hr]
def auC (g : Nat) : Array Value := (comC (.int .u64 1) (.int .i64 2) (.slice none 0 0) (.int .i64 3) (.bool false)).setIfInBounds 5 (.slice (some ⟨g, 0, none⟩) 1 1)
def auS : Array Value := comC (.int .u64 2) (.int .i64 1) (.slice none 0 0) (.int .i64 1) (.bool false)
theorem auC_size (g : Nat) : (auC g).size = 51 := by kernel_rfl
theorem auS_size : auS.size = 51 := by kernel_rfl
theorem au_fst (g : Nat) : (auC g ++ auS).extract 0 (0 + 51) = auC g := by kernel_rfl
theorem au_snd (g : Nat) : (auC g ++ auS).extract 51 (51 + 51) = auS := by kernel_rfl
theorem au_obs {W : World} {B g : Nat} (h : Blk W B (auC g ++ auS) 54) (hg : Blk W g #[.int .u64 2] 22) : Obs W (some ⟨B, 0, none⟩) 2 2 awU := by
 have hE : ObD (LtN W) W (auC g) awE := (comC_d (w := W) (LabD.nil (LtN W) W)).cont ⟨none, 0, 0, rfl, LabD.nil _ _⟩ ⟨_, _, _, rfl, rfl, Nat.le_refl _, ⟨by omega, fun e => by cases e⟩, fun _ => ⟨g, 0, rfl, hg.lt, fun i hi => by
  obtain rfl : i = 0 := by omega
  exact hg.cell 0⟩⟩ rfl
 have hS : ObD (LtN W) W auS (awS 1) := comC_d (LabD.nil _ W)
 refine ⟨rfl, Nat.le_refl _, ⟨by omega, fun e => by cases e⟩, fun _ => ⟨B, 0, rfl, h.lt, fun i hi => ?_⟩⟩
 match i, hi with
 | 0, _ =>
  refine ⟨_, hE, ?_⟩
  have := h.range 0 51
  rw [au_fst] at this
  exact this
 | 1, _ =>
  refine ⟨_, hS, ?_⟩
  have := h.range 51 51
  rw [au_snd] at this
  exact this
theorem au_yes {W : World} {ao : Option Addr} {cap : Nat} (h : Obs W ao 2 cap awU) : Calls Try.prog 9 #[.agg #[.int .i64 0, .int .u64 0, .int .u64 1, .slice ao 2 cap], .int .u64 1, .int .u64 2] W fun e w' => ∃ ao2 cap2 g cur c, e = .returned (.tuple #[.agg #[.int .i64 0, .int .u64 0, .int .u64 1, .slice ao2 1 cap2], .slice (some ⟨g, 0, none⟩) 1 c, .int .i64 0]) ∧ Blk w' g cur 22 ∧ cur[0]? = some (.int .u64 2) ∧ Below W.heap.size W w' := by
 have := unref_yes (t := 0) (key := 0) (ro := 1) (d := 1) (i := 2) h au_fit (by omega) au_in
 refine this.mono ?_
 rintro e w' ⟨ao2, n2, cap2, v, L, rfl, hG, hO, hown, hb⟩
 obtain rfl : [2] = L := gone_uniq au_fit au_gone hG.out
 obtain rfl : 1 = n2 := au_len.symm.trans hO.1
 rcases hown.2 with ⟨_, h0⟩ | ⟨g, c, cur, q, hMg, hg, hnc, hcm, hcs, htk⟩
 ·cases h0
 ·cases q
  refine ⟨ao2, cap2, g, cur, c, rfl, hg, ?_, hb⟩
  have h9 : (cur.toList.take 1)[0]? = (wordsC [2])[0]? := by rw [← htk]; rfl
  rw [List.getElem?_take, if_pos (by omega)] at h9
  rw [← Array.getElem?_toList, h9]
  rfl
theorem au_no {W : World} {ao : Option Addr} {cap : Nat} (h : Obs W ao 2 cap awU) : Calls Try.prog 9 #[.agg #[.int .i64 0, .int .u64 0, .int .u64 1, .slice ao 2 cap], .int .u64 1, .int .u64 3] W fun e w' => ∃ ao2 n2 cap2, e = .returned (.tuple #[.agg #[.int .i64 0, .int .u64 0, .int .u64 1, .slice ao2 n2 cap2], .slice none 0 0, .int .i64 1]) ∧ Below W.heap.size W w' := by
 have := unref_no (t := 0) (key := 0) (ro := 1) (d := 1) (i := 3) h au_fit (by omega) au_ni
 refine this.mono ?_
 rintro e w' ⟨ao2, n2, cap2, rfl, _, hb⟩
 exact ⟨ao2, n2, cap2, rfl, hb⟩
theorem awake15_any (w : World) : Calls Try.prog 8 #[] w fun e w' => e = .returned (.bool true) ∧ Below w.heap.size w w' := by
 have hz2 : ∀ v, (Try.prog.info? 25).map (·.size) = some (#[.int .i64 0, .int .u64 0, .int .u64 1, v] : Array Value).size := fun _ => size43
 have hs2 : ∀ v, zW.size = (#[.int .i64 0, .int .u64 0, .int .u64 1, v] : Array Value).size := fun _ => rfl
 have h12 : ∀ ao n cap, (#[.int .i64 0, .int .u64 0, .int .u64 1, .slice ao n cap] : Array Value).all (·.oneCell') = true := fun _ _ _ => by kernel_rfl
 have ga3 := Try.isAgg23
 have ga1 := Try.isAgg22
 go_enter Try.func8, Try.ntmps8
 go_upto_region 2 with (first
  | go_skip
  | ((with_reducible refine wpList_bsw rfl _ rfl 2 rfl ?_); intro g W0 hN0 hg hk)
  | ((with_reducible refine wpList_buildw (by kernel_rfl) 54 [(0, .const (.int .u64 1)), (1, .const (.int .i64 2)), (3, .const (.int .i64 3)), (5, .tmp 8)] rfl (auC g) ?hf ?_); (case hf => kernel_rfl))
  | ((with_reducible refine wpList_buildw (by kernel_rfl) 54 [(0, .const (.int .u64 2)), (1, .const (.int .i64 1)), (3, .const (.int .i64 1))] rfl auS ?hf ?_); (case hf => kernel_rfl))
  | ((with_reducible refine wpList_bs2 rfl _ _ rfl (auC g) auS rfl rfl (auC_size g) auS_size ?_); intro B W1 hN1 hB hk1)
  | ((with_reducible refine wpList_buildw (by kernel_rfl) 25 [(2, .const (.int .u64 1)), (3, .tmp 11)] rfl #[.int .i64 0, .int .u64 0, .int .u64 1, .slice (some ⟨B, 0, none⟩) 2 2] ?hf ?_); (case hf => kernel_rfl))
  | ((with_reducible refine wpList_alloc rfl 25 rfl zW zero43 ?_); intro P1 W2 hN2 hP1a hk2)
  | ((with_reducible refine wpList_store_blk rfl _ _ _ rfl P1 rfl #[.int .i64 0, .int .u64 0, .int .u64 1, .slice (some ⟨B, 0, none⟩) 2 2] rfl zW hP1a (hz2 _) (hs2 _) (h12 _ _ _) ?_); intro V1 hP1 q1))
 have hB1 : Below W1.heap.size W1 V1 := q1.below _ _ (by have := hN2.out; omega) hk2
 have hO := au_obs (hB.next hB1) ((hg.next hk1).next hB1)
 have hk1' : Below w.heap.size w V1 := hk.trans ((hk1.trans (hB1.mono hk1.size)).mono hk.size)
 have hyes := au_yes hO
 clear hN0 hN1 hN2 hP1a hk2 q1
 go_upto_region 3 with (first
  | go_skip
  | (with_reducible refine wpList_loadb (by kernel_rfl) 25 _ rfl P1 rfl _ hP1 _ Try.underlying25 (by kernel_rfl) (hz2 _) ?_)
  | (go_at_call 9; (with_reducible refine hyes.mono ?_); rintro e w2 ⟨ao2, cap2, g2, cur, c2, rfl, hg2, hcu, hb2⟩; have hP12 := hP1.next hb2; have hO2 := obs_next hO hb2)
  | ((with_reducible refine wpList_alloc rfl 25 rfl zW zero43 ?_); intro P2 W3 hN3 hP2a hk3)
  | ((with_reducible refine wpList_store_blk rfl _ _ _ rfl P2 rfl #[.int .i64 0, .int .u64 0, .int .u64 1, .slice ao2 1 cap2] rfl zW hP2a (hz2 _) (hs2 _) (h12 _ _ _) ?_); intro V2 hP2 q2))
 have hb3 : Below w2.heap.size w2 V2 := q2.below _ _ (by have := hN3.out; omega) hk3
 have hP13 := hP12.next hb3
 have hg3 := hg2.next hb3
 have hno := au_no (obs_next hO2 hb3)
 have hk3' : Below w.heap.size w V2 := hk1'.trans ((hb2.trans (hb3.mono hb2.size)).mono hk1'.size)
 clear hN3 hP2a hk3 q2 hP1 hP12 hg2 hO2 hO
 go_upto_region 4 with (first
  | go_skip
  | (with_reducible refine wpList_loadb (by kernel_rfl) 25 _ rfl P1 rfl _ hP13 _ Try.underlying25 (by kernel_rfl) (hz2 _) ?_)
  | (go_at_call 9; (with_reducible refine hno.mono ?_); rintro e w4 ⟨ao4, n4, cap4, rfl, hb4⟩; have hP24 := hP2.next hb4; have hg4 := hg3.next hb4)
  | ((with_reducible refine wpList_alloc rfl 25 rfl zW zero43 ?_); intro P5 W5 hN5 hP5a hk5)
  | ((with_reducible refine wpList_store_blk rfl _ _ _ rfl P5 rfl #[.int .i64 0, .int .u64 0, .int .u64 1, .slice ao4 n4 cap4] rfl zW hP5a (hz2 _) (hs2 _) (h12 _ _ _) ?_); intro V5 hP5 q5))
 have hb5 : Below w4.heap.size w4 V5 := q5.below _ _ (by have := hN5.out; omega) hk5
 have hP25 := hP24.next hb5
 have hg5 := hg4.next hb5
 have hk5' : Below w.heap.size w V5 := hk3'.trans ((hb4.trans (hb5.mono hb4.size)).mono hk3'.size)
 clear hN5 hP5a hk5 q5 hP24 hg4 hP5
 have hr5 : ∀ W : World, (Instr.indexAt 28 (.slice (some ⟨g2, 0, none⟩) 1 c2) (.int .i64 0)).run Try.prog W = .ok (.pointer (some ⟨g2, 0, none⟩)) W := fun W => (iaw_at (S := fun _ => True) (b := g2) (off := 0) (i := 0) (n := 1) (cap := c2) (by omega)) W trivial
 have e3 : (#[.int .i64 0, .int .u64 0, .int .u64 1, .slice ao2 1 cap2] : Array Value)[3]? = some (.slice ao2 1 cap2) := rfl
 go_wp2_with (first
  | go_skip
  | (with_reducible refine wpList_load1 (by first | kernel_rfl | with_unfolding_all rfl) _ _ rfl P2 _ rfl _ _ hP25 _ e3 ga3 ?_)
  | (with_reducible refine wpList_iaX (by first | kernel_rfl | with_unfolding_all rfl) _ _ _ rfl _ _ rfl rfl _ (hr5 _) ?_)
  | (with_reducible refine wpList_load1 (by first | kernel_rfl | with_unfolding_all rfl) _ _ rfl g2 _ rfl _ _ hg5 _ hcu ga1 ?_))
 go_ret
 exact ⟨rfl, hk5'⟩
end Go.Proofs.Ytcmcakandbpjfaa
namespace Go.Proofs.Ytcmcakandbpjfaa
set_option maxRecDepth 100000
set_option maxHeartbeats 8000000
open Go.RowKit Go.Shelf
set_option linter.unusedVariables false

def Ws (W : World) (V : Array Value) (t : Int) (key : Nat) (ro : Int) (X : List Ob) : Prop := ∃ ao n cap, V = #[.int .i64 t, .int .u64 (key : Int), .int .u64 ro, .slice ao n cap] ∧ Obs W ao n cap X
section
variable {W W' : World} {V : Array Value} {t ro : Int} {key : Nat} {X : List Ob}
theorem Ws.next (h : Ws W V t key ro X) (k : Below W.heap.size W W') : Ws W' V t key ro X := by
 obtain ⟨ao, n, cap, e, h⟩ := h
 exact ⟨ao, n, cap, e, obs_next h k⟩
theorem Ws.size (h : Ws W V t key ro X) : (Try.prog.info? 25).map (·.size) = some V.size := by
 obtain ⟨ao, n, cap, rfl, h⟩ := h
 kernel_rfl
theorem Ws.old (h : Ws W V t key ro X) : zW.size = V.size := by
 obtain ⟨ao, n, cap, rfl, h⟩ := h
 rfl
theorem Ws.one (h : Ws W V t key ro X) : V.all (·.oneCell') = true := by
 obtain ⟨ao, n, cap, rfl, h⟩ := h
 kernel_rfl
theorem unref_s (h : Ws W V t key ro X) (hf : fitD t key ro X = true) (hl : X.length < 1024) {d i : Int} (hin : i ∈ (fO X d).links) : Calls Try.prog 9 #[.agg V, .int .u64 d, .int .u64 i] W fun e w' => ∃ V' v L, e = .returned (.tuple #[.agg V', v, .int .i64 0]) ∧ Hid (Gone X ro (oneP d i) L) ∧ Ws w' V' t key ro (swpX X (oneP d i) L) ∧ w'.ownsRow W.heap.size 22 1 v L.length (wordsC L) ∧ Below W.heap.size W w' := by
 obtain ⟨ao, n, cap, rfl, h⟩ := h
 refine (unref_yes h hf (by rw [← h.1]; exact hl) hin).mono ?_
 rintro e w' ⟨ao2, n2, cap2, v, L, rfl, hG, hO, hown, hb⟩
 exact ⟨_, v, L, rfl, hG, ⟨ao2, n2, cap2, rfl, hO⟩, hown, hb⟩
theorem unref_n (h : Ws W V t key ro X) (hf : fitD t key ro X = true) (hl : X.length < 1024) {d i : Int} (hni : ¬ i ∈ (fO X d).links) : Calls Try.prog 9 #[.agg V, .int .u64 d, .int .u64 i] W fun e w' => ∃ V', e = .returned (.tuple #[.agg V', .slice none 0 0, .int .i64 1]) ∧ Ws w' V' t key ro X ∧ Below W.heap.size W w' := by
 obtain ⟨ao, n, cap, rfl, h⟩ := h
 refine (unref_no h hf (by rw [← h.1]; exact hl) hni).mono ?_
 rintro e w' ⟨ao2, n2, cap2, rfl, hO, hb⟩
 exact ⟨_, rfl, ⟨ao2, n2, cap2, rfl, hO⟩, hb⟩
end
end Go.Proofs.Ytcmcakandbpjfaa
namespace Go.Proofs.Ytcmcakandbpjfaa
set_option maxRecDepth 100000
set_option maxHeartbeats 8000000
open Go.RowKit Go.Shelf
set_option linter.unusedVariables false

section
variable {W W' : World} {V V' : Array Value} {t ro : Int} {key : Nat} {X : List Ob}
theorem rsame_s (h : Ws W V t key ro X) (h' : Ws W V' t key ro X) : Calls Try.prog 11 #[.agg V, .agg V'] W fun e w' => e = .returned (.bool true) ∧ Below W.heap.size W w' := by
 obtain ⟨a, n, c, rfl, o⟩ := h
 obtain ⟨a', n', c', rfl, o'⟩ := h'
 exact (rsame_w o o').yes rfl
end
end Go.Proofs.Ytcmcakandbpjfaa
namespace Go.Proofs.Ytcmcakandbpjfaa
set_option maxRecDepth 100000
set_option maxHeartbeats 8000000
open Go.RowKit Go.Shelf
set_option linter.unusedVariables false

section
variable {W : World} {V : Array Value} {t ro : Int} {key : Nat} {X : List Ob}
theorem Ws.cells (h : Ws W V t key ro X) : V[0]? = some (.int .i64 t) ∧ V[2]? = some (.int .u64 ro) ∧ ∃ ao n cap, V[3]? = some (.slice ao n cap) ∧ Obs W ao n cap X := by
 obtain ⟨ao, n, cap, rfl, h⟩ := h
 exact ⟨rfl, rfl, ao, n, cap, rfl, h⟩
theorem unref_k (h : Ws W V t key ro X) (hf : fitD t key ro X = true) (hl : X.length < 1024) {d i : Int} (hin : i ∈ (fO X d).links) : Calls Try.prog 9 #[.agg V, .int .u64 d, .int .u64 i] W fun e w' => ∃ V' al m cl L, e = .returned (.tuple #[.agg V', .slice al m cl, .int .i64 0]) ∧ Hid (Gone X ro (oneP d i) L) ∧ Ws w' V' t key ro (swpX X (oneP d i) L) ∧ CtD (LtN w') w' al m cl L ∧ Below W.heap.size W w' := by
 refine (unref_s h hf hl hin).mono ?_
 rintro e w' ⟨V', v, L, rfl, hG, hV, hown, hb⟩
 obtain ⟨al, cl, rfl, hc⟩ := own_ct hown
 exact ⟨V', al, L.length, cl, L, rfl, hG, hV, hc.wide fun b hb => hb.2, hb⟩
end
structure Rw (W : World) (b o m : Nat) (L : List Int) : Prop where
 lt : b < W.heap.size
 at_ : ∀ k, k < m → W.cell? ⟨b, o + k, none⟩ = some (.int .u64 (L.getD k 0))
theorem Rw.next {W W' : World} {b o m : Nat} {L : List Int} (h : Rw W b o m L) (k : Below W.heap.size W W') : Rw W' b o m L :=
 ⟨Nat.lt_of_lt_of_le h.lt k.size, fun j hj => (k.cell (p := ⟨b, o + j, none⟩) h.lt).trans (h.at_ j hj)⟩
theorem Rw.of {W : World} {al : Option Addr} {m cl : Nat} {L : List Int} (h : CtD (LtN W) W al m cl L) (hm : 0 < m) : ∃ b o, al = some ⟨b, o, none⟩ ∧ Rw W b o m L := by
 obtain ⟨b, o, e, hb, hc⟩ := h.2.2.2 hm
 exact ⟨b, o, e, hb, hc⟩
end Go.Proofs.Ytcmcakandbpjfaa
namespace Go.Proofs.Ytcmcakandbpjfaa
set_option maxRecDepth 100000
set_option maxHeartbeats 8000000
open Go.RowKit Go.Shelf
set_option linter.unusedVariables false

theorem ct_nil (W : World) : CtD (LtN W) W none 0 0 [] := ⟨rfl, Nat.le_refl _, ⟨by decide, fun _ => rfl⟩, fun q => absurd q (by decide)⟩
section
variable {W W' : World} {V : Array Value} {t ro : Int} {key m : Nat} {X : List Ob} {d i : Int} {L : List Int}
theorem runref_g (h : Ws W V t key ro X) (hf : fitD t key ro X = true) (hl : X.length < 1024) (hin : i ∈ (fO X d).links) (hG : Gone X ro (oneP d i) L) (hm : L.length = m) : Calls Try.prog 10 #[.agg V, .int .u64 d, .int .u64 i] W fun e w' => ∃ V' al cl, e = .returned (.tuple #[.agg V', .slice al m cl, .int .i64 0]) ∧ Ws w' V' t key ro (swpX X (oneP d i) L) ∧ CtD (LtN w') w' al m cl L ∧ Below W.heap.size W w' := by
 obtain ⟨ao, n, cap, rfl, h⟩ := h
 refine (runref_yes h hf (by rw [← h.1]; exact hl) hin).mono ?_
 rintro e w' ⟨ao2, n2, cap2, al, cl, L2, rfl, hG2, hO, hc, hb⟩
 obtain rfl := gone_uniq hf hG hG2.out
 rw [hm] at hc ⊢
 exact ⟨_, al, cl, rfl, ⟨ao2, n2, cap2, rfl, hO⟩, hc, hb⟩
theorem runref_n (h : Ws W V t key ro X) (hf : fitD t key ro X = true) (hl : X.length < 1024) (hni : ¬ i ∈ (fO X d).links) : Calls Try.prog 10 #[.agg V, .int .u64 d, .int .u64 i] W fun e w' => e = .returned (.tuple #[.agg V, .slice none 0 0, .int .i64 1]) ∧ Below W.heap.size W w' := by
 obtain ⟨ao, n, cap, rfl, h⟩ := h
 exact runref_no h hf (by rw [← h.1]; exact hl) hni
theorem lost_g (h : Ws W V t key ro X) (hf : fitD t key ro X = true) (hl : X.length < 1024) (hin : i ∈ (fO X d).links) (hG : Gone X ro (oneP d i) L) (hm : L.length = m) : Calls Try.prog 13 #[.agg V, .int .u64 d, .int .u64 i] W fun e w' => ∃ al cl, e = .returned (.slice al m cl) ∧ CtD (LtN w') w' al m cl L ∧ Below W.heap.size W w' := by
 obtain ⟨ao, n, cap, rfl, h⟩ := h
 refine (lost_v (t := t) (key := key) (ro := ro) h hf (by rw [← h.1]; omega) (fun x hx => sound_small0 ((tre_of hf).snd x hx))).mono ?_
 rintro e w' ⟨v, L2, rfl, hG2, hown, hb⟩
 obtain rfl := gone_uniq hf hG (hG2.out.1 hin)
 obtain ⟨al, cl, rfl, hc⟩ := own_ct hown
 rw [hm] at hc ⊢
 exact ⟨al, cl, rfl, hc.wide fun b hb => hb.2, hb⟩
theorem lost_n (h : Ws W V t key ro X) (hf : fitD t key ro X = true) (hl : X.length < 1024) (hni : ¬ i ∈ (fO X d).links) : Calls Try.prog 13 #[.agg V, .int .u64 d, .int .u64 i] W fun e w' => ∃ al cl, e = .returned (.slice al 0 cl) ∧ CtD (LtN w') w' al 0 cl [] ∧ Below W.heap.size W w' := by
 obtain ⟨ao, n, cap, rfl, h⟩ := h
 refine (lost_v (t := t) (key := key) (ro := ro) h hf (by rw [← h.1]; omega) (fun x hx => sound_small0 ((tre_of hf).snd x hx))).mono ?_
 rintro e w' ⟨v, L2, rfl, hG2, hown, hb⟩
 obtain rfl := hG2.out.2.1 hni
 obtain ⟨al, cl, rfl, hc⟩ := own_ct hown
 exact ⟨al, cl, rfl, hc.wide fun b hb => hb.2, hb⟩
theorem rlost_g (h : Ws W V t key ro X) (hf : fitD t key ro X = true) (hl : X.length < 1024) (hin : i ∈ (fO X d).links) (hG : Gone X ro (oneP d i) L) (hm : L.length = m) : Calls Try.prog 14 #[.agg V, .int .u64 d, .int .u64 i] W fun e w' => ∃ al cl, e = .returned (.slice al m cl) ∧ CtD (LtN w') w' al m cl L ∧ Below W.heap.size W w' := by
 have hz := h.size
 go_enter Try.func14, Try.ntmps14
 go_wp2_with (first
  | (with_reducible refine wpList_box rfl 25 _ rfl V rfl ?_; intro B W1 hN1 hB hk; replace h := h.next hk)
  | (with_reducible refine wpList_loadb (by first | kernel_rfl | with_unfolding_all rfl) 25 _ rfl B rfl V hB _ Try.underlying25 (by kernel_rfl) hz ?_)
  | (go_at_call 10; (with_reducible refine (runref_g h hf hl hin hG hm).mono ?_); rintro e w3 ⟨V2, al, cl, rfl, hV2, hc, hb3⟩; replace hk := hk.trans (hb3.mono hk.size))
  | ((with_reducible refine wpList_alloc rfl 25 rfl zW zero43 ?_); have hx := hV2; intro P W4 hN4 hP hk4; clear hx; have hle4 := hN4.out.1)
  | ((with_reducible refine wpList_store_blk rfl _ _ _ rfl P rfl V2 rfl zW hP hV2.size hV2.old hV2.one ?_); intro W5 hP5 o5; have k5 := o5.below _ _ (Nat.le_of_eq hle4) hk4; replace hc := ct_up hc k5; replace hk := hk.trans (k5.mono hk.size)))
 go_ret
 exact ⟨al, cl, rfl, hc, hk⟩
theorem rlost_n (h : Ws W V t key ro X) (hf : fitD t key ro X = true) (hl : X.length < 1024) (hni : ¬ i ∈ (fO X d).links) : Calls Try.prog 14 #[.agg V, .int .u64 d, .int .u64 i] W fun e w' => ∃ al cl, e = .returned (.slice al 0 cl) ∧ CtD (LtN w') w' al 0 cl [] ∧ Below W.heap.size W w' := by
 have hz := h.size
 have ho := h.old
 have h1 := h.one
 go_enter Try.func14, Try.ntmps14
 go_wp2_with (first
  | (with_reducible refine wpList_box rfl 25 _ rfl V rfl ?_; intro B W1 hN1 hB hk; replace h := h.next hk)
  | (with_reducible refine wpList_loadb (by first | kernel_rfl | with_unfolding_all rfl) 25 _ rfl B rfl V hB _ Try.underlying25 (by kernel_rfl) hz ?_)
  | (go_at_call 10; (with_reducible refine (runref_n h hf hl hni).mono ?_); rintro e w3 ⟨rfl, hb3⟩; replace hk := hk.trans (hb3.mono hk.size))
  | ((with_reducible refine wpList_alloc rfl 25 rfl zW zero43 ?_); intro P W4 hN4 hP hk4; have hle4 := hN4.out.1)
  | ((with_reducible refine wpList_store_blk rfl _ _ _ rfl P rfl V rfl zW hP hz ho h1 ?_); intro W5 hP5 o5; have k5 := o5.below _ _ (Nat.le_of_eq hle4) hk4; replace hk := hk.trans (k5.mono hk.size)))
 go_ret
 exact ⟨none, 0, rfl, ct_nil _, hk⟩
end
end Go.Proofs.Ytcmcakandbpjfaa
