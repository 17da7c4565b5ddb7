/-
 PROVED HERE: plain facts on who holds what: the table of holdings against the containers that have a link, and the ways up . What is asked stands at each.
-/
import Derived.Test.YtnhjfjhbmekamaaGreatZ25
import Derived.Test.YtnhjfjhbmekamaaGreatZ26
import Derived.Test.YtnhjfjhbmekamaaGreatZ28
namespace Go.Proofs.YtnhjfjhbmekamaaGreat
set_option maxRecDepth 100000
set_option maxHeartbeats 8000000

theorem stp_fold {d : Int} : ∀ (l : List Int) (f : Int → Int × Int), l.Nodup → ∀ i, l.foldl (stpH d) f i = if i ∈ l then ((f i).1 + 1, if (f i).1 = 0 then d else (f i).2) else f i
 | [], f, _, i => by simp
 | a :: r, f, h, i => by
  obtain ⟨h1, h2⟩ := List.nodup_cons.1 h
  rw [List.foldl_cons, stp_fold r _ h2 i]
  by_cases e : i = a
  ·subst e
   rw [if_neg h1, if_pos (List.mem_cons_self ..)]
   unfold stpH
   rw [if_pos rfl]
  ·have hf : stpH d f a i = f i := by unfold stpH; rw [if_neg e]
   rw [hf]
   by_cases q : i ∈ r
   ·rw [if_pos q, if_pos (List.mem_cons_of_mem _ q)]
   ·rw [if_neg q, if_neg (by rw [List.mem_cons]; exact fun c => c.elim e q)]
theorem fnd_id {X : List Ob} {i : Int} {x : Ob} (h : fnd X i = some x) : x.id = i ∧ x ∈ X :=
 ⟨by simpa using List.find?_some (show X.find? _ = some x from h), List.mem_of_find?_eq_some (show X.find? _ = some x from h)⟩
theorem hit_ids {X : List Ob} (hs : Srt X) : ∀ l : List Int, (hitO X l).map (fun m => (oat X m).id) = l.filter fun j => (fnd X j).isSome
 | [] => rfl
 | a :: r => by
  have ih := hit_ids hs r
  unfold hitO at ih ⊢
  cases hw : wh X a with
  | none =>
   have hn : (fnd X a).isSome = false := by
    unfold wh at hw
    split at hw
    ·cases hw
    ·rename_i q; simpa using q
   rw [List.filterMap_cons_none hw, ih, List.filter_cons_of_neg (by simp [hn])]
  | some m =>
   have hq := wh_lt hs hw
   rw [List.filterMap_cons_some hw, List.map_cons, ih, List.filter_cons_of_pos (by rw [hq.2]; rfl), (fnd_id hq.2).1]
theorem stpD_at {X : List Ob} (hs : Srt X) {d : Ob} (hd : d.links.Nodup) (f : Int → Int × Int) (i : Int) : stpD X f d i = if i ∈ d.links ∧ (fnd X i).isSome = true then ((f i).1 + 1, if (f i).1 = 0 then d.id else (f i).2) else f i := by
 unfold stpD
 rw [hit_ids hs, stp_fold _ _ (hd.filter _)]
 simp only [List.mem_filter]
theorem holL_app (X Y : List Ob) (i : Int) : holL (X ++ Y) i = holL X i ++ holL Y i := by
 unfold holL
 rw [List.filter_append, List.map_append]
theorem hld_pre {X : List Ob} (hs : Srt X) (i : Int) : ∀ (l : List Ob) (P : List Ob) (f : Int → Int × Int), (∀ d ∈ l, d.links.Nodup) → (f i = if (fnd X i).isSome = true then (((holL P i).length : Int), (holL P i).headD 0) else (0, 0)) →
  l.foldl (stpD X) f i = if (fnd X i).isSome = true then (((holL (P ++ l) i).length : Int), (holL (P ++ l) i).headD 0) else (0, 0)
 | [], P, f, _, hf => by rw [List.foldl_nil, hf, List.append_nil]
 | d :: r, P, f, hl, hf => by
  rw [List.foldl_cons, show P ++ d :: r = (P ++ [d]) ++ r by simp]
  refine hld_pre hs i r (P ++ [d]) _ (fun x hx => hl x (List.mem_cons_of_mem _ hx)) ?_
  rw [stpD_at hs (hl d (List.mem_cons_self ..)), hf, holL_app]
  by_cases hi : (fnd X i).isSome = true
  ·rw [if_pos hi, if_pos hi]
   by_cases q : i ∈ d.links
   ·rw [if_pos ⟨q, hi⟩]
    have e : holL [d] i = [d.id] := by unfold holL; rw [List.filter_cons_of_pos (by simpa using q)]; rfl
    rw [e]
    cases holL P i with
    | nil => simp
    | cons a t =>
     simp only [List.headD_cons, List.cons_append, List.length_cons, List.length_append, List.length_nil]
     rw [if_neg (by omega)]
     congr 1
   ·rw [if_neg (fun c => q c.1)]
    have e : holL [d] i = [] := by unfold holL; rw [List.filter_cons_of_neg (by simpa using q)]; rfl
    rw [e, List.append_nil]
  ·rw [if_neg hi, if_neg hi, if_neg (fun c => hi c.2)]
theorem hld_at {X : List Ob} (hs : Srt X) (hl : ∀ d ∈ X, d.links.Nodup) (i : Int) : hldF X i = if (fnd X i).isSome = true then (((holL X i).length : Int), (holL X i).headD 0) else (0, 0) :=
 hld_pre hs i X [] (fun _ => (0, 0)) hl (by split <;> rfl)
theorem holL_mem {X : List Ob} {i h : Int} (q : h ∈ holL X i) : ∃ d ∈ X, d.id = h ∧ i ∈ d.links := by
 unfold holL at q
 obtain ⟨d, hd, e⟩ := List.mem_map.1 q
 obtain ⟨h1, h2⟩ := List.mem_filter.1 hd
 exact ⟨d, h1, e, by simpa using h2⟩
theorem fnd_mem {X : List Ob} {d : Ob} (h : d ∈ X) : (fnd X d.id).isSome = true := by
 unfold fnd
 rw [List.find?_isSome]
 exact ⟨d, h, by simp⟩
theorem fnd_self {X : List Ob} (hs : Srt X) {d : Ob} (h : d ∈ X) : fnd X d.id = some d := by
 obtain ⟨i, hi, e⟩ := List.getElem_of_mem h
 have e' : oat X i = d := by rw [oat_get hi]; exact e
 obtain ⟨x, hx⟩ := Option.isSome_iff_exists.1 (fnd_mem h)
 have := fnd_id hx
 obtain ⟨j, hj, ej⟩ := List.getElem_of_mem this.2
 have hij : i = j := by
  rcases Nat.lt_trichotomy i j with q | q | q
  ·have := List.pairwise_iff_getElem.1 hs i j hi hj q; rw [e, ej] at this; omega
  ·exact q
  ·have := List.pairwise_iff_getElem.1 hs j i hj hi q; rw [e, ej] at this; omega
 subst hij
 rw [hx, ← e, ← ej]
theorem ups_abv {X : List Ob} (hs : Srt X) (hl : ∀ d ∈ X, d.links.Nodup) : ∀ (n : Nat) (i : Int), (fnd X i).isSome = true → upsF (hldF X) n (hldF X i) = abvL X n i
 | 0, i, _ => by unfold upsF abvL; rfl
 | n + 1, i, hi => by
  unfold upsF abvL
  rw [hld_at hs hl i, if_pos hi]
  cases hh : holL X i with
  | nil => simp
  | cons a t =>
   have ha : a ∈ holL X i := by rw [hh]; exact List.mem_cons_self ..
   obtain ⟨d, hd, e, _⟩ := holL_mem ha
   have hf : (fnd X a).isSome = true := by rw [← e]; exact fnd_mem hd
   have hz : ¬ (((a :: t).length : Int) = 0) := by simp only [List.length_cons]; omega
   simp only [hz, if_false, List.headD_cons]
   rw [ups_abv hs hl n a hf]
theorem abv_snoc (X : List Ob) : ∀ (f : Nat) (i : Int), (abvL X f i).length = f → abvL X (f + 1) i = abvL X f i ++ (holL X ((abvL X f i).getLast?.getD i)).head?.toList
 | 0, i, _ => by
  cases hh : holL X i with
  | nil => simp [abvL, hh]
  | cons a t => simp [abvL, hh]
 | f + 1, i, h => by
  cases hh : holL X i with
  | nil => unfold abvL at h; rw [hh] at h; simp at h
  | cons a t =>
   have e1 : abvL X (f + 1) i = a :: abvL X f a := by conv => lhs; unfold abvL; rw [hh]
   have e2 : abvL X (f + 1 + 1) i = a :: abvL X (f + 1) a := by conv => lhs; unfold abvL; rw [hh]
   rw [e1] at h ⊢
   rw [e2, abv_snoc X f a (by simpa using h), List.cons_append]
   congr 3
   cases abvL X f a with
   | nil => rfl
   | cons b r =>
    rw [List.getLast?_cons_cons]
    cases hg : (b :: r).getLast? with
    | none => simp at hg
    | some z => rfl
theorem abv_more' (X : List Ob) (f : Nat) (i : Int) (h : (abvL X f i).length < f) : abvL X (f + 1) i = abvL X f i := abv_more X f i h (f + 1) (Nat.le_succ f)
def upB (X : List Ob) (ro i : Int) : Bool := (decide (i = ro) && decide ((rabv X i).length = 0)) || (decide (0 < (rabv X i).length) && decide ((rabv X i).getLast?.getD 0 = ro))
theorem up_top {X : List Ob} {ro i : Int} (hs : Srt X) (hl : ∀ d ∈ X, d.links.Nodup) (hi : (fnd X i).isSome = true) (hro : holL X ro = []) (hne : i ≠ ro) (hh : holL X i ≠ []) : upB X ro i = (topF (hldF X) X.length i == ro) := by
 unfold topF
 rw [ups_abv hs hl _ i hi]
 have hpos : 0 < X.length := by
  cases X with
  | nil => cases hi
  | cons _ _ => exact Nat.succ_pos _
 have hlen := abv_len X X.length i
 have hne0 : abvL X X.length i ≠ [] := by
  obtain ⟨m, hm⟩ : ∃ m, X.length = m + 1 := ⟨X.length - 1, by omega⟩
  rw [hm]
  unfold abvL
  cases hc : holL X i with
  | nil => exact absurd hc hh
  | cons a t => simp
 have hlast : ∃ z, (abvL X X.length i).getLast? = some z := by
  cases hc : (abvL X X.length i).getLast? with
  | none => exact absurd (List.getLast?_eq_none_iff.1 hc) hne0
  | some z => exact ⟨z, rfl⟩
 obtain ⟨z, hz⟩ := hlast
 unfold upB
 rw [decide_eq_false hne, Bool.false_and, Bool.false_or, hz, Option.getD_some]
 by_cases hfull : (abvL X X.length i).length = X.length
 ·have hsn := abv_snoc X X.length i hfull
  rw [hz, Option.getD_some] at hsn
  by_cases hzr : z = ro
  ·rw [hzr, hro] at hsn
   simp only [List.head?_nil, Option.toList_none, List.append_nil] at hsn
   have hr : rabv X i = abvL X X.length i := by unfold rabv; rw [hsn, if_pos hlen]
   rw [hr, hz, hfull, hzr, decide_eq_true hpos]
   simp
  ·have hr : rabv X i = [] ∨ rabv X i = abvL X X.length i := by
    unfold rabv
    split
    ·rename_i hq
     rw [hsn] at hq ⊢
     cases hc : (holL X z).head? with
     | none => exact .inr (by simp)
     | some y => rw [hc] at hq; simp at hq; omega
    ·exact .inl rfl
   have hzb : (z == ro) = false := by simpa using hzr
   rw [hzb]
   rcases hr with hr | hr
   ·rw [hr]; rfl
   ·rw [hr, hz, Option.getD_some, decide_eq_false hzr, Bool.and_false]
 ·have hm := abv_more' X X.length i (by omega)
  have hr : rabv X i = abvL X X.length i := by unfold rabv; rw [hm, if_pos hlen]
  rw [hr, hz, Option.getD_some, decide_eq_true (List.length_pos_iff.2 hne0), Bool.true_and]
  by_cases hzr : z = ro
  ·rw [hzr]; simp
  ·rw [decide_eq_false hzr]; symm; simpa using hzr
end Go.Proofs.YtnhjfjhbmekamaaGreat
namespace Go.Proofs.YtnhjfjhbmekamaaGreat
set_option maxRecDepth 100000
set_option maxHeartbeats 8000000

def lnkB (X : List Ob) (d : Ob) : Bool := (d.links.all fun i => (fnd X i).isSome && plcB d.label (fO X i).label) && (!decide (d.kind = 2) || decide (usesN X d ≤ d.quota))
def plaB (X : List Ob) (ro : Int) (o : Ob) : Bool :=
 if o.id = ro then decide ((holL X o.id).length = 0) && (decide (o.kind = 2) && decide (o.quota ≤ 1024))
 else (decide (1 ≤ (holL X o.id).length) && !(decide (1 < (holL X o.id).length) && (!o.fixed || sngO o))) && (!decide (o.kind = 2) || upB X ro o.id)
def rapB (a b c d : Nat) : Bool := decide (a = b) || (decide (c = d) || (decide (b ≤ c) || decide (d ≤ a)))
def rowB (key : Nat) (X : List Ob) (i k : Nat) : Bool := !(SrM.hasK key (oat X i).th.lo.toNat (oat X i).th.hi.toNat (oat X k).id.toNat || (decide ((oat X k).kind = 4) && (decide (k ≠ i) && !rapB (oat X i).th.lo.toNat (oat X i).th.hi.toNat (oat X k).th.lo.toNat (oat X k).th.hi.toNat)))
def spaB (key : Nat) (X : List Ob) : Bool := (List.range X.length).all fun i => !decide ((oat X i).kind = 4) || (List.range X.length).all fun k => rowB key X i k
def fitD (t : Int) (key : Nat) (ro : Int) (X : List Ob) : Bool := (fitW ⟨t, key, ro, X⟩ && (fnd X ro).isSome) && (((List.range X.length).all fun j => lnkB X (oat X j) && plaB X ro (oat X j)) && spaB key X)
theorem all_oat {X : List Ob} {p : Ob → Bool} : ((List.range X.length).all fun j => p (oat X j)) = true ↔ ∀ o ∈ X, p o = true := by
 rw [List.all_eq_true]
 constructor
 ·intro h o ho
  obtain ⟨i, hi, e⟩ := List.getElem_of_mem ho
  have := h i (List.mem_range.2 hi)
  rwa [oat_get hi, e] at this
 ·intro h j hj
  exact h _ (oat_mem (List.mem_range.1 hj))
theorem links_nil {x : Ob} (h : soundB x = true) (hk : x.kind ≠ 2) : x.links = [] := by
 have ha : aloO x = x := (alone_iff x).1 (sound_iff.1 h).2.2
 rw [← ha]
 unfold aloO comO
 rw [if_neg hk]
 split
 ·rfl
 split
 ·rfl
 split
 ·rfl
 split
 ·rfl
 split <;> rfl
theorem links_rise {x : Ob} (h : soundB x = true) : x.links.Pairwise (· < ·) := by
 by_cases hk : x.kind = 2
 ·have := (sound_iff.1 h).2.1
  unfold ownB at this
  rw [if_neg (by rw [hk]; decide), if_pos hk] at this
  simp only [Bool.and_eq_true, risB, decide_eq_true_eq] at this
  exact this.2.2
 ·rw [links_nil h hk]; exact List.Pairwise.nil
theorem links_nodup {x : Ob} (h : soundB x = true) : x.links.Nodup := (links_rise h).imp fun h => by omega
theorem hit_all {X : List Ob} (hs : Srt X) {p : Lb → Bool} : ∀ l : List Int, (((hitO X l).all fun m => p (oat X m).label) && decide ((hitO X l).length = l.length)) = l.all fun i => (fnd X i).isSome && p (fO X i).label
 | [] => rfl
 | a :: r => by
  have ih := hit_all hs (p := p) r
  have hle : (hitO X r).length ≤ r.length := by unfold hitO; exact List.length_filterMap_le ..
  rw [List.all_cons, ← ih]
  unfold hitO at hle ⊢
  cases hw : wh X a with
  | none =>
   have hn : (fnd X a).isSome = false := by
    unfold wh at hw
    split at hw
    ·cases hw
    ·rename_i q; simpa using q
   rw [List.filterMap_cons_none hw, hn, Bool.false_and, Bool.false_and, decide_eq_false (by simp only [List.length_cons]; omega), Bool.and_false]
  | some m =>
   have hq := wh_lt hs hw
   have hf : fO X a = oat X m := by unfold fO; rw [hq.2]; rfl
   rw [List.filterMap_cons_some hw, List.all_cons, hq.2, hf, Option.isSome_some, Bool.true_and, Bool.and_assoc]
   congr 2
   rw [List.length_cons, List.length_cons]
   exact decide_eq_decide.2 (by omega)
theorem keep_lnk {X : List Ob} (hs : Srt X) {o : Ob} (h : soundB o = true) : keepB X o = lnkB X o := by
 unfold keepB lnkB
 rw [← Bool.and_assoc, hit_all hs (p := fun L => plcB o.label L)]
 congr 1
 rw [pag_eq h]
 by_cases hk : o.kind = 2
 ·rw [decide_eq_true hk, Bool.not_true, Bool.false_or]
  unfold usesN
  exact decide_eq_decide.2 (by omega)
 ·rw [decide_eq_false hk, Bool.not_false, Bool.true_or, links_nil h hk]
  have := pag_quota h
  simp only [List.map_nil, List.sum_nil]
  exact decide_eq_true (by omega)
theorem rap_eq {a b c d : Nat} (h : a ≤ b) (h' : c ≤ d) : SrM.apartB a b c d = rapB a b c d := by
 unfold SrM.apartB SrM.ltB SrM.mxN SrM.mnN rapB
 rw [Bool.eq_iff_iff]
 simp only [Bool.not_eq_true', Bool.or_eq_true, decide_eq_true_eq, decide_eq_false_iff_not]
 omega
theorem span_le {x : Ob} (h : soundB x = true) (hk : x.kind = 4) : x.th.lo.toNat ≤ x.th.hi.toNat := by
 have := (sound_iff.1 h).2.1
 unfold ownB at this
 rw [if_neg (by rw [hk]; decide), if_neg (by rw [hk]; decide), if_neg (by rw [hk]; decide), if_pos hk] at this
 unfold thrB spanB at this
 simp only [Bool.and_eq_true, decide_eq_true_eq] at this
 omega
theorem id_pos {x : Ob} (h : soundB x = true) : 1 ≤ x.id := by
 have := (com_iff.1 (sound_iff.1 h).1).1
 unfold idB at this
 simp only [Bool.and_eq_true, decide_eq_true_eq] at this
 omega
theorem oat_inj {X : List Ob} (hs : Srt X) {i j : Nat} (hi : i < X.length) (hj : j < X.length) : (oat X j).id = (oat X i).id ↔ j = i := by
 rw [oat_get hi, oat_get hj]
 constructor
 ·intro e
  rcases Nat.lt_trichotomy i j with q | q | q
  ·have := List.pairwise_iff_getElem.1 hs i j hi hj q; omega
  ·exact q.symm
  ·have := List.pairwise_iff_getElem.1 hs j i hj hi q; omega
 ·intro e; subst e; rfl
theorem own_row {key : Nat} {X : List Ob} (hs : Srt X) (hso : ∀ x ∈ X, soundB x = true) {i : Nat} (hi : i < X.length) (h4 : (oat X i).kind = 4) : ownO key X (oat X i) = (List.range X.length).all fun k => rowB key X i k := by
 unfold ownO
 rw [Bool.eq_iff_iff, List.all_eq_true, List.all_eq_true]
 refine forall_congr' fun k => forall_congr' fun hk => ?_
 have hk' := List.mem_range.1 hk
 have s1 := hso _ (oat_mem hi)
 have s2 := hso _ (oat_mem hk')
 have p2 := id_pos s2
 have hid : (((oat X k).id.toNat : Int) = (oat X i).id) ↔ k = i := by rw [Int.toNat_of_nonneg (by omega)]; exact oat_inj hs hi hk'
 have hde : decide (((oat X k).id.toNat : Int) = (oat X i).id) = decide (k = i) := decide_eq_decide.2 hid
 unfold ownN rowB
 by_cases q4 : (oat X k).kind = 4
 ·rw [rap_eq (span_le s1 h4) (span_le s2 q4), hde]
  by_cases e : k = i
  ·simp [e]
  ·simp [q4, e]
   exact and_comm
 ·simp [q4]
theorem span_all {key : Nat} {X : List Ob} (hs : Srt X) (hso : ∀ x ∈ X, soundB x = true) : spaB key X = true ↔ ∀ o ∈ X, o.kind = 4 → ownO key X o = true := by
 unfold spaB
 rw [List.all_eq_true]
 constructor
 ·intro h o ho h4
  obtain ⟨i, hi, e⟩ := List.getElem_of_mem ho
  have hoi : oat X i = o := by rw [oat_get hi]; exact e
  rw [← hoi] at h4 ⊢
  have := h i (List.mem_range.2 hi)
  rw [decide_eq_true h4, Bool.not_true, Bool.false_or] at this
  rw [own_row hs hso hi h4]
  exact this
 ·intro h i hi
  have hi' := List.mem_range.1 hi
  by_cases h4 : (oat X i).kind = 4
  ·rw [decide_eq_true h4, Bool.not_true, Bool.false_or, ← own_row hs hso hi' h4]
   exact h _ (oat_mem hi') h4
  ·rw [decide_eq_false h4]; rfl
theorem fit_mem {t ke ro : Int} {X : List Ob} (h : fitW ⟨t, ke, ro, X⟩ = true) : Srt X ∧ (∀ x ∈ X, soundB x = true) ∧ X.length ≤ 1024 := by
 unfold fitW at h
 simp only [Bool.and_eq_true, decide_eq_true_eq, List.all_eq_true] at h
 exact ⟨idsB_iff.1 h.2.2.2.1, h.2.2.2.2, h.2.2.1⟩
theorem fit_eq (t : Int) (key : Nat) (ro : Int) (X : List Ob) : fitT t key ro X = fitD t key ro X := by
 unfold fitT fitD
 cases hf : fitW ⟨t, key, ro, X⟩ with
 | false => rfl
 | true =>
  obtain ⟨hs, hso, _⟩ := fit_mem hf
  have hl : ∀ d ∈ X, d.links.Nodup := fun d hd => links_nodup (hso d hd)
  rw [Bool.true_and, Bool.true_and, Bool.eq_iff_iff]
  simp only [Bool.and_eq_true]
  rw [all_oat (p := fun o => whoB key X ro (hldF X) o), all_oat (p := fun o => lnkB X o && plaB X ro o), span_all hs hso]
  have hcnt : ∀ o ∈ X, (hldF X o.id).1 = ((holL X o.id).length : Int) := fun o ho => by rw [hld_at hs hl, if_pos (fnd_mem ho)]
  constructor
  ·rintro ⟨hr, hw⟩
   unfold rotB at hr
   simp only [Bool.and_eq_true, decide_eq_true_eq] at hr
   obtain ⟨r, hrf⟩ := Option.isSome_iff_exists.1 hr.1
   have hri := fnd_id hrf
   have hfr : fO X ro = r := by unfold fO; rw [hrf]; rfl
   rw [hfr] at hr
   have hrh : holL X ro = [] := by
    have := hw r hri.2
    unfold whoB liesB at this
    simp only [Bool.and_eq_true] at this
    have := this.2.1
    rw [if_pos hri.1, decide_eq_true_iff, hcnt r hri.2, hri.1] at this
    exact List.eq_nil_of_length_eq_zero (by omega)
   refine ⟨hr.1, fun o ho => ?_, fun o ho h4 => ?_⟩
   ·have := hw o ho
    unfold whoB at this
    simp only [Bool.and_eq_true] at this
    obtain ⟨h1, h2, h3⟩ := this
    rw [Bool.and_eq_true, ← keep_lnk hs (hso o ho)]
    refine ⟨h1, ?_⟩
    unfold plaB
    unfold liesB at h2
    rw [hcnt o ho] at h2
    by_cases e : o.id = ro
    ·have hor : o = r := by have := fnd_self hs ho; rw [e, hrf] at this; exact (Option.some.inj this).symm
     rw [if_pos e, e, hrh, hor, decide_eq_true hr.2.1, decide_eq_true hr.2.2]
     rfl
    ·rw [if_neg e] at h2 ⊢
     have hge : 1 ≤ (holL X o.id).length := by
      simp only [Bool.or_eq_true, Bool.and_eq_true, decide_eq_true_eq] at h2
      omega
     have hne : holL X o.id ≠ [] := fun q => by rw [q] at hge; simp at hge
     rw [decide_eq_true hge, Bool.true_and, Bool.and_eq_true]
     refine ⟨?_, ?_⟩
     ·by_cases q : 1 < (holL X o.id).length
      ·have q1 : ¬ (((holL X o.id).length : Int) = 1) := by omega
       rw [decide_eq_false q1, Bool.false_or, Bool.and_eq_true, Bool.and_eq_true] at h2
       rw [decide_eq_true q, h2.2.1, Bool.true_and]
       simpa using h2.2.2
      ·rw [decide_eq_false q]; rfl
     ·by_cases k2 : o.kind = 2
      ·rw [if_pos k2, ← up_top hs hl (fnd_mem ho) hrh e hne] at h3
       rw [h3, Bool.or_true]
      ·rw [decide_eq_false k2]; rfl
   ·have := hw o ho
    unfold whoB at this
    simp only [Bool.and_eq_true] at this
    have h3 := this.2.2
    rwa [if_neg (by rw [h4]; decide), if_pos h4] at h3
  ·rintro ⟨hrs, hlp, hsp⟩
   obtain ⟨r, hrf⟩ := Option.isSome_iff_exists.1 hrs
   have hri := fnd_id hrf
   have hfr : fO X ro = r := by unfold fO; rw [hrf]; rfl
   have hpr := hlp r hri.2
   rw [Bool.and_eq_true] at hpr
   have hp := hpr.2
   unfold plaB at hp
   rw [if_pos hri.1, hri.1] at hp
   simp only [Bool.and_eq_true, decide_eq_true_eq] at hp
   have hrh : holL X ro = [] := List.eq_nil_of_length_eq_zero hp.1
   refine ⟨?_, fun o ho => ?_⟩
   ·unfold rotB
    rw [hfr, hrs, decide_eq_true hp.2.1, decide_eq_true hp.2.2]
    rfl
   ·have hlo := hlp o ho
    rw [Bool.and_eq_true] at hlo
    obtain ⟨h1, h2⟩ := hlo
    unfold whoB
    rw [keep_lnk hs (hso o ho), h1, Bool.true_and, Bool.and_eq_true]
    unfold plaB at h2
    unfold liesB
    rw [hcnt o ho]
    by_cases e : o.id = ro
    ·rw [if_pos e, e, hrh]
     refine ⟨rfl, ?_⟩
     by_cases k2 : o.kind = 2
     ·rw [if_pos k2]
      have : topF (hldF X) X.length ro = ro := by
       unfold topF
       rw [ups_abv hs hl _ ro hrs]
       cases X with
       | nil => cases hrs
       | cons a l =>
        show (abvL (a :: l) (l.length + 1) ro).getLast?.getD ro = ro
        unfold abvL
        rw [hrh]
        rfl
      rw [this]
      simp
     ·rw [if_neg k2]
      split
      ·rename_i h4; exact hsp o ho h4
      ·rfl
    ·rw [if_neg e] at h2 ⊢
     simp only [Bool.and_eq_true, decide_eq_true_eq] at h2
     obtain ⟨⟨hge, hfx⟩, hup⟩ := h2
     have hne : holL X o.id ≠ [] := fun q => by rw [q] at hge; simp at hge
     refine ⟨?_, ?_⟩
     ·by_cases q : 1 < (holL X o.id).length
      ·have q1 : ¬ (((holL X o.id).length : Int) = 1) := by omega
       rw [decide_eq_true q, Bool.true_and] at hfx
       rw [decide_eq_false q1, Bool.false_or, decide_eq_true (by omega), Bool.true_and]
       simpa using hfx
      ·rw [decide_eq_true (by omega)]; rfl
     ·by_cases k2 : o.kind = 2
      ·rw [if_pos k2, ← up_top hs hl (fnd_mem ho) hrh e hne]
       rw [decide_eq_true k2] at hup
       simpa using hup
      ·rw [if_neg k2]
       split
       ·rename_i h4; exact hsp o ho h4
       ·rfl
end Go.Proofs.YtnhjfjhbmekamaaGreat
