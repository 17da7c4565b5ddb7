/-
 PROVED HERE: what the law's few of chapter 14 returns when it is called (a contract over this translation); plain facts on . What is asked stands at each.
-/
import Derived.Test.YtdeddhojjolihaaGreatZ17
import Derived.Test.YtdeddhojjolihaaGreatZ18
import Derived.Test.YtdeddhojjolihaaGreatZ25
namespace Go.Proofs.YtdeddhojjolihaaGreat
set_option maxRecDepth 100000
set_option maxHeartbeats 8000000
set_option linter.unusedVariables false
section
open Go.RowKit Go.Shelf
attribute [local go_sem] Oper.semAt_some
def fewO (x : Ob) : Prop := x.label.length ≤ 20 ∧ x.links.length ≤ 70 ∧ x.data.length ≤ 300 ∧ x.maps.length ≤ 20
end
section
structure Tre (X : List Ob) (ro : Int) : Prop where
 srt : Srt X
 snd : ∀ x ∈ X, qQz x = true
 len : X.length ≤ 1024
 rot : ∃ r, fnd X ro = some r ∧ r.kind = 2 ∧ r.quota ≤ 1024
 hro : holL X ro = []
 hol : ∀ o ∈ X, o.id ≠ ro → holL X o.id ≠ []
 lnk : ∀ d ∈ X, ∀ i ∈ d.links, (fnd X i).isSome = true ∧ plcB d.label (fO X i).label = true
 use : ∀ d ∈ X, d.kind = 2 → kRz X d ≤ d.quota
 upw : ∀ o ∈ X, o.kind = 2 → o.id ≠ ro → upB X ro o.id = true
theorem xbz {t : Int} {key : Nat} {ro : Int} {X : List Ob} (h : fitD t key ro X = true) : Tre X ro := by
 unfold fitD at h
 simp only [Bool.and_eq_true] at h
 obtain ⟨⟨hf, hr⟩, hlp, _⟩ := h
 obtain ⟨hs, hso, hlen⟩ := vIz hf
 rw [all_oat (p := fun o => lnkB X o && plaB X ro o)] at hlp
 obtain ⟨r, hrf⟩ := Option.isSome_iff_exists.1 hr
 have hri := xIz hrf
 have hp := hlp r hri.2
 rw [Bool.and_eq_true] at hp
 have hp2 := hp.2
 unfold plaB at hp2
 rw [if_pos hri.1, hri.1] at hp2
 simp only [Bool.and_eq_true, decide_eq_true_eq] at hp2
 refine ⟨hs, hso, hlen, ⟨r, hrf, hp2.2.1, hp2.2.2⟩, List.eq_nil_of_length_eq_zero hp2.1, ?_, ?_, ?_, ?_⟩
 ·intro o ho hne
  have := hlp o ho
  rw [Bool.and_eq_true] at this
  have h2 := this.2
  unfold plaB at h2
  rw [if_neg hne] at h2
  simp only [Bool.and_eq_true, decide_eq_true_eq] at h2
  intro q
  rw [q] at h2
  simp at h2
 ·intro d hd i hi
  have := hlp d hd
  rw [Bool.and_eq_true] at this
  have h1 := this.1
  unfold lnkB at h1
  simp only [Bool.and_eq_true, List.all_eq_true] at h1
  exact h1.1 i hi
 ·intro d hd k2
  have := hlp d hd
  rw [Bool.and_eq_true] at this
  have h1 := this.1
  unfold lnkB at h1
  simp only [Bool.and_eq_true, Bool.or_eq_true, Bool.not_eq_true', decide_eq_true_eq, decide_eq_false_iff_not] at h1
  rcases h1.2 with q | q
  ·exact absurd k2 q
  ·exact q
 ·intro o ho k2 hne
  have := hlp o ho
  rw [Bool.and_eq_true] at this
  have h2 := this.2
  unfold plaB at h2
  rw [if_neg hne] at h2
  simp only [Bool.and_eq_true, Bool.or_eq_true, Bool.not_eq_true', decide_eq_false_iff_not] at h2
  rcases h2.2 with q | q
  ·exact absurd k2 q
  ·exact q
theorem alo_io {x : Ob} (h : aloO x = x) (hk : ¬ x.kind = 6) : x.inn = [] ∧ x.out = [] := by
 have e : (aloO x).inn = [] ∧ (aloO x).out = [] := by
  unfold aloO
  by_cases h1 : x.kind = 1
  ·rw [if_pos h1]; exact ⟨rfl, rfl⟩
  rw [if_neg h1]
  by_cases h2 : x.kind = 2
  ·rw [if_pos h2]; exact ⟨rfl, rfl⟩
  rw [if_neg h2]
  by_cases h3 : x.kind = 3
  ·rw [if_pos h3]; exact ⟨rfl, rfl⟩
  rw [if_neg h3]
  by_cases h4 : x.kind = 4
  ·rw [if_pos h4]; exact ⟨rfl, rfl⟩
  rw [if_neg h4]
  by_cases h5 : x.kind = 5
  ·rw [if_pos h5]; exact ⟨rfl, rfl⟩
  rw [if_neg h5, if_neg hk]; exact ⟨rfl, rfl⟩
 rw [h] at e; exact e
theorem voz {x : Ob} (hs : qQz x = true) (hf : x.links.length < 4294967296 ∧ x.data.length < 4294967296 ∧ x.maps.length < 4294967296) : Small x := by
 obtain ⟨hc, ho, hw⟩ := qqz.1 hs
 have ha := (qUz x).1 hw
 have b1 := (qDz.1 (q9z.1 hc).2.2.2.1).1
 have hth : x.th.clear.length < 8796093022208 ∧ x.th.l0.length < 8796093022208 ∧ x.th.l1.length < 8796093022208 ∧ x.th.l2.length < 8796093022208 ∧ x.th.l3.length < 8796093022208 ∧ x.th.alerts.length < 4294967296 := by
  by_cases h4 : x.kind = 4
  ·obtain ⟨_, q1, q2⟩ := (own4 h4).1 ho
   have k1 := (qDz.1 (wtz.1 q1).2.1).1
   have q3 := (w1z.1 q2).1
   have k2 := (qDz.1 (q3 0 (by omega))).1
   have k3 := (qDz.1 (q3 1 (by omega))).1
   have k4 := (qDz.1 (q3 2 (by omega))).1
   have k5 := (qDz.1 (q3 3 (by omega))).1
   simp only [labs] at k2 k3 k4 k5
   have k6 : x.th.alerts.length ≤ 8 := by
    unfold thrB at q2
    simp only [Bool.and_eq_true, decide_eq_true_eq] at q2
    omega
   omega
  ·rw [alo_th ha h4]; decide
 have hgt : x.gt.grant.length < 8796093022208 ∧ x.gt.clear.length < 8796093022208 := by
  by_cases h5 : x.kind = 5
  ·have q := wtz.1 ((own5 h5).1 ho)
   have k1 := (qDz.1 q.1).1
   have k2 := (qDz.1 q.2.1).1
   omega
  ·rw [alo_gt ha h5]; decide
 have hio : x.inn.length < 4294967296 ∧ x.out.length < 4294967296 := by
  by_cases h6 : x.kind = 6
  ·unfold ownB at ho
   rw [if_neg (by rw [h6]; decide), if_neg (by rw [h6]; decide), if_neg (by rw [h6]; decide), if_neg (by rw [h6]; decide), if_neg (by rw [h6]; decide), if_pos h6] at ho
   simp only [Bool.and_eq_true, decide_eq_true_eq] at ho
   omega
  ·rw [(alo_io ha h6).1, (alo_io ha h6).2]; decide
 exact ⟨by omega, hf.1, hf.2.1, hf.2.2, hth.1, hth.2.2.2.2.2, hth.2.1, hth.2.2.1, hth.2.2.2.1, hth.2.2.2.2.1, hgt.1, hgt.2, hio.1, hio.2⟩
end
section
structure Kin (x y : Ob) : Prop where
 id : y.id = x.id
 kind : y.kind = x.kind
 label : y.label = x.label
 quota : y.quota = x.quota
 fixed : y.fixed = x.fixed
 links : y.links = x.links
 dlen : y.data.length = x.data.length
 lo : y.th.lo = x.th.lo
 hi : y.th.hi = x.th.hi
theorem Kin.refl (x : Ob) : Kin x x := ⟨rfl, rfl, rfl, rfl, rfl, rfl, rfl, rfl, rfl⟩
variable {g : Ob → Ob}
theorem jxz {i : Int} : ∀ {X : List Ob}, (∀ x ∈ X, Kin x (g x)) → fnd (X.map g) i = (fnd X i).map g
 | [], _ => rfl
 | a :: r, h => by
  have ih := jxz (i := i) (X := r) fun x hx => h x (List.mem_cons_of_mem _ hx)
  unfold fnd at ih ⊢
  rw [List.map_cons, List.find?_cons, List.find?_cons, (h a (List.mem_cons_self ..)).id]
  by_cases e : a.id = i
  ·rw [decide_eq_true e]; rfl
  ·rw [decide_eq_false e]; exact ih
theorem xRz {X : List Ob} {k : Nat} (hk : k < X.length) : oat (X.map g) k = g (oat X k) := by
 rw [qCz (by simpa using hk), qCz hk, List.getElem_map]
theorem vGz {i : Int} : ∀ {X : List Ob}, (∀ x ∈ X, Kin x (g x)) → holL (X.map g) i = holL X i
 | [], _ => rfl
 | a :: r, h => by
  have ih := vGz (i := i) (X := r) fun x hx => h x (List.mem_cons_of_mem _ hx)
  have k := h a (List.mem_cons_self ..)
  unfold holL at ih ⊢
  rw [List.map_cons, List.filter_cons, List.filter_cons, k.links]
  by_cases e : i ∈ a.links
  ·rw [if_pos (decide_eq_true e), if_pos (decide_eq_true e), List.map_cons, List.map_cons, k.id, ih]
  ·rw [if_neg (by simpa using e), if_neg (by simpa using e)]; exact ih
section
variable {g : Ob → Ob} {X : List Ob}
theorem q_map (h : ∀ x ∈ X, Kin x (g x)) (i : Int) : qOf (X.map g) i = qOf X i := by
 unfold qOf
 rw [jxz h]
 cases e : fnd X i with
 | none => rfl
 | some x => exact (h x (xIz e).2).quota
theorem gMz (h : ∀ x ∈ X, Kin x (g x)) : ∀ (f : Nat) (i : Int), abvL (X.map g) f i = abvL X f i
 | 0, _ => rfl
 | f + 1, i => by
  unfold abvL
  rw [vGz h]
  cases holL X i with
  | nil => rfl
  | cons a r => simp only; rw [gMz h f a]
theorem rabv_map (h : ∀ x ∈ X, Kin x (g x)) (i : Int) : rabv (X.map g) i = rabv X i := by
 unfold rabv
 rw [List.length_map, gMz h]
theorem uses_map (h : ∀ x ∈ X, Kin x (g x)) {o : Ob} (ho : o ∈ X) : kRz (X.map g) (g o) = kRz X o := by
 unfold kRz pagN
 rw [(h o ho).dlen, (h o ho).links, show (o.links.map (qOf (X.map g))) = o.links.map (qOf X) from List.map_congr_left fun i _ => q_map h i]
theorem lnk_map (h : ∀ x ∈ X, Kin x (g x)) {o : Ob} (ho : o ∈ X) : lnkB (X.map g) (g o) = lnkB X o := by
 unfold lnkB
 rw [uses_map h ho, (h o ho).links, (h o ho).label, (h o ho).kind, (h o ho).quota]
 refine congrArg (· && _) ?_
 refine congrArg (fun f => o.links.all f) (funext fun i => ?_)
 unfold fO
 rw [jxz h]
 cases e : fnd X i with
 | none => rfl
 | some x => show (true && plcB o.label (g x).label) = (true && plcB o.label x.label); rw [(h x (xIz e).2).label]
theorem pla_map (h : ∀ x ∈ X, Kin x (g x)) {ro : Int} {o : Ob} (ho : o ∈ X) : plaB (X.map g) ro (g o) = plaB X ro o := by
 unfold plaB upB sngO
 rw [vGz h, (h o ho).id, (h o ho).kind, (h o ho).quota, (h o ho).fixed, rabv_map h]
theorem row_map (h : ∀ x ∈ X, Kin x (g x)) {key i k : Nat} (hi : i < X.length) (hk : k < X.length) : rowB key (X.map g) i k = rowB key X i k := by
 unfold rowB
 have a := h _ (q4z hi)
 have b := h _ (q4z hk)
 rw [xRz hi, xRz hk, a.lo, a.hi, b.lo, b.hi, b.kind, b.id]
theorem kPz {n : Nat} {p q : Nat → Bool} (h : ∀ j, j < n → p j = q j) : (List.range n).all p = (List.range n).all q := by
 rw [Bool.eq_iff_iff, List.all_eq_true, List.all_eq_true]
 exact ⟨fun c j hj => (h j (List.mem_range.1 hj)) ▸ c j hj, fun c j hj => (h j (List.mem_range.1 hj)).symm ▸ c j hj⟩
theorem spa_map (h : ∀ x ∈ X, Kin x (g x)) (key : Nat) : spaB key (X.map g) = spaB key X := by
 unfold spaB
 rw [List.length_map]
 refine kPz fun i hi => ?_
 rw [xRz hi, (h _ (q4z hi)).kind]
 exact congrArg _ (kPz fun k hk => row_map h hi hk)
theorem ids_map (h : ∀ x ∈ X, Kin x (g x)) : (X.map g).map Ob.id = X.map Ob.id := by
 rw [List.map_map]
 exact List.map_congr_left fun x hx => (h x hx).id
theorem fit_map (h : ∀ x ∈ X, Kin x (g x)) (hs : ∀ x ∈ X, qQz (g x) = true) {t ro : Int} {key : Nat} (hf : fitD t key ro X = true) : fitD t key ro (X.map g) = true := by
 have hsx : ∀ x ∈ X, qQz x = true := (xbz hf).snd
 unfold fitD at hf ⊢
 rw [spa_map h, jxz h, List.length_map, show ((List.range X.length).all fun j => lnkB (X.map g) (oat (X.map g) j) && plaB (X.map g) ro (oat (X.map g) j)) = (List.range X.length).all fun j => lnkB X (oat X j) && plaB X ro (oat X j) from kPz fun j hj => by
  rw [xRz hj, lnk_map h (q4z hj), pla_map h (q4z hj)], Option.isSome_map]
 simp only [Bool.and_eq_true] at hf ⊢
 refine ⟨⟨?_, hf.1.2⟩, hf.2⟩
 have hw := hf.1.1
 unfold fitW idsB at hw ⊢
 simp only [Bool.and_eq_true, List.all_eq_true] at hw ⊢
 obtain ⟨h1, h2, h3, h4, h5⟩ := hw
 rw [ids_map h]
 refine ⟨h1, h2, by simpa using h3, h4, fun y hy => ?_⟩
 obtain ⟨x, hx, rfl⟩ := List.mem_map.1 hy
 exact hs x hx
end
theorem vyz {X : List Ob} (hs : Srt X) {y : Ob} (hy : (fnd X y.id).isSome = true) : puR X y = X.map fun x => if x.id = y.id then y else x := by
 refine ufz (srt_put hs y) ?_ fun x => ?_
 ·unfold Srt at hs ⊢
  rw [List.pairwise_map]
  refine hs.imp fun {a b} hab => ?_
  split <;> split <;> omega
 ·rw [mem_puR, List.mem_map]
  constructor
  ·rintro (rfl | ⟨h1, h2⟩)
   ·obtain ⟨z, hz⟩ := Option.isSome_iff_exists.1 hy
    exact ⟨z, (xIz hz).2, if_pos (xIz hz).1⟩
   ·exact ⟨x, h1, if_neg h2⟩
  ·rintro ⟨z, hz, rfl⟩
   by_cases e : z.id = y.id
   ·rw [if_pos e]; exact .inl rfl
   ·rw [if_neg e]; exact .inr ⟨hz, e⟩
end
end Go.Proofs.YtdeddhojjolihaaGreat
