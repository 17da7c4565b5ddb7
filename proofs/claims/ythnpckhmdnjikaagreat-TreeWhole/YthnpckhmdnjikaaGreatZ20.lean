/-
 PROVED HERE: plain facts on worlds in which some objects' words, or threads, are others, and ids, kinds, labels, quotas, li. What is asked stands at each.
-/
import Derived.Test.YthnpckhmdnjikaaGreatZ16
import Derived.Test.YthnpckhmdnjikaaGreatZ17
import Derived.Test.YthnpckhmdnjikaaGreatZ19
namespace Go.Proofs.YthnpckhmdnjikaaGreat
set_option maxRecDepth 100000
set_option maxHeartbeats 8000000
set_option linter.unusedVariables false
open Go.Proofs.Tryz
section
structure Kin (x y : Ob) : Prop where
 id : y.id = x.id
 kind : y.kind = x.kind
 label : y.label = x.label
 quota : y.quota = x.quota
 fixed : y.fixed = x.fixed
 links : y.links = x.links
 dlen : y.data.length = x.data.length
 lo : y.th.lo = x.th.lo
 hi : y.th.hi = x.th.hi
theorem Kin.refl (x : Ob) : Kin x x := ⟨rfl, rfl, rfl, rfl, rfl, rfl, rfl, rfl, rfl⟩
theorem v8z {g : Ob → Ob} {X : List Ob} {k : Nat} (hk : k < X.length) : oat (X.map g) k = g (oat X k) := by
 rw [qyz (by simpa using hk), qyz hk, List.getElem_map]
section
variable {g : Ob → Ob} {X : List Ob}
theorem vOz {n : Nat} {p q : Nat → Bool} (h : ∀ j, j < n → p j = q j) : (List.range n).all p = (List.range n).all q := by
 rw [Bool.eq_iff_iff, List.all_eq_true, List.all_eq_true]
 exact ⟨fun c j hj => (h j (List.mem_range.1 hj)) ▸ c j hj, fun c j hj => (h j (List.mem_range.1 hj)).symm ▸ c j hj⟩
end
theorem put_map {X : List Ob} (hs : Srt X) {y : Ob} (hy : (fnd X y.id).isSome = true) : puR X y = X.map fun x => if x.id = y.id then y else x := by
 refine joz (q2z hs y) ?_ fun x => ?_
 ·unfold Srt at hs ⊢
  rw [List.pairwise_map]
  refine hs.imp fun {a b} hab => ?_
  split <;> split <;> omega
 ·rw [q3z, List.mem_map]
  constructor
  ·rintro (rfl | ⟨h1, h2⟩)
   ·obtain ⟨z, hz⟩ := Option.isSome_iff_exists.1 hy
    exact ⟨z, (wsz hz).2, if_pos (wsz hz).1⟩
   ·exact ⟨x, h1, if_neg h2⟩
  ·rintro ⟨z, hz, rfl⟩
   by_cases e : z.id = y.id
   ·rw [if_pos e]; exact .inl rfl
   ·rw [if_neg e]; exact .inr ⟨hz, e⟩
theorem bnz {t ro : Int} {key : Nat} {Y : List Ob} (h1 : fitW ⟨t, key, ro, Y⟩ = true) (h2 : (fnd Y ro).isSome = true) (h3 : ∀ o ∈ Y, lnkB Y o = true) (h4 : ∀ o ∈ Y, plaB Y ro o = true) (h5 : spaB key Y = true) : fitD t key ro Y = true := by
 unfold fitD
 simp only [Bool.and_eq_true]
 exact ⟨⟨h1, h2⟩, (jYz (p := fun o => lnkB Y o && plaB Y ro o)).2 fun o ho => by rw [h3 o ho, h4 o ho]; rfl, h5⟩
theorem x1z {t ro : Int} {key : Nat} {Y : List Ob} (h : fitD t key ro Y = true) : fitW ⟨t, key, ro, Y⟩ = true ∧ (fnd Y ro).isSome = true ∧ (∀ o ∈ Y, lnkB Y o = true) ∧ (∀ o ∈ Y, plaB Y ro o = true) ∧ spaB key Y = true := by
 unfold fitD at h
 simp only [Bool.and_eq_true] at h
 have hh := (jYz (p := fun o => lnkB Y o && plaB Y ro o)).1 h.2.1
 refine ⟨h.1.1, h.1.2, fun o ho => ?_, fun o ho => ?_, h.2.2⟩
 ·have := hh o ho; rw [Bool.and_eq_true] at this; exact this.1
 ·have := hh o ho; rw [Bool.and_eq_true] at this; exact this.2
structure Kid (x y : Ob) : Prop where
 id : y.id = x.id
 kind : y.kind = x.kind
 label : y.label = x.label
 lo : y.th.lo = x.th.lo
 hi : y.th.hi = x.th.hi
theorem Kid.refl (x : Ob) : Kid x x := ⟨rfl, rfl, rfl, rfl, rfl⟩
theorem xez {g : Ob → Ob} {i : Int} : ∀ {X : List Ob}, (∀ x ∈ X, Kid x (g x)) → fnd (X.map g) i = (fnd X i).map g
 | [], _ => rfl
 | a :: r, h => by
  have ih := xez (i := i) (X := r) fun x hx => h x (List.mem_cons_of_mem _ hx)
  unfold fnd at ih ⊢
  rw [List.map_cons, List.find?_cons, List.find?_cons, (h a (List.mem_cons_self ..)).id]
  by_cases e : a.id = i
  ·rw [decide_eq_true e]; rfl
  ·rw [decide_eq_false e]; exact ih
section
variable {g : Ob → Ob} {X : List Ob}
theorem spa_kid (h : ∀ x ∈ X, Kid x (g x)) (key : Nat) : spaB key (X.map g) = spaB key X := by
 unfold spaB
 rw [List.length_map]
 refine vOz fun i hi => ?_
 rw [v8z hi, (h _ (qQz hi)).kind]
 refine congrArg _ (vOz fun k hk => ?_)
 unfold rowB
 have a := h _ (qQz hi)
 have b := h _ (qQz hk)
 rw [v8z hi, v8z hk, a.lo, a.hi, b.lo, b.hi, b.kind, b.id]
theorem w_kid (h : ∀ x ∈ X, Kid x (g x)) (hs : ∀ x ∈ X, qKz (g x) = true) {t ro : Int} {key : Nat} (hf : fitW ⟨t, key, ro, X⟩ = true) : fitW ⟨t, key, ro, X.map g⟩ = true := by
 have hi : (X.map g).map Ob.id = X.map Ob.id := by
  rw [List.map_map]
  exact List.map_congr_left fun x hx => (h x hx).id
 unfold fitW idsB at hf ⊢
 simp only [Bool.and_eq_true, List.all_eq_true] at hf ⊢
 obtain ⟨h1, h2, h3, h4, h5⟩ := hf
 rw [hi]
 refine ⟨h1, h2, by simpa using h3, h4, fun y hy => ?_⟩
 obtain ⟨x, hx, rfl⟩ := List.mem_map.1 hy
 exact hs x hx
theorem fo_lab (h : ∀ x ∈ X, Kid x (g x)) (i : Int) : (fO (X.map g) i).label = (fO X i).label := by
 unfold fO
 rw [xez h]
 cases e : fnd X i with
 | none => rfl
 | some x => exact (h x (wsz e).2).label
theorem ygz (h : ∀ x ∈ X, Kid x (g x)) (hs : ∀ x ∈ X, qKz (g x) = true) {t ro : Int} {key : Nat} (hf : fitD t key ro X = true) (hl : ∀ x ∈ X, lnkB (X.map g) (g x) = true) (hp : ∀ x ∈ X, plaB (X.map g) ro (g x) = true) : fitD t key ro (X.map g) = true := by
 obtain ⟨h1, h2, h3, h4, h5⟩ := x1z hf
 refine bnz (w_kid h hs h1) (by rw [xez h, Option.isSome_map]; exact h2) (fun y hy => ?_) (fun y hy => ?_) (by rw [spa_kid h]; exact h5)
 ·obtain ⟨x, hx, rfl⟩ := List.mem_map.1 hy; exact hl x hx
 ·obtain ⟨x, hx, rfl⟩ := List.mem_map.1 hy; exact hp x hx
theorem yaz (h : ∀ x ∈ X, Kid x (g x)) {x : Ob} (hx : x ∈ X) (hl : (g x).links = x.links) (hu : x.kind = 2 → xBz (X.map g) (g x) ≤ (g x).quota) (hb : lnkB X x = true) : lnkB (X.map g) (g x) = true := by
 unfold lnkB at hb ⊢
 rw [Bool.and_eq_true] at hb ⊢
 rw [hl, (h x hx).label, (h x hx).kind]
 refine ⟨?_, ?_⟩
 ·rw [← hb.1]
  refine congrArg (fun f => x.links.all f) (funext fun i => ?_)
  rw [xez h, Option.isSome_map, fo_lab h]
 ·by_cases k : x.kind = 2
  ·rw [decide_eq_true (hu k)]; simp
  ·rw [decide_eq_false k]; rfl
theorem yoz (hq : ∀ i, qOf (X.map g) i = qOf X i) {x : Ob} (hl : (g x).links = x.links) (hd : (g x).data.length = x.data.length) : xBz (X.map g) (g x) = xBz X x := by
 unfold xBz pagN
 rw [hd, hl, List.map_congr_left fun i _ => hq i]
theorem q_kid (h : ∀ x ∈ X, Kid x (g x)) (hq : ∀ x ∈ X, (g x).quota = x.quota) (i : Int) : qOf (X.map g) i = qOf X i := by
 unfold qOf
 rw [xez h]
 cases e : fnd X i with
 | none => rfl
 | some x => exact hq x (wsz e).2
theorem ykz {Y : List Ob} {P : Int → Prop} (hh : ∀ i, P i → holL Y i = holL X i) (hc : ∀ i, P i → ∀ c ∈ holL X i, P c) : ∀ (f : Nat) (i : Int), P i → abvL Y f i = abvL X f i
 | 0, _, _ => rfl
 | f + 1, i, hi => by
  unfold abvL
  rw [hh i hi]
  cases e : holL X i with
  | nil => rfl
  | cons a r => simp only; rw [ykz hh hc f a (hc i hi a (by rw [e]; exact List.mem_cons_self ..))]
theorem up_kid {Y : List Ob} {P : Int → Prop} (hh : ∀ i, P i → holL Y i = holL X i) (hc : ∀ i, P i → ∀ c ∈ holL X i, P c) (hn : Y.length = X.length) {ro i : Int} (hi : P i) : upB Y ro i = upB X ro i := by
 unfold upB rabv
 rw [hn, ykz hh hc _ i hi]
theorem v6z {Y : List Ob} {P : Int → Prop} (hh : ∀ i, P i → holL Y i = holL X i) (hc : ∀ i, P i → ∀ c ∈ holL X i, P c) (hn : Y.length = X.length) {ro : Int} {x y : Ob} (hk : Kid x y) (hi : P x.id) (hq : x.id = ro → y.quota ≤ 1024) (hf : x.fixed = true → y.fixed = true) (hp : plaB X ro x = true) : plaB Y ro y = true := by
 unfold plaB at hp ⊢
 rw [hk.id, hk.kind, hh _ hi, up_kid hh hc hn hi]
 by_cases e : x.id = ro
 ·rw [if_pos e] at hp ⊢
  simp only [Bool.and_eq_true] at hp ⊢
  exact ⟨hp.1, hp.2.1, decide_eq_true (hq e)⟩
 ·rw [if_neg e] at hp ⊢
  simp only [Bool.and_eq_true] at hp ⊢
  refine ⟨⟨hp.1.1, ?_⟩, hp.2⟩
  have h2 := hp.1.2
  have hs : sngO y = sngO x := by unfold sngO; rw [hk.kind]
  rw [hs]
  cases hx : x.fixed with
  | true => rw [hf hx]; rw [hx] at h2; exact h2
  | false =>
   rw [hx] at h2
   simp only [Bool.not_false, Bool.true_or, Bool.and_true, Bool.not_eq_true'] at h2
   rw [h2]; rfl
theorem bez (hl : ∀ x ∈ X, (g x).links = x.links) (hi : ∀ x ∈ X, Kid x (g x)) (i : Int) : holL (X.map g) i = holL X i := by
 unfold holL
 rw [List.filter_map, List.map_map]
 have e : X.filter ((fun d => decide (i ∈ d.links)) ∘ g) = X.filter fun d => decide (i ∈ d.links) := List.filter_congr fun x hx => by
  show decide (i ∈ (g x).links) = _
  rw [hl x hx]
 rw [e]
 exact List.map_congr_left fun x hx => (hi x (List.mem_filter.1 hx).1).id
end
theorem uaz {x y : Ob} (h : aloO x = x) (k : y = { x with fixed := y.fixed, quota := y.quota }) : aloO y = y := by
 rw [k]
 obtain ⟨id, kind, label, quota, fixed, links, data, maps, th, gt, inn, out⟩ := x
 unfold aloO comO at h ⊢
 simp only at h ⊢
 by_cases k1 : kind = 1
 ·rw [if_pos k1] at h ⊢; cases h; rfl
 ·rw [if_neg k1] at h ⊢
  by_cases k2 : kind = 2
  ·rw [if_pos k2] at h ⊢; cases h; rfl
  ·rw [if_neg k2] at h ⊢
   by_cases k3 : kind = 3
   ·rw [if_pos k3] at h ⊢; cases h; rfl
   ·rw [if_neg k3] at h ⊢
    by_cases k4 : kind = 4
    ·rw [if_pos k4] at h ⊢; cases h; rfl
    ·rw [if_neg k4] at h ⊢
     by_cases k5 : kind = 5
     ·rw [if_pos k5] at h ⊢; cases h; rfl
     ·rw [if_neg k5] at h ⊢
      by_cases k6 : kind = 6
      ·rw [if_pos k6] at h ⊢; cases h; rfl
      ·rw [if_neg k6] at h ⊢; cases h; rfl
variable {x : Ob}
theorem gaz (hs : qKz x = true) (hk : sngO x = false) (b : Bool) : qKz { x with fixed := b } = true := by
 unfold sngO at hk
 rw [Bool.or_eq_false_iff, decide_eq_false_iff_not, decide_eq_false_iff_not] at hk
 obtain ⟨h1, h2, h3⟩ := qnz.1 hs
 refine qnz.2 ⟨h1, ?_, ?_⟩
 ·unfold ownB at h2 ⊢
  simp only at h2 ⊢
  rw [if_neg hk.1, if_neg hk.2] at h2 ⊢
  exact h2
 ·rw [qUz] at h3 ⊢
  exact uaz h3 rfl
theorem u9z (hs : qKz x = true) {q : Int} (h1 : 1 ≤ q) (h2 : q ≤ 4096) (h3 : pagO x ≤ q) : qKz { x with quota := q } = true := by
 obtain ⟨c1, c2, c3⟩ := qnz.1 hs
 refine qnz.2 ⟨?_, ?_, ?_⟩
 ·rw [qJz] at c1 ⊢
  exact ⟨c1.1, h1, h2, c1.2.2.2⟩
 ·unfold ownB at c2 ⊢
  simp only at c2 ⊢
  by_cases k : x.kind = 1
  ·rw [if_pos k] at c2 ⊢
   unfold pagO pagN at h3
   rw [if_pos k] at h3
   exact decide_eq_true (by omega)
  ·rw [if_neg k] at c2 ⊢; exact c2
 ·rw [qUz] at c3 ⊢
  exact uaz c3 rfl
def upd (y : Ob) (x : Ob) : Ob := if x.id = y.id then y else x
variable {X : List Ob} {z y : Ob}
theorem jnz (hs : Srt X) (hz : z ∈ X) (hk : Kid z y) : ∀ x ∈ X, Kid x (upd y x) := fun x hx => by
 unfold upd
 by_cases e : x.id = y.id
 ·rw [if_pos e, wmz hs hx hz (e.trans hk.id)]; exact hk
 ·rw [if_neg e]; exact Kid.refl x
theorem xSz (hs : Srt X) (hz : z ∈ X) (hk : Kid z y) : puR X y = X.map (upd y) := put_map hs (by rw [(q6z hs).2 ⟨hz, hk.id.symm⟩]; rfl)
theorem qIz (hs : Srt X) (hz : z ∈ X) (hk : Kid z y) (hx : x ∈ X) : (x = z ∧ upd y x = y) ∨ (x.id ≠ z.id ∧ upd y x = x) := by
 unfold upd
 by_cases e : x.id = y.id
 ·exact .inl ⟨wmz hs hx hz (e.trans hk.id), if_pos e⟩
 ·exact .inr ⟨by rw [← hk.id]; exact e, if_neg e⟩
variable {key : Nat} {t ro : Int}
theorem fix_fit {i : Int} (hf : fitD t key ro X = true) : fitD t key ro (fixX X i) = true := by
 have hT := wNz hf
 unfold fixX
 by_cases h1 : (fnd X i).isSome = false
 ·rw [if_pos h1]; exact hf
 ·rw [if_neg h1]
  by_cases h2 : sngO (fO X i) = true
  ·rw [if_pos h2]; exact hf
  ·rw [if_neg h2]
   obtain ⟨e1, e2, e3⟩ := xfz (eq_true_of_ne_false h1)
   have hk : Kid (fO X i) { fO X i with fixed := true } := ⟨rfl, rfl, rfl, rfl, rfl⟩
   have hkid := jnz hT.srt e2 hk
   rw [xSz hT.srt e2 hk]
   have hl : ∀ x ∈ X, (upd { fO X i with fixed := true } x).links = x.links := fun x hx => by
    rcases qIz hT.srt e2 hk hx with ⟨rfl, q⟩ | ⟨_, q⟩ <;> rw [q]
   have hq : ∀ x ∈ X, (upd { fO X i with fixed := true } x).quota = x.quota := fun x hx => by
    rcases qIz hT.srt e2 hk hx with ⟨rfl, q⟩ | ⟨_, q⟩ <;> rw [q]
   have hd : ∀ x ∈ X, (upd { fO X i with fixed := true } x).data.length = x.data.length := fun x hx => by
    rcases qIz hT.srt e2 hk hx with ⟨rfl, q⟩ | ⟨_, q⟩ <;> rw [q]
   have hfx : ∀ x ∈ X, x.fixed = true → (upd { fO X i with fixed := true } x).fixed = true := fun x hx h => by
    rcases qIz hT.srt e2 hk hx with ⟨rfl, q⟩ | ⟨_, q⟩
    ·rw [q]
    ·rw [q]; exact h
   obtain ⟨_, _, g3, g4, _⟩ := x1z hf
   refine ygz hkid (fun x hx => ?_) hf (fun x hx => ?_) (fun x hx => ?_)
   ·rcases qIz hT.srt e2 hk hx with ⟨rfl, q⟩ | ⟨_, q⟩
    ·rw [q]; exact gaz (hT.snd _ e2) (eq_false_of_ne_true h2) true
    ·rw [q]; exact hT.snd x hx
   ·refine yaz hkid hx (hl x hx) (fun k => ?_) (g3 x hx)
    rw [yoz (q_kid hkid hq) (hl x hx) (hd x hx), hq x hx]
    exact hT.use x hx k
   ·refine v6z (P := fun _ => True) (fun i _ => bez hl hkid i) (fun _ _ _ _ => trivial) (by simp) (hkid x hx) trivial (fun e => ?_) (hfx x hx) (g4 x hx)
    rw [hq x hx]
    obtain ⟨r, r1, r2, r3⟩ := hT.rot
    have : x = r := wmz hT.srt hx (wsz r1).2 (e.trans (wsz r1).1.symm)
    rw [this]; exact r3
theorem jJz {i k : Int} : i ∈ holL X k ↔ ∃ d ∈ X, d.id = i ∧ k ∈ d.links := by
 unfold holL
 rw [List.mem_map]
 constructor
 ·rintro ⟨d, hd, e⟩
  obtain ⟨h1, h2⟩ := List.mem_filter.1 hd
  exact ⟨d, h1, e, of_decide_eq_true h2⟩
 ·rintro ⟨d, h1, e, h2⟩
  exact ⟨d, List.mem_filter.2 ⟨h1, decide_eq_true h2⟩, e⟩
theorem sum_nn {l : List Int} {f : Int → Int} (h : ∀ i, 0 ≤ f i) : 0 ≤ (l.map f).sum := by
 induction l with
 | nil => simp
 | cons a r ih => rw [List.map_cons, List.sum_cons]; have := h a; omega
theorem hol_sng (hf : fitD t key ro X = true) (hx : x ∈ X) (hs : sngO x = true) : (holL X x.id).length ≤ 1 := by
 have := (x1z hf).2.2.2.1 x hx
 unfold plaB at this
 by_cases e : x.id = ro
 ·rw [if_pos e] at this
  simp only [Bool.and_eq_true, decide_eq_true_eq] at this
  omega
 ·rw [if_neg e, hs] at this
  simp only [Bool.and_eq_true, Bool.or_true, Bool.and_true, Bool.not_eq_true', decide_eq_false_iff_not] at this
  omega
theorem gNz (hf : fitD t key ro X = true) (hx : x ∈ X) : ¬ x.id ∈ x.links := fun h => by
 have hT := wNz hf
 have k2 : x.kind = 2 := k8z hT hx h
 have hm : x.id ∈ holL X x.id := jJz.2 ⟨x, hx, rfl, h⟩
 have h1 := hol_sng hf hx (by unfold sngO; rw [k2]; rfl)
 by_cases e : x.id = ro
 ·rw [e, hT.hro] at hm; cases hm
 ·obtain ⟨d, hd, _, _, hh, hw⟩ := ynz hT hx e
  cases hq : holL X x.id with
  | nil => rw [hq] at hm; cases hm
  | cons a r =>
   rw [hq] at hm h1 hh
   have hr : r = [] := List.eq_nil_of_length_eq_zero (by rw [List.length_cons] at h1; omega)
   subst hr
   have ha : x.id = a := by simpa using hm
   have hb : a = d.id := by simpa using hh
   have := congrArg List.length hw
   rw [← hb, ← ha, List.length_cons] at this
   omega
variable {i j m : Int}
theorem xIz (h : movE X i j m = 0) : (fnd X i).isSome = true ∧ (fnd X j).isSome = true ∧ j ∈ (fO X i).links ∧ (fO X j).fixed = false ∧ -4096 ≤ m ∧ m ≤ 4096 ∧ m ≤ xrz X (fO X i) ∧ useV X (fO X j) ≤ (fO X j).quota + m ∧ 1 ≤ (fO X j).quota + m ∧ (fO X j).quota + m ≤ 4096 := by
 unfold movE at h
 by_cases h1 : ((fnd X i).isSome && (fnd X j).isSome) = false
 ·rw [if_pos h1] at h; omega
 ·rw [if_neg h1] at h
  by_cases h2 : ¬ j ∈ (fO X i).links
  ·rw [if_pos h2] at h; omega
  ·rw [if_neg h2] at h
   by_cases h3 : (fO X j).fixed = true
   ·rw [if_pos h3] at h; omega
   ·rw [if_neg h3] at h
    by_cases h4 : m < -4096 ∨ 4096 < m
    ·rw [if_pos h4] at h; omega
    ·rw [if_neg h4] at h
     by_cases h5 : xrz X (fO X i) < m ∨ ((fO X j).quota + m < useV X (fO X j) ∨ (fO X j).quota + m < 1) ∨ 4096 < (fO X j).quota + m
     ·rw [if_pos h5] at h; omega
     ·have h6 := eq_true_of_ne_false h1
      rw [Bool.and_eq_true] at h6
      exact ⟨h6.1, h6.2, Classical.not_not.1 h2, eq_false_of_ne_true h3, by omega, by omega, by omega, by omega, by omega, by omega⟩
theorem mov_ok (h1 : (fnd X i).isSome = true) (h2 : (fnd X j).isSome = true) (h3 : j ∈ (fO X i).links) (h4 : (fO X j).fixed = false) (h5 : -4096 ≤ m ∧ m ≤ 4096) (h6 : m ≤ xrz X (fO X i)) (h7 : useV X (fO X j) ≤ (fO X j).quota + m) (h8 : 1 ≤ (fO X j).quota + m ∧ (fO X j).quota + m ≤ 4096) : movE X i j m = 0 := by
 unfold movE
 rw [if_neg (by rw [h1, h2]; decide), if_neg (fun q => q h3), if_neg (by rw [h4]; decide), if_neg (by omega), if_neg (by omega)]
theorem gPz (h : movE X i j m ≠ 0) : movX X i j m = X := by unfold movX; rw [if_neg h]
theorem pag_two (hs : qKz x = true) (k : x.kind = 2) : pagN x = pagO x := by
 unfold pagO pagN
 rw [if_neg (by rw [k]; decide), data_nil hs (by rw [k]; decide)]
 decide
theorem w3z (hs : qKz x = true) (k : x.kind = 2) : xBz X x = useV X x := by
 unfold xBz useV
 rw [pag_two hs k]
theorem v9z (hf : fitD t key ro X = true) : fitD t key ro (movX X i j m) = true := by
 by_cases h : movE X i j m = 0
 ·have hT := wNz hf
  obtain ⟨h1, h2, h3, h4, h5, h6, h7, h8, h9, h10⟩ := xIz h
  obtain ⟨hch, hqq⟩ := gQz hf h
  obtain ⟨e1, e2, e3⟩ := xfz h1
  obtain ⟨k1, k2, k3⟩ := xfz h2
  have hX : movX X i j m = puR X { fO X j with quota := (fO X j).quota + m } := by unfold movX; rw [if_pos h]
  rw [hX] at hch hqq ⊢
  generalize hy : ({ fO X j with quota := (fO X j).quota + m } : Ob) = y at hch hqq ⊢
  have hk : Kid (fO X j) y := by rw [← hy]; exact ⟨rfl, rfl, rfl, rfl, rfl⟩
  have hkid := jnz hT.srt k2 hk
  have hys : qKz y = true := by
   rw [← hy]
   refine u9z (hT.snd _ k2) h9 h10 ?_
   unfold useV at h8
   have : 0 ≤ ((fO X j).links.map (qOf X)).sum := by
    exact sum_nn fun l => (uwz hT.snd l).1
   omega
  have hyl : y.links = (fO X j).links := by rw [← hy]
  have hyd : y.data = (fO X j).data := by rw [← hy]
  rw [xSz hT.srt k2 hk] at hch ⊢
  have hl : ∀ x ∈ X, (upd y x).links = x.links := fun x hx => by
   rcases qIz hT.srt k2 hk hx with ⟨rfl, q⟩ | ⟨_, q⟩ <;> rw [q]
   exact hyl
  have hfx : ∀ x ∈ X, x.fixed = true → (upd y x).fixed = true := fun x hx h => by
   rcases qIz hT.srt k2 hk hx with ⟨rfl, q⟩ | ⟨_, q⟩
   ·rw [h] at h4; cases h4
   ·rw [q]; exact h
  obtain ⟨_, _, g3, g4, _⟩ := x1z hf
  refine ygz hkid (fun x hx => ?_) hf (fun x hx => ?_) (fun x hx => ?_)
  ·rcases qIz hT.srt k2 hk hx with ⟨rfl, q⟩ | ⟨_, q⟩
   ·rw [q]; exact hys
   ·rw [q]; exact hT.snd x hx
  ·refine yaz hkid hx (hl x hx) (fun k => ?_) (g3 x hx)
   have hux := hT.use x hx k
   rw [w3z (hT.snd x hx) k] at hux
   have hc := (hch.ch x hx).2
   have hxf : fO (X.map (upd y)) x.id = upd y x := by
    unfold fO
    rw [xez hkid, (q6z hT.srt).2 ⟨hx, rfl⟩]; rfl
   rw [hxf] at hc
   have hsx : qKz (upd y x) = true := by
    rcases qIz hT.srt k2 hk hx with ⟨rfl, q⟩ | ⟨_, q⟩
    ·rw [q]; exact hys
    ·rw [q]; exact hT.snd x hx
   rw [w3z hsx (by rw [(hkid x hx).kind]; exact k), hc]
   by_cases ei : x.id = i
   ·rw [if_pos ei]
    have hxi : x = fO X i := wmz hT.srt hx e2 (ei.trans e1.symm)
    have hne : x.id ≠ (fO X j).id := fun q => by
     have hj : j ∈ x.links := by rw [hxi]; exact h3
     have : x.id ∈ x.links := by rw [q, k1]; exact hj
     exact gNz hf hx this
    rcases qIz hT.srt k2 hk hx with ⟨q, _⟩ | ⟨_, q⟩
    ·exact absurd (congrArg Ob.id q) hne
    ·rw [q, hxi]
     unfold xrz at h7
     unfold useV
     omega
   ·rw [if_neg ei, Int.add_zero]
    rcases qIz hT.srt k2 hk hx with ⟨rfl, q⟩ | ⟨_, q⟩
    ·rw [q, ← hy]; exact h8
    ·rw [q]; exact hux
  ·refine v6z (P := fun _ => True) (fun i _ => bez hl hkid i) (fun _ _ _ _ => trivial) (by simp) (hkid x hx) trivial (fun e => ?_) (hfx x hx) (g4 x hx)
   obtain ⟨r, r1, r2, r3⟩ := hT.rot
   have hxr : x = r := wmz hT.srt hx (wsz r1).2 (e.trans (wsz r1).1.symm)
   rcases qIz hT.srt k2 hk hx with ⟨rfl, q⟩ | ⟨_, q⟩
   ·exfalso
    have : i ∈ holL X ro := jJz.2 ⟨fO X i, e2, e1, by rw [← e, k1]; exact h3⟩
    rw [hT.hro] at this; cases this
   ·rw [q, hxr]; exact r3
 ·rw [gPz h]; exact hf
theorem put_put (hs : Srt X) {a b : Ob} (h : a.id = b.id) : puR (puR X a) b = puR X b := by
 refine joz (q2z (q2z hs a) b) (q2z hs b) fun x => ?_
 rw [q3z, q3z, q3z, h]
 constructor
 ·rintro (h1 | ⟨h1 | h1, h2⟩)
  ·exact .inl h1
  ·exact absurd (by rw [h1]; exact h) h2
  ·exact .inr ⟨h1.1, h2⟩
 ·rintro (h1 | h1)
  ·exact .inl h1
  ·exact .inr ⟨.inr h1, h1.2⟩
theorem uXz (hT : ∀ y ∈ X, qKz y = true) (hx : x ∈ X) (hu : x.kind = 2 → xBz X x ≤ x.quota) : useV X x ≤ x.quota := by
 by_cases k : x.kind = 2
 ·rw [← w3z (hT x hx) k]; exact hu k
 ·unfold useV
  rw [wRz (hT x hx) k]
  have hs := qnz.1 (hT x hx)
  have hq := (qJz.1 hs.1).2.1
  have h2 := hs.2.1
  unfold pagO
  by_cases k1 : x.kind = 1
  ·rw [if_pos k1]
   unfold ownB at h2
   rw [if_pos k1] at h2
   have := of_decide_eq_true h2
   unfold pagN
   simp only [List.map_nil, List.sum_nil]
   omega
  ·rw [if_neg k1]
   simp only [List.map_nil, List.sum_nil]
   omega
theorem mov_back (hf : fitD t key ro X = true) (h : movE X i j m = 0) : movE (movX X i j m) i j (-m) = 0 ∧ movX (movX X i j m) i j (-m) = X := by
 have hT := wNz hf
 have hTY := wNz (v9z (m := m) (i := i) (j := j) hf)
 obtain ⟨h1, h2, h3, h4, h5, h6, h7, h8, h9, h10⟩ := xIz h
 obtain ⟨hch, hqq⟩ := gQz hf h
 obtain ⟨e1, e2, e3⟩ := xfz h1
 obtain ⟨k1, k2, k3⟩ := xfz h2
 have hX : movX X i j m = puR X { fO X j with quota := (fO X j).quota + m } := by unfold movX; rw [if_pos h]
 have hij : i ≠ j := fun q => by
  subst q
  have := gNz hf e2
  rw [e1] at this
  exact this h3
 have hfj : fnd (movX X i j m) j = some { fO X j with quota := (fO X j).quota + m } := by
  rw [hX]
  have := x0z hT.srt ({ fO X j with quota := (fO X j).quota + m } : Ob)
  rw [show ({ fO X j with quota := (fO X j).quota + m } : Ob).id = j from k1] at this
  exact this
 have hfi : fnd (movX X i j m) i = some (fO X i) := by
  rw [hX, wSz hT.srt (o := { fO X j with quota := (fO X j).quota + m }) (by rw [show ({ fO X j with quota := (fO X j).quota + m } : Ob).id = j from k1]; exact hij)]
  exact e3
 have oj : fO (movX X i j m) j = { fO X j with quota := (fO X j).quota + m } := by unfold fO; rw [hfj]; rfl
 have oi : fO (movX X i j m) i = fO X i := by unfold fO; rw [hfi]; rfl
 have hui := (hch.ch (fO X i) e2).2
 rw [e1, oi, if_pos rfl] at hui
 have huj := (hch.ch (fO X j) k2).2
 rw [k1, oj, if_neg (fun q => hij q.symm), Int.add_zero] at huj
 have hle := uXz hT.snd k2 (hT.use _ k2)
 have hlei := uXz hT.snd e2 (hT.use _ e2)
 have hz : movE (movX X i j m) i j (-m) = 0 := by
  refine mov_ok (by rw [hfi]; rfl) (by rw [hfj]; rfl) (by rw [oi]; exact h3) (by rw [oj]; exact h4) ⟨by omega, by omega⟩ ?_ ?_ ?_
  ·unfold xrz
   rw [oi]
   unfold useV at hui hlei
   omega
  ·rw [oj, huj]
   show useV X (fO X j) ≤ (fO X j).quota + m + -m
   omega
  ·rw [oj]
   show 1 ≤ (fO X j).quota + m + -m ∧ (fO X j).quota + m + -m ≤ 4096
   have hc := qJz.1 (qnz.1 (hT.snd _ k2)).1
   have := hc.2.1
   have := hc.2.2.1
   omega
 refine ⟨hz, ?_⟩
 have : movX (movX X i j m) i j (-m) = puR (movX X i j m) { fO (movX X i j m) j with quota := (fO (movX X i j m) j).quota + -m } := by
  show (if movE (movX X i j m) i j (-m) = 0 then _ else _) = _
  rw [if_pos hz]
 rw [this, oj, hX, put_put hT.srt (by rfl)]
 have hb : ({ ({ fO X j with quota := (fO X j).quota + m } : Ob) with quota := ({ fO X j with quota := (fO X j).quota + m } : Ob).quota + -m } : Ob) = fO X j := by
  show ({ fO X j with quota := (fO X j).quota + m + -m } : Ob) = fO X j
  rw [show (fO X j).quota + m + -m = (fO X j).quota from by omega]
 rw [hb]
 exact vkz hT.srt (i := j) k3
/-! links -/
theorem ins_cons {a i : Int} {r : List Int} (h : a < i) : insW (a :: r) i = a :: insW r i := by
 unfold insW ahW
 rw [List.filter_cons_of_pos (by simpa using h)]
 rfl
theorem ins_head {L : List Int} {i : Int} (h : ∀ a ∈ L, i ≤ a) : insW L i = i :: L := by
 have : ahW L i = 0 := by
  unfold ahW
  rw [List.length_eq_zero_iff, List.filter_eq_nil_iff]
  intro a ha
  have := h a ha
  simp
  omega
 unfold insW
 rw [this]
 rfl
theorem yVz {i : Int} : ∀ {L : List Int}, L.Pairwise (· < ·) → ¬ i ∈ L → (insW L i).Pairwise (· < ·)
 | [], _, _ => by unfold insW ahW; simp
 | a :: r, h, hn => by
  obtain ⟨h1, h2⟩ := List.pairwise_cons.1 h
  rw [List.mem_cons, not_or] at hn
  by_cases c : a < i
  ·rw [ins_cons c, List.pairwise_cons]
   refine ⟨fun b hb => ?_, yVz h2 hn.2⟩
   rcases xcz.1 hb with rfl | hb
   ·exact c
   ·exact h1 b hb
  ·have hia : i < a := by omega
   rw [ins_head fun b hb => by
    rcases List.mem_cons.1 hb with rfl | hb
    ·omega
    ·have := h1 b hb; omega]
   exact List.pairwise_cons.2 ⟨fun b hb => by
    rcases List.mem_cons.1 hb with rfl | hb
    ·exact hia
    ·have := h1 b hb; omega, h⟩
theorem vcz {d : Ob} {j : Int} (hs : qKz d = true) (k : d.kind = 2) (hj : idB j = true) (hn : ¬ j ∈ d.links) (hl : d.links.length < 64) : qKz { d with links := insW d.links j } = true := by
 obtain ⟨h1, h2, h3⟩ := qnz.1 hs
 refine qnz.2 ⟨h1, ?_, ?_⟩
 ·have hr := uzz hs
  unfold ownB at h2 ⊢
  simp only at h2 ⊢
  rw [if_neg (by rw [k]; decide), if_pos k] at h2 ⊢
  simp only [Bool.and_eq_true, decide_eq_true_eq, List.all_eq_true] at h2 ⊢
  refine ⟨by rw [g9z]; omega, fun l hl => ?_, ?_⟩
  ·rcases xcz.1 hl with rfl | q
   ·exact hj
   ·exact h2.2.1 l q
  ·unfold risB
   exact decide_eq_true (yVz hr hn)
 ·rw [qUz] at h3 ⊢
  obtain ⟨id, kind, label, quota, fixed, links, data, maps, th, gt, inn, out⟩ := d
  unfold aloO comO at h3 ⊢
  simp only at h3 ⊢ k
  rw [if_neg (by rw [k]; decide), if_pos k] at h3 ⊢
  cases h3
  rfl
theorem kMz {p q : Ob → Bool} {z : Ob} : ∀ {l : List Ob}, Srt l → z ∈ l → (∀ y ∈ l, y.id ≠ z.id → p y = q y) → p z = true → q z = false → (l.filter p).length = (l.filter q).length + 1
 | [], _, h, _, _, _ => by cases h
 | a :: l, hs, h, hp, h1, h2 => by
  have hs' := List.pairwise_cons.1 hs
  rcases List.mem_cons.1 h with rfl | h
  ·rw [List.filter_cons_of_pos h1, List.filter_cons_of_neg (by rw [h2]; decide), List.length_cons]
   have : l.filter p = l.filter q := List.filter_congr fun y hy => hp y (List.mem_cons_of_mem _ hy) (by have := hs'.1 y hy; omega)
   rw [this]
  ·have hne : a.id ≠ z.id := by have := hs'.1 z h; omega
   have e := hp a (List.mem_cons_self ..) hne
   have ih := kMz hs'.2 h (fun y hy => hp y (List.mem_cons_of_mem _ hy)) h1 h2
   cases c : q a with
   | true => rw [List.filter_cons_of_pos (by rw [e]; exact c), List.filter_cons_of_pos c, List.length_cons, List.length_cons, ih]
   | false => rw [List.filter_cons_of_neg (by rw [e, c]; decide), List.filter_cons_of_neg (by rw [c]; decide), ih]
theorem jEz {d o : Ob} (h : layE X d o = 0) : plcB d.label o.label = true ∧ d.links.length < 64 ∧ o.quota ≤ xrz X d ∧ layX X d o = puR (puR X o) { d with links := insW d.links o.id } := by
 have hX : layX X d o = puR (puR X o) { d with links := insW d.links o.id } := by unfold layX; rw [if_pos h]
 unfold layE at h
 by_cases h1 : plcB d.label o.label = false
 ·rw [if_pos h1] at h; omega
 ·rw [if_neg h1] at h
  by_cases h2 : 64 ≤ d.links.length
  ·rw [if_pos h2] at h; omega
  ·rw [if_neg h2] at h
   by_cases h3 : xrz X d < o.quota ∨ (o.kind = 2 ∧ 0 < o.links.length)
   ·rw [if_pos h3] at h; omega
   ·exact ⟨eq_true_of_ne_false h1, by omega, by omega, hX⟩
theorem kkz {i j : Int} (h : linE X i j = 0) : (fnd X i).isSome = true ∧ (fnd X j).isSome = true ∧ (fO X i).kind = 2 ∧ sngO (fO X j) = false ∧ (fO X j).fixed = true ∧ ¬ j ∈ (fO X i).links ∧ layE X (fO X i) (fO X j) = 0 ∧ linX X i j = layX X (fO X i) (fO X j) := by
 unfold linE at h
 unfold linX
 by_cases h1 : ((fnd X i).isSome && (fnd X j).isSome) = false
 ·rw [if_pos h1] at h; omega
 ·rw [if_neg h1] at h ⊢
  by_cases h2 : (decide ((fO X i).kind = 2) && !sngO (fO X j)) = false
  ·rw [if_pos h2] at h; omega
  ·rw [if_neg h2] at h ⊢
   by_cases h3 : (fO X j).fixed = false
   ·rw [if_pos h3] at h; omega
   ·rw [if_neg h3] at h ⊢
    by_cases h4 : j ∈ (fO X i).links
    ·rw [if_pos h4] at h; omega
    ·rw [if_neg h4] at h ⊢
     have a := eq_true_of_ne_false h1
     have b := eq_true_of_ne_false h2
     rw [Bool.and_eq_true] at a b
     exact ⟨a.1, a.2, of_decide_eq_true b.1, by simpa using b.2, eq_true_of_ne_false h3, h4, h, rfl⟩
theorem bfz {g : Ob → Ob} (hk : ∀ x ∈ X, Kid x (g x)) {k : Int} (h : ∀ x ∈ X, k ∈ (g x).links ↔ k ∈ x.links) : holL (X.map g) k = holL X k := by
 unfold holL
 rw [List.filter_map, List.map_map]
 have e : X.filter ((fun d => decide (k ∈ d.links)) ∘ g) = X.filter fun d => decide (k ∈ d.links) := List.filter_congr fun x hx => by
  show decide (k ∈ (g x).links) = decide (k ∈ x.links)
  exact decide_eq_decide.2 (h x hx)
 rw [e]
 exact List.map_congr_left fun x hx => (hk x (List.mem_filter.1 hx).1).id
theorem hol_more (hs : Srt X) {d : Ob} (hd : d ∈ X) {j : Int} (hn : ¬ j ∈ d.links) : (holL (X.map (upd { d with links := insW d.links j })) j).length = (holL X j).length + 1 := by
 have hk : Kid d { d with links := insW d.links j } := ⟨rfl, rfl, rfl, rfl, rfl⟩
 unfold holL
 rw [List.length_map, List.length_map, List.filter_map, List.length_map]
 refine kMz hs hd (fun y hy hne => ?_) ?_ (decide_eq_false hn)
 ·show decide (j ∈ (upd _ y).links) = decide (j ∈ y.links)
  rcases qIz hs hd hk hy with ⟨rfl, _⟩ | ⟨_, q⟩
  ·exact absurd rfl hne
  ·rw [q]
 ·show decide (j ∈ (upd _ d).links) = true
  rcases qIz hs hd hk hd with ⟨_, q⟩ | ⟨q, _⟩
  ·rw [q]; exact decide_eq_true (xcz.2 (.inl rfl))
  ·exact absurd rfl q
theorem gVz {i j : Int} (hf : fitD t key ro X = true) (h : linE X i j = 0) : linX X i j = X.map (upd { fO X i with links := insW (fO X i).links j }) := by
 have hT := wNz hf
 obtain ⟨h1, h2, h3, h4, h5, h6, h7, h8⟩ := kkz h
 obtain ⟨e1, e2, e3⟩ := xfz h1
 obtain ⟨k1, k2, k3⟩ := xfz h2
 rw [h8, (jEz h7).2.2.2, vkz hT.srt (i := j) k3, k1]
 exact xSz hT.srt e2 ⟨rfl, rfl, rfl, rfl, rfl⟩
theorem gWz {i j : Int} (hf : fitD t key ro X = true) (h : linE X i j = 0) : (holL (linX X i j) j).length = (holL X j).length + 1 := by
 rw [gVz hf h]
 obtain ⟨h1, _, _, _, _, h6, _⟩ := kkz h
 exact hol_more (wNz hf).srt (xfz h1).2.1 h6
theorem lin_no {i j : Int} (h : linE X i j ≠ 0) : linX X i j = X := by
 unfold linE at h
 unfold linX
 by_cases h1 : ((fnd X i).isSome && (fnd X j).isSome) = false
 ·rw [if_pos h1]
 ·rw [if_neg h1] at h ⊢
  by_cases h2 : (decide ((fO X i).kind = 2) && !sngO (fO X j)) = false
  ·rw [if_pos h2]
  ·rw [if_neg h2] at h ⊢
   by_cases h3 : (fO X j).fixed = false
   ·rw [if_pos h3]
   ·rw [if_neg h3] at h ⊢
    by_cases h4 : j ∈ (fO X i).links
    ·rw [if_pos h4]
    ·rw [if_neg h4] at h ⊢
     unfold layX
     rw [if_neg h]
theorem lin_fit {i j : Int} (hf : fitD t key ro X = true) : fitD t key ro (linX X i j) = true := by
 by_cases h : linE X i j = 0
 ·have hT := wNz hf
  obtain ⟨h1, h2, h3, h4, h5, h6, h7, h8⟩ := kkz h
  obtain ⟨e1, e2, e3⟩ := xfz h1
  obtain ⟨k1, k2, k3⟩ := xfz h2
  obtain ⟨l1, l2, l3, _⟩ := jEz h7
  have hch := gXz hT h
  have hlh := gWz hf h
  rw [gVz hf h] at hch hlh ⊢
  have hj2 : (fO X j).kind ≠ 2 := fun q => by unfold sngO at h4; rw [q] at h4; cases h4
  have hij : i ≠ j := fun q => by rw [q] at h3; exact hj2 h3
  generalize hy : ({ fO X i with links := insW (fO X i).links j } : Ob) = y at hch hlh ⊢
  have hk : Kid (fO X i) y := by rw [← hy]; exact ⟨rfl, rfl, rfl, rfl, rfl⟩
  have hkid := jnz hT.srt e2 hk
  have hys : qKz y = true := by
   rw [← hy]
   refine vcz (hT.snd _ e2) h3 ?_ h6 l2
   have := (qJz.1 (qnz.1 (hT.snd _ k2)).1).1
   rw [k1] at this
   exact this
  have hq : ∀ x ∈ X, (upd y x).quota = x.quota := fun x hx => by
   rcases qIz hT.srt e2 hk hx with ⟨rfl, q⟩ | ⟨_, q⟩ <;> rw [q]
   rw [← hy]
  have hfx : ∀ x ∈ X, x.fixed = true → (upd y x).fixed = true := fun x hx hh => by
   rcases qIz hT.srt e2 hk hx with ⟨rfl, q⟩ | ⟨_, q⟩
   ·rw [q, ← hy]; exact hh
   ·rw [q]; exact hh
  have hhol : ∀ k, k ≠ j → holL (X.map (upd y)) k = holL X k := fun k hkj => bfz hkid fun x hx => by
   rcases qIz hT.srt e2 hk hx with ⟨rfl, q⟩ | ⟨_, q⟩
   ·rw [q, ← hy]
    show k ∈ insW (fO X i).links j ↔ _
    rw [xcz]
    exact ⟨fun z => z.resolve_left hkj, fun z => .inr z⟩
   ·rw [q]
  have hcl : ∀ k, k ≠ j → ∀ c ∈ holL X k, c ≠ j := fun k _ c hc q => by
   obtain ⟨z, z1, z2, z3⟩ := jJz.1 hc
   have : z = fO X j := wmz hT.srt z1 k2 (by rw [z2, k1]; exact q)
   rw [this] at z3
   rw [wRz (hT.snd _ k2) hj2] at z3
   cases z3
  obtain ⟨_, _, g3, g4, _⟩ := x1z hf
  refine ygz hkid (fun x hx => ?_) hf (fun x hx => ?_) (fun x hx => ?_)
  ·rcases qIz hT.srt e2 hk hx with ⟨rfl, q⟩ | ⟨_, q⟩
   ·rw [q]; exact hys
   ·rw [q]; exact hT.snd x hx
  ·rcases qIz hT.srt e2 hk hx with ⟨rfl, q⟩ | ⟨hne, q⟩
   ·have hc := (hch.ch _ e2).2
    have hxf : fO (X.map (upd y)) (fO X i).id = y := by
     show (fnd (X.map (upd y)) (fO X i).id).getD zOb = y
     rw [xez hkid, (q6z hT.srt).2 ⟨e2, rfl⟩]; exact q
    rw [hxf, if_pos e1] at hc
    have h0 := g3 _ e2
    rw [q]
    unfold lnkB at h0 ⊢
    rw [Bool.and_eq_true] at h0 ⊢
    refine ⟨?_, ?_⟩
    ·rw [List.all_eq_true] at h0 ⊢
     intro l hl
     rw [xez hkid, Option.isSome_map, fo_lab hkid, hk.label]
     rw [← hy] at hl
     rcases xcz.1 hl with rfl | hl
     ·rw [h2, l1]; rfl
     ·exact h0.1 l hl
    ·rw [Bool.or_eq_true]
     right
     refine decide_eq_true ?_
     rw [w3z hys (by rw [hk.kind]; exact h3), hc, ← hy]
     show useV X (fO X i) + (fO X j).quota ≤ (fO X i).quota
     unfold xrz at l3
     unfold useV
     omega
   ·refine yaz hkid hx (by rw [q]) (fun k => ?_) (g3 x hx)
    rw [yoz (q_kid hkid hq) (by rw [q]) (by rw [q]), hq x hx]
    exact hT.use x hx k
  ·by_cases ej : x.id = j
   ·have hxo : x = fO X j := wmz hT.srt hx k2 (by rw [ej, k1])
    rcases qIz hT.srt e2 hk hx with ⟨q, _⟩ | ⟨_, q⟩
    ·exact absurd (by rw [← ej, q, e1]) hij
    ·rw [q]
     unfold plaB
     have hro : x.id ≠ ro := fun e => by
      obtain ⟨r, r1, r2, _⟩ := hT.rot
      have : x = r := wmz hT.srt hx (wsz r1).2 (e.trans (wsz r1).1.symm)
      rw [← this, hxo] at r2
      exact hj2 r2
     rw [if_neg hro, ej, hlh, hxo, h5, h4, decide_eq_false hj2]
     simp
   ·refine v6z (P := fun k => k ≠ j) hhol hcl (by simp) (hkid x hx) ej (fun e => ?_) (hfx x hx) (g4 x hx)
    rw [hq x hx]
    obtain ⟨r, r1, r2, r3⟩ := hT.rot
    have : x = r := wmz hT.srt hx (wsz r1).2 (e.trans (wsz r1).1.symm)
    rw [this]; exact r3
 ·rw [lin_no h]; exact hf
def hasO (key : Nat) (x : Ob) (i : Int) : Bool := SrM.hasK key x.th.lo.toNat x.th.hi.toNat i.toNat
def rapO (x y : Ob) : Bool := rapB x.th.lo.toNat x.th.hi.toNat y.th.lo.toNat y.th.hi.toNat
theorem rap_comm (x y : Ob) : rapO x y = rapO y x := by
 unfold rapO rapB
 rw [Bool.eq_iff_iff]
 simp only [Bool.or_eq_true, decide_eq_true_eq]
 constructor <;> (rintro (h | h | h | h)) <;> simp [h]
def ownD (key : Nat) (X : List Ob) (o : Ob) : Bool := (X.all fun x => !(decide (x.kind = 4) && (hasO key x o.id || (decide (o.kind = 4) && !rapO x o))) && !(decide (o.kind = 4) && hasO key o x.id)) && (!decide (o.kind = 4) || !hasO key o o.id)
theorem u8z {Y : List Ob} (hs : Srt Y) : spaB key Y = true ↔ ∀ x ∈ Y, x.kind = 4 → ∀ y ∈ Y, hasO key x y.id = false ∧ (y.kind = 4 → y.id ≠ x.id → rapO x y = true) := by
 unfold spaB
 rw [List.all_eq_true]
 constructor
 ·intro h x hx k y hy
  obtain ⟨i, hi, ei⟩ := List.getElem_of_mem hx
  obtain ⟨j, hj, ej⟩ := List.getElem_of_mem hy
  have h1 := h i (List.mem_range.2 hi)
  rw [qyz hi, ei, decide_eq_true k] at h1
  simp only [Bool.not_true, Bool.false_or] at h1
  rw [List.all_eq_true] at h1
  have h2 := h1 j (List.mem_range.2 hj)
  unfold rowB at h2
  rw [qyz hi, ei, qyz hj, ej] at h2
  simp only [Bool.not_eq_true', Bool.or_eq_false_iff] at h2
  refine ⟨h2.1, fun ky hne => ?_⟩
  have hji : j ≠ i := fun q => by subst q; rw [ei] at ej; exact hne (by rw [ej])
  have h3 := h2.2
  rw [decide_eq_true ky, decide_eq_true hji] at h3
  show rapB _ _ _ _ = true
  simpa using h3
 ·intro h i hi
  have hi' := List.mem_range.1 hi
  by_cases k : (oat Y i).kind = 4
  ·rw [decide_eq_true k]
   simp only [Bool.not_true, Bool.false_or]
   rw [List.all_eq_true]
   intro j hj
   have hj' := List.mem_range.1 hj
   have := h _ (qQz hi') k _ (qQz hj')
   unfold rowB
   rw [Bool.not_eq_true', Bool.or_eq_false_iff]
   refine ⟨this.1, ?_⟩
   by_cases ky : (oat Y j).kind = 4
   ·by_cases hji : j = i
    ·rw [decide_eq_false (not_not_intro hji)]; simp
    ·have hne : (oat Y j).id ≠ (oat Y i).id := fun q => hji ((oat_inj hs hi' hj').1 q)
     have := this.2 ky hne
     unfold rapO at this
     rw [this]; simp
   ·rw [decide_eq_false ky]; rfl
  ·rw [decide_eq_false k]; rfl
end
section
open Go.RowKit Go.Shelf
attribute [local go_sem] Oper.semAt_some
def rowO (key : Nat) (o x : Ob) : Bool := !(decide (x.kind = 4) && (hasO key x o.id || (decide (o.kind = 4) && !rapO x o))) && !(decide (o.kind = 4) && hasO key o x.id)
theorem yGz (key : Nat) (X : List Ob) (o : Ob) : ownD key X o = ((X.all fun x => rowO key o x) && (!decide (o.kind = 4) || !hasO key o o.id)) := rfl
theorem rown_w {w : World} {t ro : Int} {key : Nat} {ao : Option Addr} {n cap : Nat} {X : List Ob} {K : Array Value} {o : Ob} (h : Obs w ao n cap X) (hw : ∀ x ∈ X, WdO x) (ho : ObD (LtN w) w K o) (hwo : WdO o) : Calls prog 10 #[.agg #[.int .i64 t, .int .u64 (key : Int), .int .u64 ro, .slice ao n cap], .agg K] w fun e w' => e = .returned (.bool (ownD key X o)) ∧ Below w.heap.size w w' := by
 have hn : Hid (X.length = n) := h.1
 have hnc := h.2.1
 have hcm := h.2.2.1.1
 have ga1 := isAgg22
 have ga3 := isAgg23
 have gai := isAgg3
 have c1 : (#[.int .i64 t, .int .u64 (key : Int), .int .u64 ro, .slice ao n cap] : Array Value)[1]? = some (.int .u64 (key : Int)) := rfl
 have c3 : (#[.int .i64 t, .int .u64 (key : Int), .int .u64 ro, .slice ao n cap] : Array Value)[3]? = some (.slice ao n cap) := rfl
 have hyes : Hid ((∀ i, i < n → rowO key o (oat X i) = true) → ownD key X o = (!decide (o.kind = 4) || !hasO key o o.id)) := by
  refine (?_ : (∀ i, i < n → rowO key o (oat X i) = true) → ownD key X o = (!decide (o.kind = 4) || !hasO key o o.id))
  intro q
  rw [yGz, show (X.all fun x => rowO key o x) = true from List.all_eq_true.2 fun x hx => by
   obtain ⟨i, hi, e⟩ := List.getElem_of_mem hx
   have := q i (by rw [← hn.out]; exact hi)
   rwa [qyz hi, e] at this, Bool.true_and]
 have hno : Hid (∀ i, i < n → rowO key o (oat X i) = false → ownD key X o = false) := by
  refine (?_ : ∀ i, i < n → rowO key o (oat X i) = false → ownD key X o = false)
  intro i hi q
  have z : (X.all fun x => rowO key o x) = false := by
   rw [Bool.eq_false_iff]
   intro e
   rw [List.all_eq_true] at e
   have := e _ (qQz (l := X) (i := i) (by rw [hn.out]; exact hi))
   rw [q] at this
   cases this
  rw [yGz, z, Bool.false_and]
 have hwd : Hid (∀ i, i < n → WdO (oat X i)) := fun i hi => hw _ (qQz (by rw [hn.out]; exact hi))
 have hzo := ho.size
 have ko := ho.kind
 have io := ho.id
 have elo : (o.th.lo.toNat : Int) = o.th.lo := Int.toNat_of_nonneg hwo.2.1.1
 have eho : (o.th.hi.toNat : Int) = o.th.hi := Int.toNat_of_nonneg hwo.2.2.1
 have eio : (o.id.toNat : Int) = o.id := Int.toNat_of_nonneg hwo.1.1
 have hVo : K.extract 37 (37 + 2) = #[.int .u64 (o.th.lo.toNat : Int), .int .u64 (o.th.hi.toNat : Int)] := by rw [elo, eho]; exact ext2 ho.th.lo ho.th.hi
 rw [← eio] at io
 have ho64 : o.id.toNat < 18446744073709551616 := by have := hwo.1.2; omega
 have hoo : ∀ W, Calls prog 33 #[.int .u64 (key : Int), .agg #[.int .u64 (o.th.lo.toNat : Int), .int .u64 (o.th.hi.toNat : Int)], .int .u64 (o.id.toNat : Int)] W fun e w' => e = .returned (.bool (hasO key o o.id)) ∧ Below W.heap.size W w' := fun W => xoz ho64 W
 clear elo eho eio hwo
 generalize ownD key X o = res at hyes hno ⊢
 obtain ⟨G, hG⟩ : ∃ G : Array Value, G = #[.int .i64 t, .int .u64 (key : Int), .int .u64 ro, .slice ao n cap] := ⟨_, rfl⟩
 rw [← hG] at c1 c3
 rw [← hG]
 clear hG
 by_cases ho4 : o.kind = 4
 ·have o4b : (o.kind == 4) = true := by simpa using ho4
  have o4c : (o.kind != 4) = false := by unfold bne; rw [o4b]; rfl
  go_enter func10, ntmps10
  go_wp2_with (first
   | (with_reducible refine qcz rfl 25 _ rfl G rfl ?_; intro B W2 hN2 hB hk)
   | (with_reducible refine qcz rfl 43 _ rfl K rfl ?_; intro O W3 hN3 hO hk3; replace hB := hB.next hk3; replace hk := btz hk hk3; clear hk3))
  clear hN2 hN3
  go_loopw [5] (fun j wr => ∃ k : Nat, k ≤ n ∧ j = .int .i64 k ∧ Hid (∀ i, i < k → rowO key o (oat X i) = true) ∧ Blk wr B G 25 ∧ Blk wr O K 43 ∧ Below w.heap.size w wr) (fun j _ => n - (intOf j).toNat)
  case atStart => exact ⟨0, Nat.zero_le _, rfl, fun i hi => absurd hi (by omega), hB, hO, hk⟩
  case round =>
   clear hB hO hk
   obtain ⟨i, hin, rfl, hal, hB, hO, hk⟩ := hrel
   by_cases hkn : i < n
   ·obtain ⟨b, off, C, rfl, hbb, hC, hr⟩ := wqz (qvz h hk) hkn
    have hkn' : (i : Int) < n := by omega
    have hz := hC.size
    have h1c := hC.one
    have kx := hC.kind
    have ix := hC.id
    have hwi := hwd.out i hkn
    have el : ((oat X i).th.lo.toNat : Int) = (oat X i).th.lo := Int.toNat_of_nonneg hwi.2.1.1
    have eh : ((oat X i).th.hi.toNat : Int) = (oat X i).th.hi := Int.toNat_of_nonneg hwi.2.2.1
    have ei : ((oat X i).id.toNat : Int) = (oat X i).id := Int.toNat_of_nonneg hwi.1.1
    have hV : C.extract 37 (37 + 2) = #[.int .u64 ((oat X i).th.lo.toNat : Int), .int .u64 ((oat X i).th.hi.toNat : Int)] := by rw [el, eh]; exact ext2 hC.th.lo hC.th.hi
    rw [← ei] at ix
    have hx64 : (oat X i).id.toNat < 18446744073709551616 := by have := hwi.1.2; omega
    have hxo : ∀ W, Calls prog 33 #[.int .u64 (key : Int), .agg #[.int .u64 ((oat X i).th.lo.toNat : Int), .int .u64 ((oat X i).th.hi.toNat : Int)], .int .u64 (o.id.toNat : Int)] W fun e w' => e = .returned (.bool (hasO key (oat X i) o.id)) ∧ Below W.heap.size W w' := fun W => xoz ho64 W
    have hox : ∀ W, Calls prog 33 #[.int .u64 (key : Int), .agg #[.int .u64 (o.th.lo.toNat : Int), .int .u64 (o.th.hi.toNat : Int)], .int .u64 ((oat X i).id.toNat : Int)] W fun e w' => e = .returned (.bool (hasO key o (oat X i).id)) ∧ Below W.heap.size W w' := fun W => xoz hx64 W
    have hap : ∀ W, Calls prog 34 #[.agg #[.int .u64 ((oat X i).th.lo.toNat : Int), .int .u64 ((oat X i).th.hi.toNat : Int)], .agg #[.int .u64 (o.th.lo.toNat : Int), .int .u64 (o.th.hi.toNat : Int)]] W fun e w' => e = .returned (.bool (rapO (oat X i) o)) ∧ Below W.heap.size W w' := fun W => xRz _ _ _ _ W
    obtain ⟨B1, hB1⟩ : ∃ B1, hasO key (oat X i) o.id = B1 := ⟨_, rfl⟩
    obtain ⟨B2, hB2⟩ : ∃ B2, hasO key o (oat X i).id = B2 := ⟨_, rfl⟩
    obtain ⟨B3, hB3⟩ : ∃ B3, rapO (oat X i) o = B3 := ⟨_, rfl⟩
    simp only [hB1] at hxo
    simp only [hB2] at hox
    simp only [hB3] at hap
    clear hwi el eh ei hx64 hC hbb hoo ho64
    generalize (oat X i).th.lo.toNat = xlo at hV hxo hap
    generalize (oat X i).th.hi.toNat = xhi at hV hxo hap
    generalize (oat X i).id.toNat = xid at ix hox
    generalize o.th.lo.toNat = olo at hVo hox hap
    generalize o.th.hi.toNat = ohi at hVo hox hap
    generalize o.id.toNat = oid at io hxo
    have hnx : Hid (rowO key o (oat X i) = true → ∀ q, q < i + 1 → rowO key o (oat X q) = true) := by
     refine (?_ : rowO key o (oat X i) = true → ∀ q, q < i + 1 → rowO key o (oat X q) = true)
     intro e q hq
     rcases Nat.lt_or_ge q i with c | c
     ·exact hal.out q c
     ·obtain rfl : q = i := by omega
      exact e
    by_cases x4 : (oat X i).kind = 4
    ·have x4b : ((oat X i).kind == 4) = true := by simpa using x4
     cases B1 with
     | true =>
      go_wp2_with (first
       | go_skip
       | (with_reducible refine qaz (by kernel_rfl) _ _ rfl B _ rfl _ _ hB _ c3 ga3 ?_)
       | (with_reducible refine qaz (by kernel_rfl) _ _ rfl B _ rfl _ _ hB _ c1 ga1 ?_)
       | (with_reducible refine qaz (by kernel_rfl) _ _ rfl O _ rfl _ _ hO _ io ga1 ?_)
       | (with_reducible refine qaz (by kernel_rfl) _ _ rfl O _ rfl _ _ hO _ ko gai ?_)
       | (with_reducible refine qiz (by kernel_rfl) _ _ rfl O 37 rfl 2 K _ hO #[.int .u64 (olo : Int), .int .u64 (ohi : Int)] hVo (by omega) _ underlying36 (by kernel_rfl) (by kernel_rfl) ?_)
       | (with_reducible refine qtz (by kernel_rfl) 43 _ rfl b _ rfl C hr _ underlying43 (by kernel_rfl) (qfz hz) ?_)
       | ((with_reducible refine qgz rfl _ rfl zC qwz ?_); intro R W3 hN3 hRa hk3)
       | ((with_reducible refine qbz rfl _ _ _ rfl R rfl C rfl zC hRa (qfz hz) (qrz.trans hz.symm) h1c ?_); intro W4 hR o4; have k4 := o4.below wr.heap.size wr (by have := hN3.out.1; omega) hk3; replace hB := hB.next k4; replace hO := hO.next k4; replace hk := btz hk k4; clear hN3 hRa hk3 o4 k4)
       | (with_reducible refine qaz (by kernel_rfl) _ _ rfl R _ rfl _ _ hR _ ix ga1 ?_)
       | (with_reducible refine qaz (by kernel_rfl) _ _ rfl R _ rfl _ _ hR _ kx gai ?_)
       | (with_reducible refine qiz (by kernel_rfl) _ _ rfl R 37 rfl 2 C _ hR #[.int .u64 (xlo : Int), .int .u64 (xhi : Int)] hV (by omega) _ underlying36 (by kernel_rfl) (by kernel_rfl) ?_)
       | (go_at_call 33; (with_reducible refine (hxo _).mono ?_); rintro e w7 ⟨rfl, hb7⟩; replace hB := hB.next hb7; replace hO := hO.next hb7; replace hR := hR.next hb7; replace hk := btz hk hb7; clear hb7)
       | (go_at_call 33; (with_reducible refine (hox _).mono ?_); rintro e w7 ⟨rfl, hb7⟩; replace hB := hB.next hb7; replace hO := hO.next hb7; replace hR := hR.next hb7; replace hk := btz hk hb7; clear hb7)
       | (go_at_call 34; (with_reducible refine (hap _).mono ?_); rintro e w8 ⟨rfl, hb8⟩; replace hB := hB.next hb8; replace hO := hO.next hb8; replace hR := hR.next hb8; replace hk := btz hk hb8; clear hb8))
      go_ret
      exact ⟨by rw [hno.out i hkn (by unfold rowO; rw [decide_eq_true x4, decide_eq_true ho4, hB1]; rfl)]; rfl, hk⟩
     | false =>
      cases B3 with
      | false =>
       go_wp2_with (first
        | go_skip
        | (with_reducible refine qaz (by kernel_rfl) _ _ rfl B _ rfl _ _ hB _ c3 ga3 ?_)
        | (with_reducible refine qaz (by kernel_rfl) _ _ rfl B _ rfl _ _ hB _ c1 ga1 ?_)
        | (with_reducible refine qaz (by kernel_rfl) _ _ rfl O _ rfl _ _ hO _ io ga1 ?_)
        | (with_reducible refine qaz (by kernel_rfl) _ _ rfl O _ rfl _ _ hO _ ko gai ?_)
        | (with_reducible refine qiz (by kernel_rfl) _ _ rfl O 37 rfl 2 K _ hO #[.int .u64 (olo : Int), .int .u64 (ohi : Int)] hVo (by omega) _ underlying36 (by kernel_rfl) (by kernel_rfl) ?_)
        | (with_reducible refine qtz (by kernel_rfl) 43 _ rfl b _ rfl C hr _ underlying43 (by kernel_rfl) (qfz hz) ?_)
        | ((with_reducible refine qgz rfl _ rfl zC qwz ?_); intro R W3 hN3 hRa hk3)
        | ((with_reducible refine qbz rfl _ _ _ rfl R rfl C rfl zC hRa (qfz hz) (qrz.trans hz.symm) h1c ?_); intro W4 hR o4; have k4 := o4.below wr.heap.size wr (by have := hN3.out.1; omega) hk3; replace hB := hB.next k4; replace hO := hO.next k4; replace hk := btz hk k4; clear hN3 hRa hk3 o4 k4)
        | (with_reducible refine qaz (by kernel_rfl) _ _ rfl R _ rfl _ _ hR _ ix ga1 ?_)
        | (with_reducible refine qaz (by kernel_rfl) _ _ rfl R _ rfl _ _ hR _ kx gai ?_)
        | (with_reducible refine qiz (by kernel_rfl) _ _ rfl R 37 rfl 2 C _ hR #[.int .u64 (xlo : Int), .int .u64 (xhi : Int)] hV (by omega) _ underlying36 (by kernel_rfl) (by kernel_rfl) ?_)
        | (go_at_call 33; (with_reducible refine (hxo _).mono ?_); rintro e w7 ⟨rfl, hb7⟩; replace hB := hB.next hb7; replace hO := hO.next hb7; replace hR := hR.next hb7; replace hk := btz hk hb7; clear hb7)
        | (go_at_call 33; (with_reducible refine (hox _).mono ?_); rintro e w7 ⟨rfl, hb7⟩; replace hB := hB.next hb7; replace hO := hO.next hb7; replace hR := hR.next hb7; replace hk := btz hk hb7; clear hb7)
        | (go_at_call 34; (with_reducible refine (hap _).mono ?_); rintro e w8 ⟨rfl, hb8⟩; replace hB := hB.next hb8; replace hO := hO.next hb8; replace hR := hR.next hb8; replace hk := btz hk hb8; clear hb8))
       go_ret
       exact ⟨by rw [hno.out i hkn (by unfold rowO; rw [decide_eq_true x4, decide_eq_true ho4, hB1, hB3]; rfl)]; rfl, hk⟩
      | true =>
       cases B2 with
       | true =>
        go_wp2_with (first
         | go_skip
         | (with_reducible refine qaz (by kernel_rfl) _ _ rfl B _ rfl _ _ hB _ c3 ga3 ?_)
         | (with_reducible refine qaz (by kernel_rfl) _ _ rfl B _ rfl _ _ hB _ c1 ga1 ?_)
         | (with_reducible refine qaz (by kernel_rfl) _ _ rfl O _ rfl _ _ hO _ io ga1 ?_)
         | (with_reducible refine qaz (by kernel_rfl) _ _ rfl O _ rfl _ _ hO _ ko gai ?_)
         | (with_reducible refine qiz (by kernel_rfl) _ _ rfl O 37 rfl 2 K _ hO #[.int .u64 (olo : Int), .int .u64 (ohi : Int)] hVo (by omega) _ underlying36 (by kernel_rfl) (by kernel_rfl) ?_)
         | (with_reducible refine qtz (by kernel_rfl) 43 _ rfl b _ rfl C hr _ underlying43 (by kernel_rfl) (qfz hz) ?_)
         | ((with_reducible refine qgz rfl _ rfl zC qwz ?_); intro R W3 hN3 hRa hk3)
         | ((with_reducible refine qbz rfl _ _ _ rfl R rfl C rfl zC hRa (qfz hz) (qrz.trans hz.symm) h1c ?_); intro W4 hR o4; have k4 := o4.below wr.heap.size wr (by have := hN3.out.1; omega) hk3; replace hB := hB.next k4; replace hO := hO.next k4; replace hk := btz hk k4; clear hN3 hRa hk3 o4 k4)
         | (with_reducible refine qaz (by kernel_rfl) _ _ rfl R _ rfl _ _ hR _ ix ga1 ?_)
         | (with_reducible refine qaz (by kernel_rfl) _ _ rfl R _ rfl _ _ hR _ kx gai ?_)
         | (with_reducible refine qiz (by kernel_rfl) _ _ rfl R 37 rfl 2 C _ hR #[.int .u64 (xlo : Int), .int .u64 (xhi : Int)] hV (by omega) _ underlying36 (by kernel_rfl) (by kernel_rfl) ?_)
         | (go_at_call 33; (with_reducible refine (hxo _).mono ?_); rintro e w7 ⟨rfl, hb7⟩; replace hB := hB.next hb7; replace hO := hO.next hb7; replace hR := hR.next hb7; replace hk := btz hk hb7; clear hb7)
         | (go_at_call 33; (with_reducible refine (hox _).mono ?_); rintro e w7 ⟨rfl, hb7⟩; replace hB := hB.next hb7; replace hO := hO.next hb7; replace hR := hR.next hb7; replace hk := btz hk hb7; clear hb7)
         | (go_at_call 34; (with_reducible refine (hap _).mono ?_); rintro e w8 ⟨rfl, hb8⟩; replace hB := hB.next hb8; replace hO := hO.next hb8; replace hR := hR.next hb8; replace hk := btz hk hb8; clear hb8))
        go_ret
        exact ⟨by rw [hno.out i hkn (by unfold rowO; rw [decide_eq_true x4, decide_eq_true ho4, hB1, hB3, hB2]; rfl)]; rfl, hk⟩
       | false =>
        go_wp2_with (first
         | go_skip
         | (with_reducible refine qaz (by kernel_rfl) _ _ rfl B _ rfl _ _ hB _ c3 ga3 ?_)
         | (with_reducible refine qaz (by kernel_rfl) _ _ rfl B _ rfl _ _ hB _ c1 ga1 ?_)
         | (with_reducible refine qaz (by kernel_rfl) _ _ rfl O _ rfl _ _ hO _ io ga1 ?_)
         | (with_reducible refine qaz (by kernel_rfl) _ _ rfl O _ rfl _ _ hO _ ko gai ?_)
         | (with_reducible refine qiz (by kernel_rfl) _ _ rfl O 37 rfl 2 K _ hO #[.int .u64 (olo : Int), .int .u64 (ohi : Int)] hVo (by omega) _ underlying36 (by kernel_rfl) (by kernel_rfl) ?_)
         | (with_reducible refine qtz (by kernel_rfl) 43 _ rfl b _ rfl C hr _ underlying43 (by kernel_rfl) (qfz hz) ?_)
         | ((with_reducible refine qgz rfl _ rfl zC qwz ?_); intro R W3 hN3 hRa hk3)
         | ((with_reducible refine qbz rfl _ _ _ rfl R rfl C rfl zC hRa (qfz hz) (qrz.trans hz.symm) h1c ?_); intro W4 hR o4; have k4 := o4.below wr.heap.size wr (by have := hN3.out.1; omega) hk3; replace hB := hB.next k4; replace hO := hO.next k4; replace hk := btz hk k4; clear hN3 hRa hk3 o4 k4)
         | (with_reducible refine qaz (by kernel_rfl) _ _ rfl R _ rfl _ _ hR _ ix ga1 ?_)
         | (with_reducible refine qaz (by kernel_rfl) _ _ rfl R _ rfl _ _ hR _ kx gai ?_)
         | (with_reducible refine qiz (by kernel_rfl) _ _ rfl R 37 rfl 2 C _ hR #[.int .u64 (xlo : Int), .int .u64 (xhi : Int)] hV (by omega) _ underlying36 (by kernel_rfl) (by kernel_rfl) ?_)
         | (go_at_call 33; (with_reducible refine (hxo _).mono ?_); rintro e w7 ⟨rfl, hb7⟩; replace hB := hB.next hb7; replace hO := hO.next hb7; replace hR := hR.next hb7; replace hk := btz hk hb7; clear hb7)
         | (go_at_call 33; (with_reducible refine (hox _).mono ?_); rintro e w7 ⟨rfl, hb7⟩; replace hB := hB.next hb7; replace hO := hO.next hb7; replace hR := hR.next hb7; replace hk := btz hk hb7; clear hb7)
         | (go_at_call 34; (with_reducible refine (hap _).mono ?_); rintro e w8 ⟨rfl, hb8⟩; replace hB := hB.next hb8; replace hO := hO.next hb8; replace hR := hR.next hb8; replace hk := btz hk hb8; clear hb8))
        go_roundw
        case rel => exact ⟨i + 1, by omega, by go_num, hnx.out (by unfold rowO; rw [decide_eq_true x4, decide_eq_true ho4, hB1, hB3, hB2]; rfl), hB, hO, hk⟩
        case measure => simp [intOf]; omega
    ·have x4b : ((oat X i).kind == 4) = false := by simpa using x4
     cases B2 with
     | true =>
      go_wp2_with (first
       | go_skip
       | (with_reducible refine qaz (by kernel_rfl) _ _ rfl B _ rfl _ _ hB _ c3 ga3 ?_)
       | (with_reducible refine qaz (by kernel_rfl) _ _ rfl B _ rfl _ _ hB _ c1 ga1 ?_)
       | (with_reducible refine qaz (by kernel_rfl) _ _ rfl O _ rfl _ _ hO _ io ga1 ?_)
       | (with_reducible refine qaz (by kernel_rfl) _ _ rfl O _ rfl _ _ hO _ ko gai ?_)
       | (with_reducible refine qiz (by kernel_rfl) _ _ rfl O 37 rfl 2 K _ hO #[.int .u64 (olo : Int), .int .u64 (ohi : Int)] hVo (by omega) _ underlying36 (by kernel_rfl) (by kernel_rfl) ?_)
       | (with_reducible refine qtz (by kernel_rfl) 43 _ rfl b _ rfl C hr _ underlying43 (by kernel_rfl) (qfz hz) ?_)
       | ((with_reducible refine qgz rfl _ rfl zC qwz ?_); intro R W3 hN3 hRa hk3)
       | ((with_reducible refine qbz rfl _ _ _ rfl R rfl C rfl zC hRa (qfz hz) (qrz.trans hz.symm) h1c ?_); intro W4 hR o4; have k4 := o4.below wr.heap.size wr (by have := hN3.out.1; omega) hk3; replace hB := hB.next k4; replace hO := hO.next k4; replace hk := btz hk k4; clear hN3 hRa hk3 o4 k4)
       | (with_reducible refine qaz (by kernel_rfl) _ _ rfl R _ rfl _ _ hR _ ix ga1 ?_)
       | (with_reducible refine qaz (by kernel_rfl) _ _ rfl R _ rfl _ _ hR _ kx gai ?_)
       | (with_reducible refine qiz (by kernel_rfl) _ _ rfl R 37 rfl 2 C _ hR #[.int .u64 (xlo : Int), .int .u64 (xhi : Int)] hV (by omega) _ underlying36 (by kernel_rfl) (by kernel_rfl) ?_)
       | (go_at_call 33; (with_reducible refine (hxo _).mono ?_); rintro e w7 ⟨rfl, hb7⟩; replace hB := hB.next hb7; replace hO := hO.next hb7; replace hR := hR.next hb7; replace hk := btz hk hb7; clear hb7)
       | (go_at_call 33; (with_reducible refine (hox _).mono ?_); rintro e w7 ⟨rfl, hb7⟩; replace hB := hB.next hb7; replace hO := hO.next hb7; replace hR := hR.next hb7; replace hk := btz hk hb7; clear hb7)
       | (go_at_call 34; (with_reducible refine (hap _).mono ?_); rintro e w8 ⟨rfl, hb8⟩; replace hB := hB.next hb8; replace hO := hO.next hb8; replace hR := hR.next hb8; replace hk := btz hk hb8; clear hb8))
      go_ret
      exact ⟨by rw [hno.out i hkn (by unfold rowO; rw [decide_eq_false x4, decide_eq_true ho4, hB2]; rfl)]; rfl, hk⟩
     | false =>
      go_wp2_with (first
       | go_skip
       | (with_reducible refine qaz (by kernel_rfl) _ _ rfl B _ rfl _ _ hB _ c3 ga3 ?_)
       | (with_reducible refine qaz (by kernel_rfl) _ _ rfl B _ rfl _ _ hB _ c1 ga1 ?_)
       | (with_reducible refine qaz (by kernel_rfl) _ _ rfl O _ rfl _ _ hO _ io ga1 ?_)
       | (with_reducible refine qaz (by kernel_rfl) _ _ rfl O _ rfl _ _ hO _ ko gai ?_)
       | (with_reducible refine qiz (by kernel_rfl) _ _ rfl O 37 rfl 2 K _ hO #[.int .u64 (olo : Int), .int .u64 (ohi : Int)] hVo (by omega) _ underlying36 (by kernel_rfl) (by kernel_rfl) ?_)
       | (with_reducible refine qtz (by kernel_rfl) 43 _ rfl b _ rfl C hr _ underlying43 (by kernel_rfl) (qfz hz) ?_)
       | ((with_reducible refine qgz rfl _ rfl zC qwz ?_); intro R W3 hN3 hRa hk3)
       | ((with_reducible refine qbz rfl _ _ _ rfl R rfl C rfl zC hRa (qfz hz) (qrz.trans hz.symm) h1c ?_); intro W4 hR o4; have k4 := o4.below wr.heap.size wr (by have := hN3.out.1; omega) hk3; replace hB := hB.next k4; replace hO := hO.next k4; replace hk := btz hk k4; clear hN3 hRa hk3 o4 k4)
       | (with_reducible refine qaz (by kernel_rfl) _ _ rfl R _ rfl _ _ hR _ ix ga1 ?_)
       | (with_reducible refine qaz (by kernel_rfl) _ _ rfl R _ rfl _ _ hR _ kx gai ?_)
       | (with_reducible refine qiz (by kernel_rfl) _ _ rfl R 37 rfl 2 C _ hR #[.int .u64 (xlo : Int), .int .u64 (xhi : Int)] hV (by omega) _ underlying36 (by kernel_rfl) (by kernel_rfl) ?_)
       | (go_at_call 33; (with_reducible refine (hxo _).mono ?_); rintro e w7 ⟨rfl, hb7⟩; replace hB := hB.next hb7; replace hO := hO.next hb7; replace hR := hR.next hb7; replace hk := btz hk hb7; clear hb7)
       | (go_at_call 33; (with_reducible refine (hox _).mono ?_); rintro e w7 ⟨rfl, hb7⟩; replace hB := hB.next hb7; replace hO := hO.next hb7; replace hR := hR.next hb7; replace hk := btz hk hb7; clear hb7)
       | (go_at_call 34; (with_reducible refine (hap _).mono ?_); rintro e w8 ⟨rfl, hb8⟩; replace hB := hB.next hb8; replace hO := hO.next hb8; replace hR := hR.next hb8; replace hk := btz hk hb8; clear hb8))
      go_roundw
      case rel => exact ⟨i + 1, by omega, by go_num, hnx.out (by unfold rowO; rw [decide_eq_false x4, decide_eq_true ho4, hB2]; rfl), hB, hO, hk⟩
      case measure => simp [intOf]; omega
   ·obtain rfl : i = n := by omega
    have hfin := hyes.out hal.out
    rw [decide_eq_true ho4] at hfin
    cases hq : hasO key o o.id with
    | true =>
     simp only [hq] at hoo hfin
     generalize o.th.lo.toNat = olo at hVo hoo
     generalize o.th.hi.toNat = ohi at hVo hoo
     generalize o.id.toNat = oid at io hoo
     go_wp2_with (first
      | go_skip
      | (with_reducible refine qaz (by kernel_rfl) _ _ rfl B _ rfl _ _ hB _ c3 ga3 ?_)
      | (with_reducible refine qaz (by kernel_rfl) _ _ rfl B _ rfl _ _ hB _ c1 ga1 ?_)
      | (with_reducible refine qaz (by kernel_rfl) _ _ rfl O _ rfl _ _ hO _ io ga1 ?_)
      | (with_reducible refine qaz (by kernel_rfl) _ _ rfl O _ rfl _ _ hO _ ko gai ?_)
      | (with_reducible refine qiz (by kernel_rfl) _ _ rfl O 37 rfl 2 K _ hO #[.int .u64 (olo : Int), .int .u64 (ohi : Int)] hVo (by omega) _ underlying36 (by kernel_rfl) (by kernel_rfl) ?_)
      | (go_at_call 33; (with_reducible refine (hoo _).mono ?_); rintro e w7 ⟨rfl, hb7⟩; replace hk := btz hk hb7; clear hb7))
     go_ret
     exact ⟨by rw [hfin]; rfl, hk⟩
    | false =>
     simp only [hq] at hoo hfin
     generalize o.th.lo.toNat = olo at hVo hoo
     generalize o.th.hi.toNat = ohi at hVo hoo
     generalize o.id.toNat = oid at io hoo
     go_wp2_with (first
      | go_skip
      | (with_reducible refine qaz (by kernel_rfl) _ _ rfl B _ rfl _ _ hB _ c3 ga3 ?_)
      | (with_reducible refine qaz (by kernel_rfl) _ _ rfl B _ rfl _ _ hB _ c1 ga1 ?_)
      | (with_reducible refine qaz (by kernel_rfl) _ _ rfl O _ rfl _ _ hO _ io ga1 ?_)
      | (with_reducible refine qaz (by kernel_rfl) _ _ rfl O _ rfl _ _ hO _ ko gai ?_)
      | (with_reducible refine qiz (by kernel_rfl) _ _ rfl O 37 rfl 2 K _ hO #[.int .u64 (olo : Int), .int .u64 (ohi : Int)] hVo (by omega) _ underlying36 (by kernel_rfl) (by kernel_rfl) ?_)
      | (go_at_call 33; (with_reducible refine (hoo _).mono ?_); rintro e w7 ⟨rfl, hb7⟩; replace hk := btz hk hb7; clear hb7))
     go_ret
     exact ⟨by rw [hfin]; rfl, hk⟩
 ·have o4b : (o.kind == 4) = false := by simpa using ho4
  have o4c : (o.kind != 4) = true := by unfold bne; rw [o4b]; rfl
  go_enter func10, ntmps10
  go_wp2_with (first
   | (with_reducible refine qcz rfl 25 _ rfl G rfl ?_; intro B W2 hN2 hB hk)
   | (with_reducible refine qcz rfl 43 _ rfl K rfl ?_; intro O W3 hN3 hO hk3; replace hB := hB.next hk3; replace hk := btz hk hk3; clear hk3))
  clear hN2 hN3
  go_loopw [5] (fun j wr => ∃ k : Nat, k ≤ n ∧ j = .int .i64 k ∧ Hid (∀ i, i < k → rowO key o (oat X i) = true) ∧ Blk wr B G 25 ∧ Blk wr O K 43 ∧ Below w.heap.size w wr) (fun j _ => n - (intOf j).toNat)
  case atStart => exact ⟨0, Nat.zero_le _, rfl, fun i hi => absurd hi (by omega), hB, hO, hk⟩
  case round =>
   clear hB hO hk
   obtain ⟨i, hin, rfl, hal, hB, hO, hk⟩ := hrel
   by_cases hkn : i < n
   ·obtain ⟨b, off, C, rfl, hbb, hC, hr⟩ := wqz (qvz h hk) hkn
    have hkn' : (i : Int) < n := by omega
    have hz := hC.size
    have h1c := hC.one
    have kx := hC.kind
    have ix := hC.id
    have hwi := hwd.out i hkn
    have el : ((oat X i).th.lo.toNat : Int) = (oat X i).th.lo := Int.toNat_of_nonneg hwi.2.1.1
    have eh : ((oat X i).th.hi.toNat : Int) = (oat X i).th.hi := Int.toNat_of_nonneg hwi.2.2.1
    have ei : ((oat X i).id.toNat : Int) = (oat X i).id := Int.toNat_of_nonneg hwi.1.1
    have hV : C.extract 37 (37 + 2) = #[.int .u64 ((oat X i).th.lo.toNat : Int), .int .u64 ((oat X i).th.hi.toNat : Int)] := by rw [el, eh]; exact ext2 hC.th.lo hC.th.hi
    rw [← ei] at ix
    have hx64 : (oat X i).id.toNat < 18446744073709551616 := by have := hwi.1.2; omega
    have hxo : ∀ W, Calls prog 33 #[.int .u64 (key : Int), .agg #[.int .u64 ((oat X i).th.lo.toNat : Int), .int .u64 ((oat X i).th.hi.toNat : Int)], .int .u64 (o.id.toNat : Int)] W fun e w' => e = .returned (.bool (hasO key (oat X i) o.id)) ∧ Below W.heap.size W w' := fun W => xoz ho64 W
    have hox : ∀ W, Calls prog 33 #[.int .u64 (key : Int), .agg #[.int .u64 (o.th.lo.toNat : Int), .int .u64 (o.th.hi.toNat : Int)], .int .u64 ((oat X i).id.toNat : Int)] W fun e w' => e = .returned (.bool (hasO key o (oat X i).id)) ∧ Below W.heap.size W w' := fun W => xoz hx64 W
    have hap : ∀ W, Calls prog 34 #[.agg #[.int .u64 ((oat X i).th.lo.toNat : Int), .int .u64 ((oat X i).th.hi.toNat : Int)], .agg #[.int .u64 (o.th.lo.toNat : Int), .int .u64 (o.th.hi.toNat : Int)]] W fun e w' => e = .returned (.bool (rapO (oat X i) o)) ∧ Below W.heap.size W w' := fun W => xRz _ _ _ _ W
    obtain ⟨B1, hB1⟩ : ∃ B1, hasO key (oat X i) o.id = B1 := ⟨_, rfl⟩
    obtain ⟨B2, hB2⟩ : ∃ B2, hasO key o (oat X i).id = B2 := ⟨_, rfl⟩
    obtain ⟨B3, hB3⟩ : ∃ B3, rapO (oat X i) o = B3 := ⟨_, rfl⟩
    simp only [hB1] at hxo
    simp only [hB2] at hox
    simp only [hB3] at hap
    clear hwi el eh ei hx64 hC hbb hoo ho64
    generalize (oat X i).th.lo.toNat = xlo at hV hxo hap
    generalize (oat X i).th.hi.toNat = xhi at hV hxo hap
    generalize (oat X i).id.toNat = xid at ix hox
    generalize o.th.lo.toNat = olo at hVo hox hap
    generalize o.th.hi.toNat = ohi at hVo hox hap
    generalize o.id.toNat = oid at io hxo
    have hnx : Hid (rowO key o (oat X i) = true → ∀ q, q < i + 1 → rowO key o (oat X q) = true) := by
     refine (?_ : rowO key o (oat X i) = true → ∀ q, q < i + 1 → rowO key o (oat X q) = true)
     intro e q hq
     rcases Nat.lt_or_ge q i with c | c
     ·exact hal.out q c
     ·obtain rfl : q = i := by omega
      exact e
    by_cases x4 : (oat X i).kind = 4
    ·have x4b : ((oat X i).kind == 4) = true := by simpa using x4
     cases B1 with
     | true =>
      go_wp2_with (first
       | go_skip
       | (with_reducible refine qaz (by kernel_rfl) _ _ rfl B _ rfl _ _ hB _ c3 ga3 ?_)
       | (with_reducible refine qaz (by kernel_rfl) _ _ rfl B _ rfl _ _ hB _ c1 ga1 ?_)
       | (with_reducible refine qaz (by kernel_rfl) _ _ rfl O _ rfl _ _ hO _ io ga1 ?_)
       | (with_reducible refine qaz (by kernel_rfl) _ _ rfl O _ rfl _ _ hO _ ko gai ?_)
       | (with_reducible refine qiz (by kernel_rfl) _ _ rfl O 37 rfl 2 K _ hO #[.int .u64 (olo : Int), .int .u64 (ohi : Int)] hVo (by omega) _ underlying36 (by kernel_rfl) (by kernel_rfl) ?_)
       | (with_reducible refine qtz (by kernel_rfl) 43 _ rfl b _ rfl C hr _ underlying43 (by kernel_rfl) (qfz hz) ?_)
       | ((with_reducible refine qgz rfl _ rfl zC qwz ?_); intro R W3 hN3 hRa hk3)
       | ((with_reducible refine qbz rfl _ _ _ rfl R rfl C rfl zC hRa (qfz hz) (qrz.trans hz.symm) h1c ?_); intro W4 hR o4; have k4 := o4.below wr.heap.size wr (by have := hN3.out.1; omega) hk3; replace hB := hB.next k4; replace hO := hO.next k4; replace hk := btz hk k4; clear hN3 hRa hk3 o4 k4)
       | (with_reducible refine qaz (by kernel_rfl) _ _ rfl R _ rfl _ _ hR _ ix ga1 ?_)
       | (with_reducible refine qaz (by kernel_rfl) _ _ rfl R _ rfl _ _ hR _ kx gai ?_)
       | (with_reducible refine qiz (by kernel_rfl) _ _ rfl R 37 rfl 2 C _ hR #[.int .u64 (xlo : Int), .int .u64 (xhi : Int)] hV (by omega) _ underlying36 (by kernel_rfl) (by kernel_rfl) ?_)
       | (go_at_call 33; (with_reducible refine (hxo _).mono ?_); rintro e w7 ⟨rfl, hb7⟩; replace hB := hB.next hb7; replace hO := hO.next hb7; replace hR := hR.next hb7; replace hk := btz hk hb7; clear hb7)
       | (go_at_call 33; (with_reducible refine (hox _).mono ?_); rintro e w7 ⟨rfl, hb7⟩; replace hB := hB.next hb7; replace hO := hO.next hb7; replace hR := hR.next hb7; replace hk := btz hk hb7; clear hb7)
       | (go_at_call 34; (with_reducible refine (hap _).mono ?_); rintro e w8 ⟨rfl, hb8⟩; replace hB := hB.next hb8; replace hO := hO.next hb8; replace hR := hR.next hb8; replace hk := btz hk hb8; clear hb8))
      go_ret
      exact ⟨by rw [hno.out i hkn (by unfold rowO; rw [decide_eq_true x4, decide_eq_false ho4, hB1]; rfl)]; rfl, hk⟩
     | false =>
      go_wp2_with (first
       | go_skip
       | (with_reducible refine qaz (by kernel_rfl) _ _ rfl B _ rfl _ _ hB _ c3 ga3 ?_)
       | (with_reducible refine qaz (by kernel_rfl) _ _ rfl B _ rfl _ _ hB _ c1 ga1 ?_)
       | (with_reducible refine qaz (by kernel_rfl) _ _ rfl O _ rfl _ _ hO _ io ga1 ?_)
       | (with_reducible refine qaz (by kernel_rfl) _ _ rfl O _ rfl _ _ hO _ ko gai ?_)
       | (with_reducible refine qiz (by kernel_rfl) _ _ rfl O 37 rfl 2 K _ hO #[.int .u64 (olo : Int), .int .u64 (ohi : Int)] hVo (by omega) _ underlying36 (by kernel_rfl) (by kernel_rfl) ?_)
       | (with_reducible refine qtz (by kernel_rfl) 43 _ rfl b _ rfl C hr _ underlying43 (by kernel_rfl) (qfz hz) ?_)
       | ((with_reducible refine qgz rfl _ rfl zC qwz ?_); intro R W3 hN3 hRa hk3)
       | ((with_reducible refine qbz rfl _ _ _ rfl R rfl C rfl zC hRa (qfz hz) (qrz.trans hz.symm) h1c ?_); intro W4 hR o4; have k4 := o4.below wr.heap.size wr (by have := hN3.out.1; omega) hk3; replace hB := hB.next k4; replace hO := hO.next k4; replace hk := btz hk k4; clear hN3 hRa hk3 o4 k4)
       | (with_reducible refine qaz (by kernel_rfl) _ _ rfl R _ rfl _ _ hR _ ix ga1 ?_)
       | (with_reducible refine qaz (by kernel_rfl) _ _ rfl R _ rfl _ _ hR _ kx gai ?_)
       | (with_reducible refine qiz (by kernel_rfl) _ _ rfl R 37 rfl 2 C _ hR #[.int .u64 (xlo : Int), .int .u64 (xhi : Int)] hV (by omega) _ underlying36 (by kernel_rfl) (by kernel_rfl) ?_)
       | (go_at_call 33; (with_reducible refine (hxo _).mono ?_); rintro e w7 ⟨rfl, hb7⟩; replace hB := hB.next hb7; replace hO := hO.next hb7; replace hR := hR.next hb7; replace hk := btz hk hb7; clear hb7)
       | (go_at_call 33; (with_reducible refine (hox _).mono ?_); rintro e w7 ⟨rfl, hb7⟩; replace hB := hB.next hb7; replace hO := hO.next hb7; replace hR := hR.next hb7; replace hk := btz hk hb7; clear hb7)
       | (go_at_call 34; (with_reducible refine (hap _).mono ?_); rintro e w8 ⟨rfl, hb8⟩; replace hB := hB.next hb8; replace hO := hO.next hb8; replace hR := hR.next hb8; replace hk := btz hk hb8; clear hb8))
      go_roundw
      case rel => exact ⟨i + 1, by omega, by go_num, hnx.out (by unfold rowO; rw [decide_eq_true x4, decide_eq_false ho4, hB1]; rfl), hB, hO, hk⟩
      case measure => simp [intOf]; omega
    ·have x4b : ((oat X i).kind == 4) = false := by simpa using x4
     go_wp2_with (first
      | go_skip
      | (with_reducible refine qaz (by kernel_rfl) _ _ rfl B _ rfl _ _ hB _ c3 ga3 ?_)
      | (with_reducible refine qaz (by kernel_rfl) _ _ rfl B _ rfl _ _ hB _ c1 ga1 ?_)
      | (with_reducible refine qaz (by kernel_rfl) _ _ rfl O _ rfl _ _ hO _ io ga1 ?_)
      | (with_reducible refine qaz (by kernel_rfl) _ _ rfl O _ rfl _ _ hO _ ko gai ?_)
      | (with_reducible refine qiz (by kernel_rfl) _ _ rfl O 37 rfl 2 K _ hO #[.int .u64 (olo : Int), .int .u64 (ohi : Int)] hVo (by omega) _ underlying36 (by kernel_rfl) (by kernel_rfl) ?_)
      | (with_reducible refine qtz (by kernel_rfl) 43 _ rfl b _ rfl C hr _ underlying43 (by kernel_rfl) (qfz hz) ?_)
      | ((with_reducible refine qgz rfl _ rfl zC qwz ?_); intro R W3 hN3 hRa hk3)
      | ((with_reducible refine qbz rfl _ _ _ rfl R rfl C rfl zC hRa (qfz hz) (qrz.trans hz.symm) h1c ?_); intro W4 hR o4; have k4 := o4.below wr.heap.size wr (by have := hN3.out.1; omega) hk3; replace hB := hB.next k4; replace hO := hO.next k4; replace hk := btz hk k4; clear hN3 hRa hk3 o4 k4)
      | (with_reducible refine qaz (by kernel_rfl) _ _ rfl R _ rfl _ _ hR _ ix ga1 ?_)
      | (with_reducible refine qaz (by kernel_rfl) _ _ rfl R _ rfl _ _ hR _ kx gai ?_)
      | (with_reducible refine qiz (by kernel_rfl) _ _ rfl R 37 rfl 2 C _ hR #[.int .u64 (xlo : Int), .int .u64 (xhi : Int)] hV (by omega) _ underlying36 (by kernel_rfl) (by kernel_rfl) ?_)
      | (go_at_call 33; (with_reducible refine (hxo _).mono ?_); rintro e w7 ⟨rfl, hb7⟩; replace hB := hB.next hb7; replace hO := hO.next hb7; replace hR := hR.next hb7; replace hk := btz hk hb7; clear hb7)
      | (go_at_call 33; (with_reducible refine (hox _).mono ?_); rintro e w7 ⟨rfl, hb7⟩; replace hB := hB.next hb7; replace hO := hO.next hb7; replace hR := hR.next hb7; replace hk := btz hk hb7; clear hb7)
      | (go_at_call 34; (with_reducible refine (hap _).mono ?_); rintro e w8 ⟨rfl, hb8⟩; replace hB := hB.next hb8; replace hO := hO.next hb8; replace hR := hR.next hb8; replace hk := btz hk hb8; clear hb8))
     go_roundw
     case rel => exact ⟨i + 1, by omega, by go_num, hnx.out (by unfold rowO; rw [decide_eq_false x4, decide_eq_false ho4]; rfl), hB, hO, hk⟩
     case measure => simp [intOf]; omega
   ·obtain rfl : i = n := by omega
    have hfin := hyes.out hal.out
    rw [decide_eq_false ho4] at hfin
    clear hoo
    generalize o.th.lo.toNat = olo at hVo
    generalize o.th.hi.toNat = ohi at hVo
    generalize o.id.toNat = oid at io
    go_wp2_with (first
     | go_skip
     | (with_reducible refine qaz (by kernel_rfl) _ _ rfl B _ rfl _ _ hB _ c3 ga3 ?_)
     | (with_reducible refine qaz (by kernel_rfl) _ _ rfl B _ rfl _ _ hB _ c1 ga1 ?_)
     | (with_reducible refine qaz (by kernel_rfl) _ _ rfl O _ rfl _ _ hO _ io ga1 ?_)
     | (with_reducible refine qaz (by kernel_rfl) _ _ rfl O _ rfl _ _ hO _ ko gai ?_)
     | (with_reducible refine qiz (by kernel_rfl) _ _ rfl O 37 rfl 2 K _ hO #[.int .u64 (olo : Int), .int .u64 (ohi : Int)] hVo (by omega) _ underlying36 (by kernel_rfl) (by kernel_rfl) ?_))
    go_ret
    exact ⟨by rw [hfin]; rfl, hk⟩
end
section
variable {X : List Ob} {i : Int} {o : Ob}
theorem att_lay (h : attE X i o = 0) : layE X (fO X i) o = 0 := by
 unfold attE at h
 by_cases h1 : (fnd X i).isSome = false
 ·rw [if_pos h1] at h; omega
 ·rw [if_neg h1] at h
  by_cases h2 : (fO X i).kind ≠ 2
  ·rw [if_pos h2] at h; omega
  ·rw [if_neg h2] at h
   by_cases h3 : (fnd X o.id).isSome = true
   ·rw [if_pos h3] at h; omega
   ·rw [if_neg h3] at h; exact h
theorem own_el {key : Nat} (h : ownD key X o = true) : (∀ x ∈ X, (x.kind = 4 → hasO key x o.id = false ∧ (o.kind = 4 → rapO x o = true)) ∧ (o.kind = 4 → hasO key o x.id = false)) ∧ (o.kind = 4 → hasO key o o.id = false) := by
 unfold ownD at h
 rw [Bool.and_eq_true, List.all_eq_true] at h
 refine ⟨fun x hx => ?_, fun k => ?_⟩
 ·have := h.1 x hx
  rw [Bool.and_eq_true] at this
  refine ⟨fun k => ?_, fun k => ?_⟩
  ·have h1 := this.1
   rw [decide_eq_true k, Bool.true_and, Bool.not_eq_true', Bool.or_eq_false_iff] at h1
   refine ⟨h1.1, fun ko => ?_⟩
   have h2 := h1.2
   rw [decide_eq_true ko, Bool.true_and] at h2
   simpa using h2
  ·have h1 := this.2
   rw [decide_eq_true k, Bool.true_and, Bool.not_eq_true'] at h1
   exact h1
 ·have h1 := h.2
  rw [decide_eq_true k] at h1
  simpa using h1
theorem uYz {X Y : List Ob} {P : Int → Prop} (hh : ∀ i, P i → holL Y i = holL X i) (hc : ∀ i, P i → ∀ c ∈ holL X i, P c) (hn : X.length ≤ Y.length) (hi : P i) (hw : (wayL X i).length < X.length) : rabv Y i = wayL X i ∧ abvL Y (Y.length) i = wayL X i := by
 have h1 : ∀ f, X.length ≤ f → abvL X f i = wayL X i := fun f hf => by
  by_cases e : f = X.length
  ·have := j1z X f i
   rw [e] at this ⊢
   rw [this]
   exact List.take_of_length_le (by show (wayL X i).length ≤ _; omega)
  ·exact ucz X (X.length + 1) i (by show (wayL X i).length < _; omega) f (by omega)
 have h2 : ∀ f, X.length ≤ f → abvL Y f i = wayL X i := fun f hf => by rw [ykz hh hc f i hi, h1 f hf]
 refine ⟨?_, h2 _ hn⟩
 unfold rabv
 rw [h2 _ (by omega), if_pos (by omega)]
theorem g2z : ∀ {X : List Ob}, (∀ x ∈ X, x.id ≠ i) → (lowL X i).length + (higL X i).length = X.length
 | [], _ => rfl
 | a :: r, h => by
  have ih := g2z (X := r) fun x hx => h x (List.mem_cons_of_mem _ hx)
  have ha := h a (List.mem_cons_self ..)
  unfold lowL higL at ih ⊢
  by_cases c : a.id < i
  ·rw [List.filter_cons_of_pos (by simpa using c), List.filter_cons_of_neg (by simp; omega), List.length_cons, List.length_cons]; omega
  ·rw [List.filter_cons_of_neg (by simpa using c), List.filter_cons_of_pos (by simp; omega), List.length_cons, List.length_cons]; omega
theorem hol_new (hs : Srt X) (hol : o.links = []) (h : fnd X o.id = none) (k : Int) : holL (puR X o) k = holL X k := by
 have e : X = lowL X o.id ++ higL X o.id := (y6z hs h).symm
 have h1 : holL X k = ((lowL X o.id ++ higL X o.id).filter fun d => decide (k ∈ d.links)).map Ob.id := by
  rw [← e]; rfl
 rw [h1]
 unfold holL puR
 rw [List.filter_append, List.filter_append, List.filter_cons_of_neg (by rw [hol]; simp)]
theorem att_fit {t ro : Int} {key : Nat} (hf : fitD t key ro X = true) (hlen : X.length < 1024) (hs : qKz o = true) (hol : o.links = []) (ho : ownD key X o = true) (h : attE X i o = 0) : fitD t key ro (attX X i o) = true := by
 have hT := wNz hf
 obtain ⟨h1, h2, h3, h4⟩ := jXz h
 obtain ⟨e1, e2, e3⟩ := xfz h1
 obtain ⟨l1, l2, l3, _⟩ := jEz (att_lay h)
 obtain ⟨hch, hho⟩ := att_chd hT hs hol h
 have hlk := fun (c : Ob) (hc : c ∈ X) (l : Int) (hl : l ∈ c.links) => (hT.lnk c hc l hl).1
 have hne : o.id ≠ (fO X i).id := by rw [e1]; intro q; rw [q, e3] at h3; cases h3
 have hno : ∀ x ∈ X, x.id ≠ o.id := xKz.1 h3
 have hnl : ∀ x ∈ X, ¬ o.id ∈ x.links := fun x hx hl => by
  have := hlk x hx _ hl
  rw [h3] at this; cases this
 rw [h4] at hch hho ⊢
 obtain ⟨D, hD⟩ : ∃ D : Ob, D = { fO X i with links := insW (fO X i).links o.id } := ⟨_, rfl⟩
 have hYe : layY X (fO X i) o = puR (puR X o) D := by rw [hD]
 have hDi : D.id = i := by rw [hD]; exact e1
 have hDs : qKz D = true := by
  rw [hD]
  exact vcz (hT.snd _ e2) h2 (qJz.1 (qnz.1 hs).1).1 (hnl _ e2) l2
 have hfy := fun k => kGz (d := fO X i) (o := o) hT.srt hne k
 rw [← hD] at hfy
 obtain ⟨Y, hY⟩ : ∃ Y, Y = layY X (fO X i) o := ⟨_, rfl⟩
 rw [← hY] at hch hho hYe hfy ⊢
 have hmem : ∀ y, y ∈ Y ↔ y = D ∨ y = o ∨ (y ∈ X ∧ y.id ≠ i) := fun y => by
  rw [hYe, q3z, q3z, hDi]
  constructor
  ·rintro (q | ⟨q | ⟨q1, q2⟩, q3⟩)
   ·exact .inl q
   ·exact .inr (.inl q)
   ·exact .inr (.inr ⟨q1, q3⟩)
  ·rintro (q | q | ⟨q1, q2⟩)
   ·exact .inl q
   ·exact .inr ⟨.inl q, by rw [q, ← e1]; exact hne⟩
   ·exact .inr ⟨.inr ⟨q1, hno y q1⟩, q2⟩
 have hfD : fO Y i = D := by unfold fO; rw [hfy, if_pos e1.symm]; rfl
 have hfo : fO Y o.id = o := by unfold fO; rw [hfy, if_neg hne, if_pos rfl]; rfl
 have hfx : ∀ l, (fnd X l).isSome = true → (fnd Y l).isSome = true ∧ (fO Y l).label = (fO X l).label := fun l hl => by
  unfold fO
  rw [hfy]
  by_cases q : l = (fO X i).id
  ·rw [if_pos q]
   refine ⟨rfl, ?_⟩
   have : l = i := q.trans e1
   rw [this, e3, hD]; rfl
  ·rw [if_neg q]
   by_cases q2 : l = o.id
   ·rw [q2, h3] at hl; cases hl
   ·rw [if_neg q2]; exact ⟨hl, rfl⟩
 have hYn : Y.length ≤ X.length + 1 ∧ X.length + 1 ≤ Y.length := by
  have a := g2z hno
  have a2 : (puR X o).length = X.length + 1 := by unfold puR; rw [List.length_append, List.length_cons]; omega
  have b : (puR (puR X o) D).length = (puR X o).length := by
   have hz : fO X i ∈ puR X o := q3z.2 (.inr ⟨e2, fun q => hne q.symm⟩)
   rw [xSz (q2z hT.srt o) hz (y := D) (by rw [hD]; exact ⟨rfl, rfl, rfl, rfl, rfl⟩), List.length_map]
  rw [hYe, b]
  omega
 have hhol : ∀ k, k ≠ o.id → holL Y k = holL X k := fun k hk => by
  rw [hYe]
  have hz : fO X i ∈ puR X o := q3z.2 (.inr ⟨e2, fun q => hne q.symm⟩)
  have hkd : Kid (fO X i) D := by rw [hD]; exact ⟨rfl, rfl, rfl, rfl, rfl⟩
  rw [xSz (q2z hT.srt o) hz hkd, bfz (jnz (q2z hT.srt o) hz hkd) fun x hx => by
   rcases qIz (q2z hT.srt o) hz hkd hx with ⟨rfl, q⟩ | ⟨_, q⟩
   ·rw [q, hD]
    show k ∈ insW (fO X i).links o.id ↔ _
    rw [xcz]
    exact ⟨fun z => z.resolve_left hk, fun z => .inr z⟩
   ·rw [q]]
  exact hol_new hT.srt hol h3 k
 have hcl : ∀ k, k ≠ o.id → ∀ c ∈ holL X k, c ≠ o.id := fun k _ c hc q => by
  obtain ⟨z, z1, z2, _⟩ := jJz.1 hc
  exact hno z z1 (z2.trans q)
 have hup : ∀ x ∈ X, rabv Y x.id = wayL X x.id ∧ abvL Y Y.length x.id = wayL X x.id := fun x hx => uYz hhol hcl (by omega) (hno x hx) (uVz hT hx)
 have hupX : ∀ x ∈ X, rabv X x.id = wayL X x.id := fun x hx => (uYz (P := fun _ => True) (fun _ _ => rfl) (fun _ _ _ _ => trivial) (lrz _) trivial (uVz hT hx)).1
 obtain ⟨g1, g2, g3, g4, g5⟩ := x1z hf
 have hro : ro ≠ o.id := fun q => by rw [q, h3] at g2; cases g2
 have hplx : ∀ (x y : Ob), x ∈ X → Kid x y → y.quota = x.quota → y.fixed = x.fixed → plaB Y ro y = true := fun x y hx hk hq hfi => by
  have := g4 x hx
  unfold plaB at this ⊢
  unfold upB at this ⊢
  have hsn : sngO y = sngO x := by unfold sngO; rw [hk.kind]
  rw [hk.id, hk.kind, hq, hfi, hsn, hhol _ (hno x hx), (hup x hx).1]
  rw [hupX x hx] at this
  exact this
 refine bnz ?_ (hfx ro g2).1 (fun y hy => ?_) (fun y hy => ?_) ?_
 ·unfold fitW at g1 ⊢
  simp only [Bool.and_eq_true, decide_eq_true_eq, List.all_eq_true] at g1 ⊢
  refine ⟨g1.1, g1.2.1, by omega, xJz.2 hch.srt, fun y hy => ?_⟩
  rcases (hmem y).1 hy with rfl | rfl | ⟨q, _⟩
  ·exact hDs
  ·exact hs
  ·exact hT.snd y q
 ·rcases (hmem y).1 hy with q | q | ⟨q, hqi⟩
  ·rw [q]
   have h0 := g3 _ e2
   have hc := (hch.ch _ e2).2
   rw [e1, hfD, if_pos rfl] at hc
   unfold lnkB at h0 ⊢
   rw [Bool.and_eq_true] at h0 ⊢
   refine ⟨?_, ?_⟩
   ·rw [List.all_eq_true] at h0 ⊢
    intro l hl
    have hDl : D.label = (fO X i).label := by rw [hD]
    rw [hD] at hl
    rw [hDl]
    rcases xcz.1 hl with rfl | hl
    ·rw [hfo, l1, Bool.and_true, hfy, if_neg hne, if_pos rfl]; rfl
    ·have hx := h0.1 l hl
     rw [Bool.and_eq_true] at hx
     rw [(hfx l hx.1).1, (hfx l hx.1).2, hx.2]; rfl
   ·rw [Bool.or_eq_true]
    right
    refine decide_eq_true ?_
    rw [w3z hDs (by rw [hD]; exact h2), hc]
    have hDq : D.quota = (fO X i).quota := by rw [hD]
    rw [hDq]
    unfold xrz at l3
    unfold useV
    omega
  ·rw [q]
   unfold lnkB
   rw [hol]
   simp only [List.all_nil, Bool.true_and]
   by_cases k : o.kind = 2
   ·rw [Bool.or_eq_true]
    right
    refine decide_eq_true ?_
    rw [w3z hs k]
    unfold useV pagO
    rw [hol, if_neg (by rw [k]; decide)]
    simp only [List.map_nil, List.sum_nil]
    have := (qJz.1 (qnz.1 hs).1).2.1
    omega
   ·rw [decide_eq_false k]; rfl
  ·have h0 := g3 y q
   have hc := (hch.ch y q).2
   have hfyy : fO Y y.id = y := by
    unfold fO
    rw [hfy, if_neg (by rw [e1]; exact hqi), if_neg (hno y q), (q6z hT.srt).2 ⟨q, rfl⟩]; rfl
   rw [hfyy, if_neg hqi, Int.add_zero] at hc
   unfold lnkB at h0 ⊢
   rw [Bool.and_eq_true] at h0 ⊢
   refine ⟨?_, ?_⟩
   ·rw [List.all_eq_true] at h0 ⊢
    intro l hl
    have hx := h0.1 l hl
    rw [Bool.and_eq_true] at hx
    rw [(hfx l hx.1).1, (hfx l hx.1).2, hx.2]; rfl
   ·by_cases k : y.kind = 2
    ·rw [Bool.or_eq_true]
     right
     refine decide_eq_true ?_
     rw [w3z (hT.snd y q) k, hc, ← w3z (hT.snd y q) k]
     exact hT.use y q k
    ·rw [decide_eq_false k]; rfl
 ·rcases (hmem y).1 hy with q | q | ⟨q, _⟩
  ·rw [q]
   exact hplx _ D e2 (by rw [hD]; exact ⟨rfl, rfl, rfl, rfl, rfl⟩) (by rw [hD]) (by rw [hD])
  ·rw [q]
   unfold plaB
   rw [if_neg (fun e => hro e.symm), hho]
   simp only [List.length_cons, List.length_nil, Nat.zero_add, lrz, decide_true, Nat.lt_irrefl, decide_false, Bool.false_and, Bool.not_false, Bool.true_and, Bool.and_self]
   by_cases k : o.kind = 2
   ·rw [Bool.or_eq_true]
    right
    unfold upB rabv
    have hab : abvL Y (Y.length + 1) o.id = i :: wayL X i := by
     rw [abvL, hho]
     have := (hup _ e2).2
     rw [e1] at this
     simp only
     rw [this]
    have hwl := uVz hT e2
    rw [e1] at hwl
    rw [hab, if_pos (by rw [List.length_cons]; omega), Bool.or_eq_true]
    right
    rw [Bool.and_eq_true]
    refine ⟨by simp, decide_eq_true ?_⟩
    by_cases ir : i = ro
    ·rw [ir, jkz hT]; rfl
    ·obtain ⟨_, w2⟩ := jlz hT e2 h2
     obtain ⟨w3, w4⟩ := w2 (by rw [e1]; exact ir)
     rw [e1] at w3 w4
     cases hw : wayL X i with
     | nil => exact absurd hw w4
     | cons a r => rw [hw] at w3; rw [List.getLast?_cons_cons]; exact w3
   ·rw [decide_eq_false k]; rfl
  ·exact hplx y y q (Kid.refl y) rfl rfl
 ·obtain ⟨w1, w2⟩ := own_el ho
  have hX := (u8z hT.srt).1 g5
  have hDk : D.kind ≠ 4 := by rw [hD]; show (fO X i).kind ≠ 4; rw [h2]; decide
  have hDid : D.id = (fO X i).id := by rw [hD]
  refine (u8z hch.srt).2 fun x hx k y hy => ?_
  rcases (hmem x).1 hx with q | q | ⟨q, _⟩
  ·exact absurd (by rw [← q]; exact k) hDk
  ·rw [q] at k ⊢
   rcases (hmem y).1 hy with r | r | ⟨r, _⟩
   ·rw [r]; exact ⟨by rw [hDid]; exact (w1 _ e2).2 k, fun z => absurd z hDk⟩
   ·rw [r]; exact ⟨w2 k, fun _ z => absurd rfl z⟩
   ·exact ⟨(w1 y r).2 k, fun z _ => by rw [rap_comm]; exact ((w1 y r).1 z).2 k⟩
  ·rcases (hmem y).1 hy with r | r | ⟨r, _⟩
   ·rw [r]; exact ⟨by rw [hDid]; exact (hX x q k _ e2).1, fun z => absurd z hDk⟩
   ·rw [r]; exact ⟨((w1 x q).1 k).1, fun z _ => ((w1 x q).1 k).2 z⟩
   ·exact hX x q k y r
end
section
open Go.RowKit Go.Shelf
theorem uUz {x y : Ob} (k : Kid x y) (h : WdO x) : WdO y := by
 unfold WdO at h ⊢
 rw [k.id, k.lo, k.hi]
 exact h
variable {X : List Ob}
theorem ymz {z y : Ob} (hw : ∀ x ∈ X, WdO x) (h : WdO y) : ∀ x ∈ puR X y, WdO x := fun x hx => (q3z.1 hx).elim (fun e => by rw [e]; exact h) (fun e => hw x e.1)
theorem wd_lay {d o : Ob} (hw : ∀ x ∈ X, WdO x) (hd : WdO d) (ho : WdO o) : ∀ x ∈ layX X d o, WdO x := by
 unfold layX
 by_cases h : layE X d o = 0
 ·rw [if_pos h]; exact ymz (z := o) (ymz (z := o) hw ho) (uUz (x := d) ⟨rfl, rfl, rfl, rfl, rfl⟩ hd)
 ·rw [if_neg h]; exact hw
theorem wd_att {i : Int} {o : Ob} (hw : ∀ x ∈ X, WdO x) (ho : WdO o) : ∀ x ∈ attX X i o, WdO x := by
 unfold attX
 by_cases h1 : (fnd X i).isSome = false
 ·rw [if_pos h1]; exact hw
 rw [if_neg h1]
 by_cases h2 : (fO X i).kind ≠ 2
 ·rw [if_pos h2]; exact hw
 rw [if_neg h2]
 by_cases h3 : (fnd X o.id).isSome = true
 ·rw [if_pos h3]; exact hw
 rw [if_neg h3]
 exact wd_lay hw (hw _ (vGz (eq_true_of_ne_false h1)).1) ho
theorem wd_fix {i : Int} (hw : ∀ x ∈ X, WdO x) : ∀ x ∈ fixX X i, WdO x := by
 unfold fixX
 by_cases h1 : (fnd X i).isSome = false
 ·rw [if_pos h1]; exact hw
 rw [if_neg h1]
 by_cases h2 : sngO (fO X i) = true
 ·rw [if_pos h2]; exact hw
 rw [if_neg h2]
 exact ymz (z := fO X i) hw (uUz (x := fO X i) ⟨rfl, rfl, rfl, rfl, rfl⟩ (hw _ (vGz (eq_true_of_ne_false h1)).1))
theorem wd_lin {i j : Int} (hw : ∀ x ∈ X, WdO x) : ∀ x ∈ linX X i j, WdO x := by
 by_cases h : linE X i j = 0
 ·obtain ⟨h1, h2, _, _, _, _, _, h8⟩ := kkz h
  rw [h8]
  exact wd_lay hw (hw _ (vGz h1).1) (hw _ (vGz h2).1)
 ·rw [lin_no h]; exact hw
theorem wd_mov {i j m : Int} (hw : ∀ x ∈ X, WdO x) : ∀ x ∈ movX X i j m, WdO x := by
 by_cases h : movE X i j m = 0
 ·unfold movX
  rw [if_pos h]
  exact ymz (z := fO X j) hw (uUz (x := fO X j) ⟨rfl, rfl, rfl, rfl, rfl⟩ (hw _ (vGz (xIz h).2.1).1))
 ·rw [gPz h]; exact hw
variable {W : World}
theorem yBz {V : Array Value} {t ro : Int} {key : Nat} (h : Wr W V t (key : Int) ro X) (hf : fitD t key ro X = true) (hw : ∀ x ∈ X, WdO x) : Calls prog 5 #[.agg V] W fun e w' => e = .returned (.bool true) ∧ Below W.heap.size W w' := by
 obtain ⟨a, n, c, rfl, o⟩ := h
 rw [← hf]
 exact gkz o (fun _ x hx => wJz ((wNz hf).snd x hx)) hw
theorem kzz {V V' : Array Value} {t ke ro : Int} {X Y : List Ob} (h : Wr W V t ke ro Y) (h' : Wr W V' t ke ro X) (e : Y = X) : Calls prog 11 #[.agg V, .agg V'] W fun e w' => e = .returned (.bool true) ∧ Below W.heap.size W w' := by
 subst e
 obtain ⟨a, n, c, rfl, o⟩ := h
 obtain ⟨a', n', c', rfl, o'⟩ := h'
 exact (rsame_w o o').yes rfl
theorem rown_r {V K : Array Value} {t ro : Int} {key : Nat} {o : Ob} (h : Wr W V t (key : Int) ro X) (hw : ∀ x ∈ X, WdO x) (ho : ObD (LtN W) W K o) (hwo : WdO o) : Calls prog 10 #[.agg V, .agg K] W fun e w' => e = .returned (.bool (ownD key X o)) ∧ Below W.heap.size W w' := by
 obtain ⟨a, n, c, rfl, l⟩ := h
 exact rown_w l hw ho hwo
theorem mov_len (hs : Srt X) {i j m : Int} : (movX X i j m).length = X.length := by
 by_cases h : movE X i j m = 0
 ·obtain ⟨h1, h2, _⟩ := xIz h
  obtain ⟨k1, k2, k3⟩ := xfz h2
  unfold movX
  rw [if_pos h, xSz (y := { fO X j with quota := (fO X j).quota + m }) hs k2 ⟨rfl, rfl, rfl, rfl, rfl⟩, List.length_map]
 ·rw [gPz h]
end
end Go.Proofs.YthnpckhmdnjikaaGreat
