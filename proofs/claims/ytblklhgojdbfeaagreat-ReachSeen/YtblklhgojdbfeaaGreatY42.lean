/-
 PROVED HERE: plain facts on what an observer sees of a world (no Go text): what is hidden from it plays no part in what is . What is asked stands at each.
-/
import Derived.Test.YtblklhgojdbfeaaGreatY19
import Derived.Test.YtblklhgojdbfeaaGreatY20
import Derived.Test.YtblklhgojdbfeaaGreatY31
import Derived.Test.YtblklhgojdbfeaaGreatY36
import Derived.Test.YtblklhgojdbfeaaGreatY37
import Derived.Test.YtblklhgojdbfeaaGreatY40
namespace Go.Proofs.YtblklhgojdbfeaaGreat
set_option maxRecDepth 100000
set_option maxHeartbeats 8000000
set_option linter.unusedVariables false

def negO (x : Ob) : Ob := { heaO x with kind := -(heaO x).kind }
def lyB (X : List Ob) (W : Lb) (x : Ob) : Bool := X.any fun d => decide (x.id ∈ d.links) && leqB d.label W
def snO (X : List Ob) (W : Lb) (x : Ob) : Ob := if leqB (shoC x) W = true then x else if lyB X W x = true then negO x else zOb
def vwL (X : List Ob) (W : Lb) : List Ob := (X.map (snO X W)).filter fun y => decide (y.id ≠ 0)
theorem neg_id (x : Ob) : (negO x).id = x.id := rfl
theorem neg_kind (x : Ob) : (negO x).kind = -x.kind := rfl
theorem neg_hea {x y : Ob} (h : negO x = negO y) : heaO x = heaO y := by
 unfold negO at h
 have e : (heaO x).kind = (heaO y).kind := by
  have := congrArg Ob.kind h
  simp only at this
  omega
 cases hx : heaO x
 cases hy : heaO y
 rw [hx, hy] at h e
 simp only [Ob.mk.injEq] at h e ⊢
 exact ⟨h.1, e, h.2.2⟩
theorem kind_pos {x : Ob} (h : soundB x = true) : 1 ≤ x.kind := by
 have ho := (sound_iff.1 h).2.1
 refine Classical.byContradiction fun q => ?_
 unfold ownB at ho
 rw [if_neg (by omega), if_neg (by omega), if_neg (by omega), if_neg (by omega), if_neg (by omega), if_neg (by omega)] at ho
 exact absurd ho (by decide)
theorem kind_le {x : Ob} (h : soundB x = true) : x.kind ≤ 6 := by
 have ho := (sound_iff.1 h).2.1
 refine Classical.byContradiction fun q => ?_
 unfold ownB at ho
 rw [if_neg (by omega), if_neg (by omega), if_neg (by omega), if_neg (by omega), if_neg (by omega), if_neg (by omega)] at ho
 exact absurd ho (by decide)
section
variable {X Y : List Ob} {W L : Lb} {ro ro' : Int}
theorem sn_id {x : Ob} (h : (snO X W x).id ≠ 0) : (snO X W x).id = x.id := by
 unfold snO at h ⊢
 split
 ·rfl
 ·split
  ·rfl
  ·rename_i q1 q2
   rw [if_neg q1, if_neg q2] at h
   exact absurd rfl h
theorem vw_mem {x : Ob} (hx : x ∈ X) (h : (snO X W x).id ≠ 0) : snO X W x ∈ vwL X W := List.mem_filter.2 ⟨List.mem_map.2 ⟨x, hx, rfl⟩, by simpa using h⟩
theorem vw_of {y : Ob} (h : y ∈ vwL X W) : ∃ x ∈ X, snO X W x = y ∧ x.id = y.id ∧ y.id ≠ 0 := by
 obtain ⟨h1, h2⟩ := List.mem_filter.1 h
 obtain ⟨x, hx, e⟩ := List.mem_map.1 h1
 have h3 : y.id ≠ 0 := by simpa using h2
 refine ⟨x, hx, e, ?_, h3⟩
 rw [← e] at h3
 rw [← e, sn_id h3]
theorem vw_same (hX : Tre X ro) (hY : Tre Y ro') (hv : vwL X W = vwL Y W) {x : Ob} (hx : x ∈ X) (hs : leqB (shoC x) W = true) : x ∈ Y := by
 have hsx := hX.snd x hx
 have e : snO X W x = x := by unfold snO; rw [if_pos hs]
 have hid : x.id ≠ 0 := by have := id_pos hsx; omega
 have hm : x ∈ vwL X W := by
  have := vw_mem (W := W) hx (by rw [e]; exact hid)
  rw [e] at this
  exact this
 rw [hv] at hm
 obtain ⟨y, hy, ey, _, _⟩ := vw_of hm
 have hk := kind_pos hsx
 have hky := kind_pos (hY.snd y hy)
 unfold snO at ey
 split at ey
 ·rw [← ey]; exact hy
 ·split at ey
  ·rw [← ey, neg_kind] at hk
   omega
  ·rw [← ey] at hid
   exact absurd rfl hid
theorem fnd_of (h : Srt X) {x : Ob} (hx : x ∈ X) : fnd X x.id = some x := (fnd_some h).2 ⟨hx, rfl⟩
theorem see_vis (hL : Fit L) (hW : Fit W) (hh : leqB (raiseL L) W = true) {x : Ob} (hx : Fit x.label) (hs : seeB L x = true) : leqB (shoC x) W = true :=
 leqB_trans (sho_fit hx) (raiseL_fit hL) hW hs hh
end
structure Alk (X Y : List Ob) (ro ro' : Int) (W L : Lb) : Prop where
 x : Tre X ro
 y : Tre Y ro'
 v : vwL X W = vwL Y W
 l : Fit L
 w : Fit W
 h : leqB (raiseL L) W = true
section
variable {X Y : List Ob} {W L : Lb} {ro ro' : Int}
theorem Alk.symm (a : Alk X Y ro ro' W L) : Alk Y X ro' ro W L := ⟨a.y, a.x, a.v.symm, a.l, a.w, a.h⟩
theorem Alk.seen (a : Alk X Y ro ro' W L) {i : Int} (h : (fnd X i).isSome = true) (hs : seeB L (fO X i) = true) : (fnd Y i).isSome = true ∧ fO Y i = fO X i := by
 obtain ⟨hm, hi⟩ := fO_mem h
 have hm2 := vw_same a.x a.y a.v hm (see_vis a.l a.w a.h (sound_lab (a.x.snd _ hm)).1 hs)
 have e := fnd_of a.y.srt hm2
 rw [hi] at e
 exact ⟨by rw [e]; rfl, by unfold fO; rw [e]; rfl⟩
theorem Alk.dir0 (a : Alk X Y ro ro' W L) {i : Int} {wr : Bool} (h : (fnd X i).isSome = true ∧ (fO X i).kind = 2 ∧ seeB L (fO X i) = true) : dirE Y L i wr = dirE X L i wr ∧ fO Y i = fO X i := by
 obtain ⟨h1, h2⟩ := a.seen h.1 h.2.2
 refine ⟨?_, h2⟩
 unfold dirE
 rw [h1, h2, h.1]
theorem Alk.dir (a : Alk X Y ro ro' W L) (i : Int) (wr : Bool) : dirE Y L i wr = dirE X L i wr ∧ (dirE X L i wr ≠ 1 → fO Y i = fO X i) := by
 by_cases h : (fnd X i).isSome = true ∧ (fO X i).kind = 2 ∧ seeB L (fO X i) = true
 ·exact ⟨(a.dir0 h).1, fun _ => (a.dir0 (wr := wr) h).2⟩
 ·have e := dir_hid (wr := wr) h
  by_cases h' : (fnd Y i).isSome = true ∧ (fO Y i).kind = 2 ∧ seeB L (fO Y i) = true
  ·have := (a.symm.dir0 (wr := wr) h').1
   exact ⟨this.symm, fun q => absurd e q⟩
  ·rw [e, dir_hid h']
   exact ⟨rfl, fun q => absurd rfl q⟩
theorem lk_some (h : Tre X ro) {c i : Int} (hc : (fnd X c).isSome = true) (hi : i ∈ (fO X c).links) : (fnd X i).isSome = true := (h.lnk _ (fO_mem hc).1 i hi).1
theorem Alk.look (a : Alk X Y ro ro' W L) (c i : Int) : lokE Y L c i = lokE X L c i := by
 obtain ⟨d1, d2⟩ := a.dir c false
 unfold lokE
 rw [d1]
 by_cases h : dirE X L c false = 0
 ·rw [if_pos h, if_pos h, d2 (by rw [h]; decide)]
  rcases dir_cases X L c false with q | q | q
  ·by_cases hi : i ∈ (fO X c).links
   ·have s1 := lk_some a.x q.2.1 hi
    have e := d2 (by rw [h]; decide)
    rcases dir_cases Y L c false with q' | q' | q'
    ·have s2 := lk_some a.y q'.2.1 (by rw [e]; exact hi)
     rw [s1, s2]
    ·rw [d1, h] at q'; exact absurd q' (by decide)
    ·exact absurd q'.2 (by decide)
   ·rw [if_neg (fun z => hi z.1), if_neg (fun z => hi z.1)]
  ·rw [h] at q; exact absurd q (by decide)
  ·exact absurd q.2 (by decide)
 ·rw [if_neg h, if_neg h]
theorem sho_cont {d : Ob} (h : d.kind = 2) : shoC d = d.label := by unfold shoC; rw [if_neg (by omega)]
theorem hid_head (a : Alk X Y ro ro' W L) {c i : Int} (h : lokE X L c i = 0) : heaO (fO Y i) = heaO (fO X i) ∧ ((seeB L (fO X i) = true ∨ seeB L (fO Y i) = true) → fO Y i = fO X i) := by
 rcases lok_cases X L c i with q | q
 ·obtain ⟨_, hd, hi, hs⟩ := q
  have hs' : (fnd Y i).isSome = true := by
   rcases lok_cases Y L c i with q | q
   ·exact q.2.2.2
   ·rw [a.look, h] at q; exact absurd q (by decide)
  have hse : (seeB L (fO X i) = true ∨ seeB L (fO Y i) = true) → fO Y i = fO X i := by
   rintro (z | z)
   ·exact (a.seen hs z).2
   ·exact ((a.symm.seen hs' z).2).symm
  refine ⟨?_, hse⟩
  obtain ⟨mx, ix⟩ := fO_mem hs
  obtain ⟨my, iy⟩ := fO_mem hs'
  by_cases v1 : leqB (shoC (fO X i)) W = true
  ·have := vw_same a.x a.y a.v mx v1
   have e := fnd_of a.y.srt this
   rw [ix] at e
   have : fO Y i = fO X i := by rw [show fO Y i = (fnd Y i).getD zOb from rfl, e]; rfl
   rw [this]
  ·by_cases v2 : leqB (shoC (fO Y i)) W = true
   ·have := vw_same a.y a.x a.v.symm my v2
    have e := fnd_of a.x.srt this
    rw [iy] at e
    have : fO X i = fO Y i := by rw [show fO X i = (fnd X i).getD zOb from rfl, e]; rfl
    rw [this]
   ·rcases dir_cases X L c false with z | z | z
    ·have hdv : leqB (fO X c).label W = true := by
      have := see_vis a.l a.w a.h (sound_lab (a.x.snd _ (fO_mem z.2.1).1)).1 z.2.2.2.1
      rw [sho_cont z.2.2.1] at this
      exact this
     have hlx : lyB X W (fO X i) = true := by
      unfold lyB
      rw [List.any_eq_true]
      exact ⟨fO X c, (fO_mem z.2.1).1, by rw [ix]; simp [hi, hdv]⟩
     have ex : snO X W (fO X i) = negO (fO X i) := by unfold snO; rw [if_neg v1, if_pos hlx]
     have hne : (snO X W (fO X i)).id ≠ 0 := by rw [ex, neg_id]; have := id_pos (a.x.snd _ mx); omega
     have hm := vw_mem mx hne
     rw [a.v] at hm
     obtain ⟨y, hy, ey, e1, e2⟩ := vw_of hm
     rw [ex, neg_id, ix] at e1
     have hyy : y = fO Y i := by
      have := fnd_of a.y.srt hy
      rw [e1] at this
      unfold fO
      rw [this]; rfl
     rw [hyy, ex] at ey
     unfold snO at ey
     rw [if_neg v2] at ey
     split at ey
     ·exact neg_hea ey
     ·rw [ex] at e2
      rw [← ey] at e2
      exact absurd rfl e2
    ·rw [hd] at z; exact absurd z (by decide)
    ·exact absurd z.2 (by decide)
 ·rw [h] at q; exact absurd q (by decide)
theorem Alk.all (a : Alk X Y ro ro' W L) (c i kd : Int) (may : Ob → Bool) (hm : ∀ x, may x = true → seeB L x = true) : allE Y L c i kd may = allE X L c i kd may ∧ resO (allE Y L c i kd may) (fO Y i) = resO (allE X L c i kd may) (fO X i) := by
 have hl := a.look c i
 have key : allE Y L c i kd may = allE X L c i kd may := by
  unfold allE
  rw [hl]
  by_cases h : lokE X L c i = 0
  ·rw [if_pos h, if_pos h]
   obtain ⟨h1, h2⟩ := hid_head a h
   have hk : (fO Y i).kind = (fO X i).kind := by
    have := congrArg Ob.kind h1
    exact this
   rw [hk]
   have hmm : may (fO Y i) = may (fO X i) := by
    cases m1 : may (fO X i) with
    | true => rw [h2 (.inl (hm _ m1)), m1]
    | false =>
     cases m2 : may (fO Y i) with
     | true => rw [h2 (.inr (hm _ m2)), m1] at m2; exact absurd m2 (by decide)
     | false => rfl
   rw [hmm]
  ·rw [if_neg h, if_neg h]
 refine ⟨key, ?_⟩
 rw [key]
 unfold resO
 by_cases h : allE X L c i kd may = 0
 ·rw [if_pos h, if_pos h]
  rcases all_cases X L c i kd may with q | q | q | q
  ·exact (hid_head a q.2.1).2 (.inl (hm _ q.2.2.2))
  ·rw [h] at q; exact absurd q.1 (by decide)
  ·rw [h] at q; exact absurd q.1 (by decide)
  ·rw [h] at q; exact absurd q.1 (by decide)
 ·rw [if_neg h, if_neg h]
theorem Alk.dirO (a : Alk X Y ro ro' W L) (i : Int) (wr : Bool) : resO (dirE Y L i wr) (fO Y i) = resO (dirE X L i wr) (fO X i) := by
 obtain ⟨h1, h2⟩ := a.dir i wr
 rw [h1]
 unfold resO
 by_cases h : dirE X L i wr = 0
 ·rw [if_pos h, if_pos h]; exact h2 (by rw [h]; decide)
 ·rw [if_neg h, if_neg h]
theorem Alk.lookH (a : Alk X Y ro ro' W L) (c i : Int) : heaO (resO (lokE Y L c i) (fO Y i)) = heaO (resO (lokE X L c i) (fO X i)) := by
 rw [a.look]
 unfold resO
 by_cases h : lokE X L c i = 0
 ·rw [if_pos h, if_pos h]; exact (hid_head a h).1
 ·rw [if_neg h, if_neg h]
end
end Go.Proofs.YtblklhgojdbfeaaGreat
namespace Go.Proofs.YtblklhgojdbfeaaGreat
set_option maxRecDepth 100000
set_option maxHeartbeats 8000000
open Go.RowKit Go.Shelf
set_option linter.unusedVariables false
attribute [local go_sem] Oper.semAt_some

theorem ObD.set1 {D : Nat → Prop} {w : World} {C : Array Value} {x : Ob} (h : ObD D w C x) (k : Int) : ObD D w (C.setIfInBounds 1 (.int .i64 k)) { x with kind := k } := by
 have e : ∀ i, (C.setIfInBounds 1 (.int .i64 k))[i]? = if 1 = i then some (.int .i64 k) else C[i]? := fun i => set_at (by rw [h.size]; omega)
 exact ⟨by simp [h.size], set_one h.one rfl, by rw [e, if_neg (by omega)]; exact h.id, by rw [e, if_pos rfl], by rw [e, if_neg (by omega)]; exact h.label, by rw [e, if_neg (by omega)]; exact h.quota, by rw [e, if_neg (by omega)]; exact h.fixed, by rw [e, if_neg (by omega)]; exact h.links, by rw [e, if_neg (by omega)]; exact h.data, by rw [e, if_neg (by omega)]; exact h.maps, h.th.congr fun i hi => by rw [e, if_neg (by omega)], h.gt.congr fun i hi => by rw [e, if_neg (by omega)], by rw [e, if_neg (by omega)]; exact h.inn, by rw [e, if_neg (by omega)]; exact h.out⟩
theorem rhead_d {w : World} {C : Array Value} {x : Ob} {D : Nat → Prop} (hD : ∀ b, D b → b < w.heap.size) (h : ObD D w C x) : Calls Tryz.prog 21 #[.agg C] w fun e w' => ∃ C', e = .returned (.agg C') ∧ ObD D w' C' (heaO x) ∧ Below w.heap.size w w' := by
 have hz := h.size
 have c0 := h.id
 have c1 := h.kind
 obtain ⟨a2, n2, k2, c2, l2⟩ := h.label
 have hn2 : Hid (x.label.length = n2) := l2.1
 have c3 := h.quota
 have c4 := h.fixed
 obtain ⟨a5, n5, k5, c5, l5⟩ := h.links
 have hn5 : Hid (x.links.length = n5) := l5.1
 obtain ⟨a6, n6, k6, c6, l6⟩ := h.data
 have hn6 : Hid (x.data.length = n6) := l6.1
 obtain ⟨a7, n7, k7, c7, l7⟩ := h.maps
 have hn7 : Hid (x.maps.length = n7) := l7.1
 obtain ⟨a49, n49, k49, c49, l49⟩ := h.inn
 have hn49 : Hid (x.inn.length = n49) := l49.1
 obtain ⟨a50, n50, k50, c50, l50⟩ := h.out
 have hn50 : Hid (x.out.length = n50) := l50.1
 obtain ⟨a25, n25, k25, c25, l25⟩ := h.th.clear
 obtain ⟨a43, n43, k43, c43, l43⟩ := h.gt.grant
 obtain ⟨a44, n44, k44, c44, l44⟩ := h.gt.clear
 replace c25 : C[25]? = some (.slice a25 n25 k25) := c25
 replace c43 : C[43]? = some (.slice a43 n43 k43) := c43
 replace c44 : C[44]? = some (.slice a44 n44 k44) := c44
 have ga0 := Tryz.isAgg27
 have ga1 := Tryz.isAgg22
 have ga2 := Tryz.isAgg3
 have ga3 := Tryz.isAgg4
 have ga4 := Tryz.isAgg28
 have ga5 := Tryz.isAgg29
 by_cases hk4 : x.kind = 4
 ·have hr : Hid (heaO x = ⟨x.id, 4, [], x.quota, x.fixed, [], [], [], zTh, zGt, [], []⟩) := by unfold Hid; rw [hea4 hk4]; unfold comO; rw [hk4]
  replace c1 : C[1]? = some (.int .i64 4) := c1.trans (by rw [hk4])
  clear hk4
  have hcm := comC_d (i := x.id) (k := 4) (q := x.quota) (f := x.fixed) (LabD.nil D w)
  have hcz := hcm.size
  go_enter Tryz.func21, Tryz.ntmps21
  go_wp2_with (first
   | go_skip
   | (with_reducible refine wpList_box rfl _ _ rfl C rfl ?_; intro B W hB hb hk)
   | (with_reducible refine wpList_load1 (by kernel_rfl) _ _ rfl B _ rfl _ _ e2 _ (by assumption) (by assumption) ?_)
   | (with_reducible refine wpList_load1 (by kernel_rfl) _ _ rfl B _ rfl _ _ hbb _ (by assumption) (by assumption) ?_)
   | ((with_reducible refine wpList_build rfl _ _ rfl (comC (.int .u64 x.id) (.int .i64 4) (.slice none 0 0) (.int .i64 x.quota) (.bool x.fixed)) ?hf ?_); (case hf => exact built_hea _ _ _ _))
   | ((with_reducible refine wpList_alloc rfl _ rfl zC zero40 ?_); intro B' W' hB' hb' hk'; have hne : B ≠ B' := (by have := hB'.out.1; have := hbb.lt; omega); have hnr : R ≠ B' := (by have := hB'.out.1; have := hR.lt; omega); have b1 := hk.trans (hk'.mono hk.size); have hl' : w.heap.size ≤ B' := (by have := hB'.out.1; have := hk.size; omega))
   | ((with_reducible refine wpList_alloc rfl _ rfl zC zero40 ?_); intro R WR hBR hR hkR; have hbb := hb.next hkR; replace hk := hk.trans (hkR.mono hk.size))
   | ((with_reducible refine wpList_store_blk rfl _ _ _ rfl B' rfl (comC (.int .u64 x.id) (.int .i64 4) (.slice none 0 0) (.int .i64 x.quota) (.bool x.fixed)) rfl zC hb' (size40C hcz) (zC_size.trans hcz.symm) hcm.one ?_); intro W2 b2 o2; have e2 := (hbb.next hk').other o2 hne; have r2 := (hR.next hk').other o2 hnr; have kb2 := o2.below w.heap.size w hl' b1)
   | ((with_reducible refine wpList_load_blk rfl _ _ rfl B' rfl _ b2 _ Tryz.underlying43 rfl (size40C hcz) ?_))
   | ((with_reducible refine wpList_store_blk rfl _ _ _ rfl R rfl _ rfl zC r2 (size40C hcz) (zC_size.trans hcz.symm) hcm.one ?_); intro W9 b9 o9))
  have k9 := o9.below w.heap.size w (by have := hBR.out.1; have := hB.out; omega) kb2
  refine bodyPost_ret (v := .agg _) (res40 Tryz.results21 rfl b9 hcz) rfl ?_
  exact ⟨_, rfl, by rw [hr.out]; exact hcm.laterK fun b hb => k9.block b (hD b hb), k9⟩
 ·have hr : Hid (heaO x = { (⟨x.id, x.kind, [], x.quota, x.fixed, [], [], [], zTh, zGt, [], []⟩ : Ob) with label := x.label }) := by unfold Hid; rw [hea5 hk4]; rfl
  have g1 : (x.kind == 4) = false := by rw [beq_eq_false_iff_ne]; exact hk4
  clear hk4
  have hcm := comC_d (i := x.id) (k := x.kind) (q := x.quota) (f := x.fixed) (LabD.nil D w)
  have hcz := hcm.size
  have hd := hcm.set2 ⟨_, _, _, rfl, l2⟩ rfl
  go_enter Tryz.func21, Tryz.ntmps21
  go_wp2_with (first
   | go_skip
   | (with_reducible refine wpList_box rfl _ _ rfl C rfl ?_; intro B W hB hb hk)
   | (with_reducible refine wpList_load1 (by kernel_rfl) _ _ rfl B _ rfl _ _ e2 _ (by assumption) (by assumption) ?_)
   | (with_reducible refine wpList_load1 (by kernel_rfl) _ _ rfl B _ rfl _ _ hbb _ (by assumption) (by assumption) ?_)
   | ((with_reducible refine wpList_build rfl _ _ rfl (comC (.int .u64 x.id) (.int .i64 x.kind) (.slice none 0 0) (.int .i64 x.quota) (.bool x.fixed)) ?hf ?_); (case hf => exact built_hea _ _ _ _))
   | ((with_reducible refine wpList_alloc rfl _ rfl zC zero40 ?_); intro B' W' hB' hb' hk'; have hne : B ≠ B' := (by have := hB'.out.1; have := hbb.lt; omega); have hnr : R ≠ B' := (by have := hB'.out.1; have := hR.lt; omega); have b1 := hk.trans (hk'.mono hk.size); have hl' : w.heap.size ≤ B' := (by have := hB'.out.1; have := hk.size; omega))
   | ((with_reducible refine wpList_alloc rfl _ rfl zC zero40 ?_); intro R WR hBR hR hkR; have hbb := hb.next hkR; replace hk := hk.trans (hkR.mono hk.size))
   | ((with_reducible refine wpList_store_blk rfl _ _ _ rfl B' rfl (comC (.int .u64 x.id) (.int .i64 x.kind) (.slice none 0 0) (.int .i64 x.quota) (.bool x.fixed)) rfl zC hb' (size40C hcz) (zC_size.trans hcz.symm) hcm.one ?_); intro W2 b2 o2; have e2 := (hbb.next hk').other o2 hne; have r2 := (hR.next hk').other o2 hnr; have kb2 := o2.below w.heap.size w hl' b1)
   | ((with_reducible refine wpList_store_cell rfl _ _ _ rfl B' 2 rfl (.slice a2 n2 k2) rfl rfl _ _ b2 size24 (by rw [hcz]; omega) rfl ?_); intro W3 b3 o3; have r3 := r2.other o3 hnr; have kb3 := o3.below w.heap.size w hl' kb2)
   | ((with_reducible refine wpList_load_blk rfl _ _ rfl B' rfl _ b3 _ Tryz.underlying43 rfl (size40C hd.size) ?_))
   | ((with_reducible refine wpList_store_blk rfl _ _ _ rfl R rfl _ rfl zC r3 (size40C hd.size) (zC_size.trans hd.size.symm) hd.one ?_); intro W9 b9 o9))
  have k9 := o9.below w.heap.size w (by have := hBR.out.1; have := hB.out; omega) kb3
  refine bodyPost_ret (v := .agg _) (res40 Tryz.results21 rfl b9 hd.size) rfl ?_
  exact ⟨_, rfl, by rw [hr.out]; exact hd.laterK fun b hb => k9.block b (hD b hb), k9⟩

theorem sizeI : (Tryz.prog.info? 3).map (·.size) = some 1 := by kernel_rfl
def saB (X : List Ob) (W : Lb) (i : Int) (k : Nat) : Bool := decide (i ∈ (oat X k).links) && leqB (oat X k).label W
theorem ly_no {X : List Ob} {W : Lb} {x : Ob} (h : ∀ k, k < X.length → saB X W x.id k = false) : lyB X W x = false := by
 unfold lyB
 rw [List.any_eq_false]
 intro d hd
 obtain ⟨k, hk, e⟩ := List.getElem_of_mem hd
 have := h k hk
 unfold saB at this
 rw [oat_get hk, e] at this
 rw [this]
 decide
theorem ly_yes {X : List Ob} {W : Lb} {x : Ob} {k : Nat} (hk : k < X.length) (h : saB X W x.id k = true) : lyB X W x = true := by
 unfold lyB
 rw [List.any_eq_true]
 exact ⟨oat X k, oat_mem hk, h⟩
theorem sa_no {X : List Ob} {W : Lb} {i : Int} {k : Nat} (h : ∀ q, q < (oat X k).links.length → (oat X k).links.getD q 0 = i → leqB (oat X k).label W = false) : saB X W i k = false := by
 unfold saB
 by_cases hm : i ∈ (oat X k).links
 ·obtain ⟨q, hq, e⟩ := List.getElem_of_mem hm
  rw [h q hq (by rw [List.getD_eq_getElem?_getD, List.getElem?_eq_getElem hq]; exact e)]
  simp
 ·simp [hm]
theorem sa_yes {X : List Ob} {W : Lb} {i : Int} {k q : Nat} (hq : q < (oat X k).links.length) (e : (oat X k).links.getD q 0 = i) (hl : leqB (oat X k).label W = true) : saB X W i k = true := by
 have hm : i ∈ (oat X k).links := by rw [← e, List.getD_eq_getElem?_getD, List.getElem?_eq_getElem hq]; exact List.getElem_mem hq
 unfold saB
 simp [hm, hl]
theorem rseen_v {w : World} {t ke ro : Int} {ao : Option Addr} {n cap : Nat} {X : List Ob} {C : Array Value} {x : Ob} {D : Nat → Prop} {aW : Option Addr} {nW cW : Nat} {W : Lb} (hD : ∀ b, D b → b < w.heap.size) (h : Obs w ao n cap X) (hx : ObD D w C x) (sx : soundB x = true) (hlb : ∀ d ∈ X, LbF d.label) (hW : Lab w.heap.size w aW nW cW W) (fW : Fit W) :
  Calls Tryz.prog 71 #[.agg #[.int .i64 t, .int .u64 ke, .int .u64 ro, .slice ao n cap], .agg C, .slice aW nW cW] w fun e w' => ∃ C', e = .returned (.agg C') ∧ ObD D w' C' (snO X W x) ∧ Below w.heap.size w w' := by
 have hmx : Tryz.prog.follows .mixedOrders = true := by kernel_rfl
 have hz := hx.size
 have hn : Hid (X.length = n) := h.1
 have hnc := h.2.1
 have hcm := h.2.2.1.1
 have hid := hx.id
 have fx := (sound_lab sx).1
 have hxn := fun (V : World) (hk : Below w.heap.size w V) => (hx.wide hD).next hk
 have hxl := fun (V : World) (hk : Below w.heap.size w V) => hx.laterK (w' := V) fun b hb => hk.block b (hD b hb)
 have hsh := fun (V : World) (hk : Below w.heap.size w V) => rshown_any (hxn V hk) (sound_small0 sx)
 rw [← sho_eq sx] at hsh
 have hhe := fun (V : World) (hk : Below w.heap.size w V) => rhead_d (D := D) (fun b hb => Nat.lt_of_lt_of_le (hD b hb) hk.size) (hxl V hk)
 have hle := fun (V : World) (a : Option Addr) (m c : Nat) (L : Lb) (hk : Below w.heap.size w V) (hL : Lab V.heap.size V a m c L) (fL : Fit L) => rleq_f hL (hW.next hk) fL fW
 have fS := sho_fit fx
 have hkp : Hid (IntKind.i64.wrap (-x.kind) = -x.kind) := by
  have h1 := kind_pos sx
  have h2 := kind_le sx
  show _ = _
  rw [IntKind.wrap_i64]
  omega
 have hzg : (Tryz.prog.info? 25).map (·.size) = some (#[.int .i64 t, .int .u64 ke, .int .u64 ro, .slice ao n cap] : Array Value).size := by kernel_rfl
 have c3 : (#[.int .i64 t, .int .u64 ke, .int .u64 ro, .slice ao n cap] : Array Value)[3]? = some (.slice ao n cap) := rfl
 obtain ⟨G, hG⟩ : ∃ G : Array Value, G = #[.int .i64 t, .int .u64 ke, .int .u64 ro, .slice ao n cap] := ⟨_, rfl⟩
 rw [← hG] at hzg c3
 rw [← hG]
 clear hG
 have ga0 := Tryz.isAgg27
 have ga1 := Tryz.isAgg22
 have ga2 := Tryz.isAgg3
 have ga3 := Tryz.isAgg23
 have ga4 := Tryz.isAgg28
 cases hv : leqB (shoC x) W with
 | true =>
  have hr : Hid (snO X W x = x) := by show _ = _; unfold snO; rw [if_pos hv]
  go_enter Tryz.func71, Tryz.ntmps71
  go_wp2_with (first
   | (with_reducible refine wpList_box rfl 25 _ rfl G rfl ?_; intro B W1 hN1 hB hk)
   | (with_reducible refine wpList_box rfl 43 _ rfl C rfl ?_; intro T W3 hN3 hT hk3; replace hB := hB.next hk3; replace hk := hk.trans (hk3.mono hk.size); clear hk3)
   | ((with_reducible refine wpList_alloc rfl _ rfl zC zero40 ?_); intro R W2 hN2 hR hk2; replace hB := hB.next hk2; replace hT := hT.next hk2; replace hk := hk.trans (hk2.mono hk.size); clear hk2)
   | (with_reducible refine wpList_loadb (by kernel_rfl) 43 _ rfl T rfl C hT _ Tryz.underlying43 (by kernel_rfl) (size40C hz) ?_)
   | (go_at_call 67; (with_reducible refine (hsh _ hk).mono ?_); rintro e w5 ⟨aS, nS, cS, rfl, lS, hb5⟩; replace hB := hB.next hb5; replace hT := hT.next hb5; replace hR := hR.next hb5; replace hk := hk.trans (hb5.mono hk.size); clear hb5; have hll := hle _ _ _ _ _ hk lS fS; rw [hv] at hll)
   | (go_at_call 18; (with_reducible refine hll.mono ?_); rintro e w6 ⟨rfl, hb6⟩; replace hB := hB.next hb6; replace hT := hT.next hb6; replace hR := hR.next hb6; replace hk := hk.trans (hb6.mono hk.size); clear hb6)
   | ((with_reducible refine wpList_store_blk rfl _ _ _ rfl R rfl C rfl zC hR (size40C hz) (zC_size.trans hz.symm) hx.one ?_); intro V5 hR5 q5))
  refine bodyPost_ret (v := .agg C) (res40 Tryz.results71 rfl hR5 hz) rfl ?_
  have hwR : w.heap.size ≤ R := by have := hN1.out; have := hN3.out; have := hN2.out; omega
  exact ⟨C, rfl, by rw [hr.out]; exact (hxl _ hk).laterK fun b hb => q5.block b (by have := hD b hb; omega), q5.below _ _ hwR hk⟩
 | false =>
  have hr1 : Hid (lyB X W x = true → snO X W x = negO x) := fun q => by unfold snO; rw [hv, if_neg (by decide), if_pos q]
  have hr0 : Hid (lyB X W x = false → snO X W x = zOb) := fun q => by unfold snO; rw [hv, q, if_neg (by decide), if_neg (by decide)]
  go_enter Tryz.func71, Tryz.ntmps71
  go_wp2_with (first
   | (with_reducible refine wpList_box rfl 25 _ rfl G rfl ?_; intro B W1 hN1 hB hk)
   | (with_reducible refine wpList_box rfl 43 _ rfl C rfl ?_; intro T W3 hN3 hT hk3; replace hB := hB.next hk3; replace hk := hk.trans (hk3.mono hk.size); clear hk3)
   | ((with_reducible refine wpList_alloc rfl _ rfl zC zero40 ?_); intro R W2 hN2 hR hk2; replace hB := hB.next hk2; replace hT := hT.next hk2; replace hk := hk.trans (hk2.mono hk.size); clear hk2)
   | (with_reducible refine wpList_loadb (by kernel_rfl) 43 _ rfl T rfl C hT _ Tryz.underlying43 (by kernel_rfl) (size40C hz) ?_)
   | (go_at_call 67; (with_reducible refine (hsh _ hk).mono ?_); rintro e w5 ⟨aS, nS, cS, rfl, lS, hb5⟩; replace hB := hB.next hb5; replace hT := hT.next hb5; replace hR := hR.next hb5; replace hk := hk.trans (hb5.mono hk.size); clear hb5; have hll := hle _ _ _ _ _ hk lS fS; rw [hv] at hll)
   | (go_at_call 18; (with_reducible refine hll.mono ?_); rintro e w6 ⟨rfl, hb6⟩; replace hB := hB.next hb6; replace hT := hT.next hb6; replace hR := hR.next hb6; replace hk := hk.trans (hb6.mono hk.size); clear hb6))
  have hwR : Hid (w.heap.size ≤ R) := (by have := hN1.out; have := hN3.out; have := hN2.out; omega : w.heap.size ≤ R)
  clear hN1 hN3 hN2 hsh hv
  obtain ⟨V0, hV0⟩ : ∃ V0 : World, Hid (V0 = w6) := ⟨_, rfl⟩
  go_loopw [7] (fun j wr => ∃ k : Nat, k ≤ n ∧ j = .int .i64 k ∧ Hid (∀ q, q < k → saB X W x.id q = false) ∧ Blk wr B G 25 ∧ Blk wr T C 43 ∧ Blk wr R zC 43 ∧ Below w.heap.size w wr) (fun j _ => n - (intOf j).toNat)
  case atStart => exact ⟨0, Nat.zero_le _, rfl, fun q hq => absurd hq (by omega), hB, hT, hR, hk⟩
  case round =>
   clear hB hT hR hk
   obtain ⟨k, hkn1, rfl, hall, hB, hT, hR, hk⟩ := hrel
   by_cases hkn : k < n
   ·have hkX : k < X.length := by rw [hn.out]; exact hkn
    have hdl := hlb _ (oat_mem hkX)
    obtain ⟨b, off, Cd, rfl, hbb, hCd, hr⟩ := obs_at h hkn
    have hkn' : (k : Int) < n := by omega
    have hzd := hCd.size
    have h1d := hCd.one
    have hr2 := range_block hr (hk.block b hbb)
    obtain ⟨al, nl, cl, c5, hLk⟩ := hCd.links
    obtain ⟨aD, nD, cD, c2, hLD⟩ := hCd.label
    have hln : Hid ((oat X k).links.length = nl) := hLk.1
    have hlc := hLk.2.1
    have hlm := hLk.2.2.1.1
    obtain ⟨bl, hbl⟩ : ∃ bl, Hid (leqB (oat X k).label W = bl) := ⟨_, rfl⟩
    have hled := fun (V : World) (hk : Below w.heap.size w V) => hle V aD nD cD (oat X k).label hk (LabD.lab' hLD hk) hdl.1
    rw [hbl.out] at hled
    go_wp2_with (first
     | (with_reducible refine wpList_load1 (by kernel_rfl) _ _ rfl B _ rfl _ _ hB _ c3 ga3 ?_)
     | (with_reducible refine wpList_loadm (by kernel_rfl) 43 _ rfl b _ rfl Cd hr2 _ Tryz.underlying43 (by kernel_rfl) (size40C hzd) ?_)
     | ((with_reducible refine wpList_alloc rfl _ rfl zC zero40 ?_); intro P V1 hN4 hPa hk4)
     | ((with_reducible refine wpList_store_blk rfl _ _ _ rfl P rfl Cd rfl zC hPa (size40C hzd) (zC_size.trans hzd.symm) h1d ?_); intro V2 hP q4; have hb5 : Below wr.heap.size wr V2 := q4.below _ _ (by have := hN4.out; omega) hk4; replace hB := hB.next hb5; replace hT := hT.next hb5; replace hR := hR.next hb5; replace hk := hk.trans (hb5.mono hk.size); clear hb5 q4 hk4 hPa hN4))
    clear hr2
    go_loopw [9] (fun j wq => ∃ m : Nat, m ≤ nl ∧ j = .int .i64 m ∧ Hid (∀ q, q < m → (oat X k).links.getD q 0 = x.id → bl = false) ∧ Below V2.heap.size V2 wq) (fun j _ => nl - (intOf j).toNat)
    case atStart => exact ⟨0, Nat.zero_le _, rfl, fun q hq => absurd hq (by omega), Below.refl _ _⟩
    case round =>
     obtain ⟨m, hmn1, rfl, hin, hq2⟩ := hrel
     replace hB := hB.next hq2
     replace hT := hT.next hq2
     replace hR := hR.next hq2
     replace hP := hP.next hq2
     replace hk := hk.trans (hq2.mono hk.size)
     by_cases hmn : m < nl
     ·obtain ⟨b', off', rfl, hbb', hc⟩ := ct_at hLk hmn
      have hmn' : (m : Int) < nl := by omega
      have hb2 : b' < w.heap.size := hbb'
      obtain ⟨wd, hwd⟩ : ∃ wd, Hid ((oat X k).links.getD m 0 = wd) := ⟨_, rfl⟩
      rw [hwd.out] at hc
      go_wp2_with (first
       | (with_reducible refine wpList_load1 (by kernel_rfl) _ _ rfl P _ rfl _ _ hP _ c5 ga4 ?_))
      refine PgM.region_out (S := fun V => Below wr.heap.size wr V) hmx ((Below.refl _ _).drew) (fun hS => ?_)
      generalize wr.drew = v6 at hS ⊢
      have hcell := fun (V : World) (hb : Below wr.heap.size wr V) => (World.cell?_of_block (w := w) (a := ⟨b', off' + m, none⟩) ((hk.trans (hb.mono hk.size)).block b' hb2)).trans hc
      by_cases hw : wd = x.id
      ·cases bl with
       | true =>
        refine wpAnyH_sym (by kernel_rfl) (fun _ _ _ _ _ h => h) hS [(0, none), (1, some (.slice (some ⟨b', off', none⟩) nl cl)), (2, none), (3, some (.pointer (some ⟨b', off' + m, none⟩))), (4, some (.int .u64 wd)), (5, none), (6, some (.int .u64 x.id)), (7, some (.bool true)), (8, none), (9, none), (10, some (.slice aD nD cD)), (11, none)] (l' := #[true, true, true, true, true, true, true, true, true, true, true, true, false, false]) (a' := { tmps := #[.agg G, .agg C, .slice aW nW cW, .pointer (some ⟨B, 0, none⟩), .pointer (some ⟨T, 0, none⟩), undef, .pointer (some ⟨R, 0, none⟩), .int .i64 k, .pointer (some ⟨P, 0, none⟩), .int .i64 m, u10, .agg C, .slice aS nS cS, .slice aW nW cW, .bool false, undef, .int .i64 k, .pointer (some ⟨B, 3, none⟩), .slice (some ⟨b, off, none⟩) n cap, .int .i64 n, .bool true, u21, u22, .pointer (some ⟨B, 3, none⟩), .slice (some ⟨b, off, none⟩) n cap, .int .i64 k, .pointer (some ⟨b, off + k * 51, none⟩), .agg Cd, .int .i64 m, .pointer (some ⟨P, 5, none⟩), .slice (some ⟨b', off', none⟩) nl cl, .int .i64 nl, .bool true, u33, u34, .pointer (some ⟨P, 5, none⟩), .slice (some ⟨b', off', none⟩) nl cl, .int .i64 m, .pointer (some ⟨b', off' + m, none⟩), .int .u64 wd, .pointer (some ⟨T, 0, none⟩), .int .u64 x.id, .bool true, .bool true, .pointer (some ⟨P, 2, none⟩), .slice aD nD cD, .slice aW nW cW, u47, u48, u49, u50, u51, u52, u53, u54, u55, undef], defers := [] }) (obs := [.load 28 P 5 (.slice (some ⟨b', off', none⟩) nl cl), .ia 28 (.slice (some ⟨b', off', none⟩) nl cl) (.int .i64 m) (.pointer (some ⟨b', off' + m, none⟩)), .load 22 b' (off' + m) (.int .u64 wd), .load 22 T 0 (.int .u64 x.id), .test .eql 22 (.tmp 39) (.tmp 41) (.int .u64 wd) (.int .u64 x.id) (.bool true), .load 27 P 2 (.slice aD nD cD)]) (n := 2) (by kernel_rfl) (by kernel_rfl) ⟨ob_load1 (fun _ h => hP.next h) c5 ga4, iaw_at hmn, ob_word hcell ga1, ob_load1 (fun _ h => hT.next h) hid ga1, ob_yes (fun _ => eqg_int _ _ _ _ _ _) (show Hid (wd = x.id) from hw), ob_load1 (fun _ h => hP.next h) c2 ga0, trivial⟩ ?_
        refine wpAnyH_callL (i := 12) (fuel := 1) (f := 18) (vs := [.slice aD nD cD, .slice aW nW cW]) (d := some 47) (by kernel_rfl) (by kernel_rfl) (by kernel_rfl) Tryz.call18 (hled _ (hk.trans (hS.mono hk.size))) ?_
        rintro e v7 ⟨rfl, hb7⟩
        have hSz : Below wr.heap.size wr v7 := hS.trans (hb7.mono hS.size)
        refine ⟨_, rfl, hSz, ?_⟩
        refine wpAnyH_sym (by kernel_rfl) (fun _ _ _ _ _ h => h) hSz [(13, none)] (l' := #[true, true, true, true, true, true, true, true, true, true, true, true, true, true]) (a' := { tmps := #[.agg G, .agg C, .slice aW nW cW, .pointer (some ⟨B, 0, none⟩), .pointer (some ⟨T, 0, none⟩), undef, .pointer (some ⟨R, 0, none⟩), .int .i64 k, .pointer (some ⟨P, 0, none⟩), .int .i64 m, u10, .agg C, .slice aS nS cS, .slice aW nW cW, .bool false, undef, .int .i64 k, .pointer (some ⟨B, 3, none⟩), .slice (some ⟨b, off, none⟩) n cap, .int .i64 n, .bool true, u21, u22, .pointer (some ⟨B, 3, none⟩), .slice (some ⟨b, off, none⟩) n cap, .int .i64 k, .pointer (some ⟨b, off + k * 51, none⟩), .agg Cd, .int .i64 m, .pointer (some ⟨P, 5, none⟩), .slice (some ⟨b', off', none⟩) nl cl, .int .i64 nl, .bool true, u33, u34, .pointer (some ⟨P, 5, none⟩), .slice (some ⟨b', off', none⟩) nl cl, .int .i64 m, .pointer (some ⟨b', off' + m, none⟩), .int .u64 wd, .pointer (some ⟨T, 0, none⟩), .int .u64 x.id, .bool true, .bool true, .pointer (some ⟨P, 2, none⟩), .slice aD nD cD, .slice aW nW cW, .bool true, .bool true, u49, u50, u51, u52, u53, u54, u55, undef], defers := [] }) (obs := []) (n := 0) (by kernel_rfl) (by kernel_rfl) trivial ?_
        refine wpAnyH_done (by kernel_rfl) ?_ _
        have hsy : Hid (saB X W x.id k = true) := sa_yes (by rw [hln.out]; exact hmn) (hwd.out.trans hw) hbl.out
        have hry : Hid (snO X W x = negO x) := hr1.out (ly_yes hkX hsy.out)
        clear hall hin hr1 hr0 hsy hw
        replace hT := hT.next hSz
        replace hR := hR.next hSz
        replace hk := hk.trans (hSz.mono hk.size)
        have hkw := hkp.out
        go_wp2_with (first
         | go_skip
         | (with_reducible refine wpList_loadb (by kernel_rfl) 43 _ rfl T rfl C hT _ Tryz.underlying43 (by kernel_rfl) (size40C hz) ?_)
         | (go_at_call 21; (with_reducible refine (hhe _ hk).mono ?_); rintro e w9 ⟨CH, rfl, oH, hb9⟩; have zH := oH.size; have kH : CH[1]? = some (.int .i64 x.kind) := oH.kind; replace hR := hR.next hb9)
         | ((with_reducible refine wpList_alloc rfl _ rfl zC zero40 ?_); intro Y V7 hN7 hYa hk7)
         | ((with_reducible refine wpList_store_blk rfl _ _ _ rfl Y rfl CH rfl zC hYa (size40C zH) (zC_size.trans zH.symm) oH.one ?_); intro V8 hY q8)
         | (with_reducible refine wpList_load1 (by kernel_rfl) _ _ rfl Y _ rfl _ _ hY _ kH ga2 ?_)
         | ((with_reducible refine wpList_store_cell rfl _ _ _ rfl Y 1 rfl (.int .i64 (-x.kind)) rfl rfl _ _ hY sizeI (by rw [zH]; omega) rfl ?_); intro V9 hY9 q9; have oN := oH.set1 (-x.kind); have zN := oN.size)
         | (with_reducible refine wpList_loadb (by kernel_rfl) 43 _ rfl Y rfl _ hY9 _ Tryz.underlying43 (by kernel_rfl) (size40C zN) ?_)
         | ((with_reducible refine wpList_store_blk rfl _ _ _ rfl R rfl (CH.setIfInBounds 1 (.int .i64 (-x.kind))) rfl zC (((hR.next hk7).other q8 (by have := hN7.out; have := hR.lt; omega)).other q9 (by have := hN7.out; have := hR.lt; omega)) (size40C zN) (zC_size.trans zN.symm) oN.one ?_); intro V5 hR5 q5))
        refine bodyPost_ret (v := .agg (CH.setIfInBounds 1 (.int .i64 (-x.kind)))) (res40 Tryz.results71 rfl hR5 zN) rfl ?_
        have hs9 := hk.size
        have hs9' := hb9.size
        have hkk := hk.trans (hb9.mono hk.size)
        refine ⟨_, rfl, ?_, q5.below _ _ hwR.out (q9.below _ _ (by have := hN7.out; omega) (q8.below _ _ (by have := hN7.out; omega) (hkk.trans (hk7.mono hkk.size))))⟩
        rw [hry.out]
        exact oN.laterK fun b hb => by have h1 := hD b hb; have h2 := hN7.out; have h3 := hwR.out; have h4 := hR.lt; rw [q5.block b (by omega), q9.block b (by omega), q8.block b (by omega), hk7.block b (by omega)]
       | false =>
        refine wpAnyH_sym (by kernel_rfl) (fun _ _ _ _ _ h => h) hS [(0, none), (1, some (.slice (some ⟨b', off', none⟩) nl cl)), (2, none), (3, some (.pointer (some ⟨b', off' + m, none⟩))), (4, some (.int .u64 wd)), (5, none), (6, some (.int .u64 x.id)), (7, some (.bool true)), (8, none), (9, none), (10, some (.slice aD nD cD)), (11, none)] (l' := #[true, true, true, true, true, true, true, true, true, true, true, true, false, false]) (a' := { tmps := #[.agg G, .agg C, .slice aW nW cW, .pointer (some ⟨B, 0, none⟩), .pointer (some ⟨T, 0, none⟩), undef, .pointer (some ⟨R, 0, none⟩), .int .i64 k, .pointer (some ⟨P, 0, none⟩), .int .i64 m, u10, .agg C, .slice aS nS cS, .slice aW nW cW, .bool false, undef, .int .i64 k, .pointer (some ⟨B, 3, none⟩), .slice (some ⟨b, off, none⟩) n cap, .int .i64 n, .bool true, u21, u22, .pointer (some ⟨B, 3, none⟩), .slice (some ⟨b, off, none⟩) n cap, .int .i64 k, .pointer (some ⟨b, off + k * 51, none⟩), .agg Cd, .int .i64 m, .pointer (some ⟨P, 5, none⟩), .slice (some ⟨b', off', none⟩) nl cl, .int .i64 nl, .bool true, u33, u34, .pointer (some ⟨P, 5, none⟩), .slice (some ⟨b', off', none⟩) nl cl, .int .i64 m, .pointer (some ⟨b', off' + m, none⟩), .int .u64 wd, .pointer (some ⟨T, 0, none⟩), .int .u64 x.id, .bool true, .bool true, .pointer (some ⟨P, 2, none⟩), .slice aD nD cD, .slice aW nW cW, u47, u48, u49, u50, u51, u52, u53, u54, u55, undef], defers := [] }) (obs := [.load 28 P 5 (.slice (some ⟨b', off', none⟩) nl cl), .ia 28 (.slice (some ⟨b', off', none⟩) nl cl) (.int .i64 m) (.pointer (some ⟨b', off' + m, none⟩)), .load 22 b' (off' + m) (.int .u64 wd), .load 22 T 0 (.int .u64 x.id), .test .eql 22 (.tmp 39) (.tmp 41) (.int .u64 wd) (.int .u64 x.id) (.bool true), .load 27 P 2 (.slice aD nD cD)]) (n := 2) (by kernel_rfl) (by kernel_rfl) ⟨ob_load1 (fun _ h => hP.next h) c5 ga4, iaw_at hmn, ob_word hcell ga1, ob_load1 (fun _ h => hT.next h) hid ga1, ob_yes (fun _ => eqg_int _ _ _ _ _ _) (show Hid (wd = x.id) from hw), ob_load1 (fun _ h => hP.next h) c2 ga0, trivial⟩ ?_
        refine wpAnyH_callL (i := 12) (fuel := 1) (f := 18) (vs := [.slice aD nD cD, .slice aW nW cW]) (d := some 47) (by kernel_rfl) (by kernel_rfl) (by kernel_rfl) Tryz.call18 (hled _ (hk.trans (hS.mono hk.size))) ?_
        rintro e v7 ⟨rfl, hb7⟩
        have hSz : Below wr.heap.size wr v7 := hS.trans (hb7.mono hS.size)
        refine ⟨_, rfl, hSz, ?_⟩
        refine wpAnyH_sym (by kernel_rfl) (fun _ _ _ _ _ h => h) hSz [(13, none)] (l' := #[true, true, true, true, true, true, true, true, true, true, true, true, true, true]) (a' := { tmps := #[.agg G, .agg C, .slice aW nW cW, .pointer (some ⟨B, 0, none⟩), .pointer (some ⟨T, 0, none⟩), undef, .pointer (some ⟨R, 0, none⟩), .int .i64 k, .pointer (some ⟨P, 0, none⟩), .int .i64 m, u10, .agg C, .slice aS nS cS, .slice aW nW cW, .bool false, undef, .int .i64 k, .pointer (some ⟨B, 3, none⟩), .slice (some ⟨b, off, none⟩) n cap, .int .i64 n, .bool true, u21, u22, .pointer (some ⟨B, 3, none⟩), .slice (some ⟨b, off, none⟩) n cap, .int .i64 k, .pointer (some ⟨b, off + k * 51, none⟩), .agg Cd, .int .i64 m, .pointer (some ⟨P, 5, none⟩), .slice (some ⟨b', off', none⟩) nl cl, .int .i64 nl, .bool true, u33, u34, .pointer (some ⟨P, 5, none⟩), .slice (some ⟨b', off', none⟩) nl cl, .int .i64 m, .pointer (some ⟨b', off' + m, none⟩), .int .u64 wd, .pointer (some ⟨T, 0, none⟩), .int .u64 x.id, .bool true, .bool true, .pointer (some ⟨P, 2, none⟩), .slice aD nD cD, .slice aW nW cW, .bool false, .bool false, u49, u50, u51, u52, u53, u54, u55, undef], defers := [] }) (obs := []) (n := 0) (by kernel_rfl) (by kernel_rfl) trivial ?_
        refine wpAnyH_done (by kernel_rfl) ?_ _
        replace hk := hk.trans (hSz.mono hk.size)
        go_wp2
        go_roundw
        case rel => exact ⟨m + 1, by omega, by go_num, (by first | exact fun _ _ _ => rfl | simp [Hid]), hq2.trans (hSz.mono hq2.size)⟩
        case measure => simp [intOf]; omega
      ·have hw' : Hid (¬ wd = x.id) := hw
       clear hw
       refine wpAnyH_sym (by kernel_rfl) (fun _ _ _ _ _ h => h) hS [(0, none), (1, some (.slice (some ⟨b', off', none⟩) nl cl)), (2, none), (3, some (.pointer (some ⟨b', off' + m, none⟩))), (4, some (.int .u64 wd)), (5, none), (6, some (.int .u64 x.id)), (7, some (.bool false)), (8, none), (9, none), (10, none), (11, none), (12, none), (13, none)] (l' := #[true, true, true, true, true, true, true, true, true, true, true, true, true, true]) (a' := { tmps := #[.agg G, .agg C, .slice aW nW cW, .pointer (some ⟨B, 0, none⟩), .pointer (some ⟨T, 0, none⟩), undef, .pointer (some ⟨R, 0, none⟩), .int .i64 k, .pointer (some ⟨P, 0, none⟩), .int .i64 m, u10, .agg C, .slice aS nS cS, .slice aW nW cW, .bool false, undef, .int .i64 k, .pointer (some ⟨B, 3, none⟩), .slice (some ⟨b, off, none⟩) n cap, .int .i64 n, .bool true, u21, u22, .pointer (some ⟨B, 3, none⟩), .slice (some ⟨b, off, none⟩) n cap, .int .i64 k, .pointer (some ⟨b, off + k * 51, none⟩), .agg Cd, .int .i64 m, .pointer (some ⟨P, 5, none⟩), .slice (some ⟨b', off', none⟩) nl cl, .int .i64 nl, .bool true, u33, u34, .pointer (some ⟨P, 5, none⟩), .slice (some ⟨b', off', none⟩) nl cl, .int .i64 m, .pointer (some ⟨b', off' + m, none⟩), .int .u64 wd, .pointer (some ⟨T, 0, none⟩), .int .u64 x.id, .bool false, .bool false, undef, undef, undef, undef, .bool false, u49, u50, u51, u52, u53, u54, u55, undef], defers := [] }) (obs := [.load 28 P 5 (.slice (some ⟨b', off', none⟩) nl cl), .ia 28 (.slice (some ⟨b', off', none⟩) nl cl) (.int .i64 m) (.pointer (some ⟨b', off' + m, none⟩)), .load 22 b' (off' + m) (.int .u64 wd), .load 22 T 0 (.int .u64 x.id), .test .eql 22 (.tmp 39) (.tmp 41) (.int .u64 wd) (.int .u64 x.id) (.bool false)]) (n := 0) (by kernel_rfl) (by kernel_rfl) ⟨ob_load1 (fun _ h => hP.next h) c5 ga4, iaw_at hmn, ob_word hcell ga1, ob_load1 (fun _ h => hT.next h) hid ga1, ob_no (fun _ => eqg_int _ _ _ _ _ _) hw', trivial⟩ ?_
       refine wpAnyH_done (by kernel_rfl) ?_ _
       go_wp2
       go_roundw
       case rel => exact ⟨m + 1, by omega, by go_num, (fun q hq e => (Nat.lt_or_eq_of_le (Nat.le_of_lt_succ hq)).elim (fun h => hin.out q h e) fun e2 => absurd (by rw [← hwd.out, ← e2]; exact e) hw'.out), hq2.trans (hS.mono hq2.size)⟩
       case measure => simp [intOf]; omega
     ·obtain rfl : m = nl := by omega
      have hsn : Hid (saB X W x.id k = false) := sa_no (fun q hq e => hbl.out.trans (hin.out q (by rw [hln.out] at hq; exact hq) e))
      go_wp2_with (first
       | (with_reducible refine wpList_load1 (by kernel_rfl) _ _ rfl P _ rfl _ _ hP _ c5 ga4 ?_))
      go_roundw
      case rel => exact ⟨k + 1, by omega, by go_num, (fun q hq => (Nat.lt_or_eq_of_le (Nat.le_of_lt_succ hq)).elim (fun h => hall.out q h) fun e => by rw [e]; exact hsn.out), hB, hT, hR, hk⟩
      case measure => simp [intOf]; omega
   ·obtain rfl : k = n := by omega
    have hrz : Hid (snO X W x = zOb) := hr0.out (ly_no fun q hq => hall.out q (by rw [hn.out] at hq; exact hq))
    go_wp2_with (first
     | (with_reducible refine wpList_load1 (by kernel_rfl) _ _ rfl B _ rfl _ _ hB _ c3 ga3 ?_)
     | ((with_reducible refine wpList_build rfl _ [] rfl zC ?hf ?_); (case hf => exact built_z))
     | ((with_reducible refine wpList_store_blk rfl _ _ _ rfl R rfl zC rfl zC hR (size40C zC_size) rfl (zC_d (fun _ => True) w).one ?_); intro V5 hR5 q5))
    refine bodyPost_ret (v := .agg zC) (res40 Tryz.results71 rfl hR5 zC_size) rfl ?_
    exact ⟨zC, rfl, by rw [hrz.out]; exact zC_d _ _, q5.below _ _ hwR.out hk⟩
end Go.Proofs.YtblklhgojdbfeaaGreat
namespace Go.Proofs.YtblklhgojdbfeaaGreat
set_option maxRecDepth 100000
set_option maxHeartbeats 8000000
open Go.RowKit Go.Shelf
set_option linter.unusedVariables false
attribute [local go_sem] Oper.semAt_some

def vwP (X : List Ob) (W : Lb) (k : Nat) : List Ob := ((X.take k).map (snO X W)).filter fun y => decide (y.id ≠ 0)
theorem vwP_len (X : List Ob) (W : Lb) (k : Nat) : (vwP X W k).length ≤ k := by
 unfold vwP
 exact Nat.le_trans (List.length_filter_le _ _) (by simp; omega)
theorem vwP_succ {X : List Ob} {W : Lb} {k : Nat} (h : k < X.length) : vwP X W (k + 1) = vwP X W k ++ (if (snO X W (oat X k)).id ≠ 0 then [snO X W (oat X k)] else []) := by
 unfold vwP
 rw [List.take_succ_eq_append_getElem h, List.map_append, List.filter_append, oat_get h]
 congr 1
 simp only [List.map_cons, List.map_nil, List.filter_cons, List.filter_nil, decide_eq_true_iff]
theorem vwP_all (X : List Ob) (W : Lb) : vwP X W X.length = vwL X W := by unfold vwP vwL; rw [List.take_length]
theorem rview_v {w : World} {t ke ro : Int} {ao : Option Addr} {n cap : Nat} {X : List Ob} {aW : Option Addr} {nW cW : Nat} {W : Lb} (h : Obs w ao n cap X) (hsd : ∀ x ∈ X, soundB x = true) (hn16 : n ≤ 1024) (hW : Lab w.heap.size w aW nW cW W) (fW : Fit W) :
  Calls Tryz.prog 48 #[.agg #[.int .i64 t, .int .u64 ke, .int .u64 ro, .slice ao n cap], .slice aW nW cW] w fun e w' => ∃ ao2 n2 cap2, e = .returned (.agg #[.int .i64 t, .int .u64 ke, .int .u64 ro, .slice ao2 n2 cap2]) ∧ Obs w' ao2 n2 cap2 (vwL X W) ∧ Below w.heap.size w w' := by
 have hmx : Tryz.prog.follows .mixedOrders = true := by kernel_rfl
 have hn : Hid (X.length = n) := h.1
 have hnc := h.2.1
 have hcm := h.2.2.1.1
 have ga1 := Tryz.isAgg22
 have ga2 := Tryz.isAgg3
 have ga3 := Tryz.isAgg23
 have hlb : ∀ d ∈ X, LbF d.label := fun d hd => sound_lab (hsd d hd)
 have hse := fun (V : World) (C : Array Value) (x : Ob) (hk : Below w.heap.size w V) (hx : ObD (LtN w) V C x) (sx : soundB x = true) => rseen_v (t := t) (ke := ke) (ro := ro) (D := LtN w) (fun b hb => Nat.lt_of_lt_of_le hb hk.size) (obs_next h hk) hx sx hlb (hW.next hk) fW
 have hvs := fun (k : Nat) (hk : k < n) => vwP_succ (W := W) (show k < X.length by rw [hn.out]; exact hk)
 have hva : vwP X W n = vwL X W := by rw [← hn.out]; exact vwP_all X W
 have c0 : (#[.int .i64 t, .int .u64 ke, .int .u64 ro, .slice ao n cap] : Array Value)[0]? = some (.int .i64 t) := rfl
 have c1 : (#[.int .i64 t, .int .u64 ke, .int .u64 ro, .slice ao n cap] : Array Value)[1]? = some (.int .u64 ke) := rfl
 have c2 : (#[.int .i64 t, .int .u64 ke, .int .u64 ro, .slice ao n cap] : Array Value)[2]? = some (.int .u64 ro) := rfl
 have c3 : (#[.int .i64 t, .int .u64 ke, .int .u64 ro, .slice ao n cap] : Array Value)[3]? = some (.slice ao n cap) := rfl
 have hzg : (Tryz.prog.info? 25).map (·.size) = some (#[.int .i64 t, .int .u64 ke, .int .u64 ro, .slice ao n cap] : Array Value).size := by kernel_rfl
 have hz2 : ∀ v, (Tryz.prog.info? 25).map (·.size) = some (#[.int .i64 t, .int .u64 ke, .int .u64 ro, v] : Array Value).size := fun _ => size43
 have hs2 : ∀ v, zW.size = (#[.int .i64 t, .int .u64 ke, .int .u64 ro, v] : Array Value).size := fun _ => rfl
 have h12 : ∀ ao n cap, (#[.int .i64 t, .int .u64 ke, .int .u64 ro, .slice ao n cap] : Array Value).all (·.oneCell') = true := fun _ _ _ => by kernel_rfl
 have hbt : ∀ ao n cap, Tryz.prog.built 25 [(0, .int .i64 t), (1, .int .u64 ke), (2, .int .u64 ro), (3, .slice ao n cap)] = some #[.int .i64 t, .int .u64 ke, .int .u64 ro, .slice ao n cap] := fun _ _ _ => by kernel_rfl
 obtain ⟨G, hG⟩ : ∃ G : Array Value, G = #[.int .i64 t, .int .u64 ke, .int .u64 ro, .slice ao n cap] := ⟨_, rfl⟩
 rw [← hG] at c0 c1 c2 c3 hzg hse
 rw [← hG]
 clear hG
 go_enter Tryz.func48, Tryz.ntmps48
 go_wp2_with (first
  | (with_reducible refine wpList_box rfl _ _ rfl G rfl ?_; intro B W1 hN1 hB hk)
  | ((with_reducible refine wpList_alloc rfl _ rfl zW zero43 ?_); intro R W0 hN2 hR hk2; replace hB := hB.next hk2; replace hk := hk.trans (hk2.mono hk.size); clear hk2))
 have hRl : Hid (w.heap.size ≤ R ∧ R < W0.heap.size ∧ B ≠ R) := by have := hN1.out; have := hN2.out; refine (⟨?_, ?_, ?_⟩ : _ ∧ _ ∧ _) <;> omega
 clear hN1 hN2
 go_loopw [5, 6] (fun v j wr => ∃ (k : Nat) (cs : List Value), k ≤ n ∧ j = .int .i64 k ∧ wr.ownsRow W0.heap.size 43 51 v (vwP X W k).length cs ∧ RowO (LtN w) wr (vwP X W k) cs ∧ Below W0.heap.size W0 wr) (fun _ j _ => n - (intOf j).toNat)
 case atStart => exact ⟨0, [], Nat.zero_le _, rfl, World.ownsRow_nil _ _ _ _, rfl, Below.refl _ _⟩
 case round =>
  obtain ⟨k, cs, hkn1, rfl, hown, hro, hb0⟩ := hrel
  have hbw := hk.trans (hb0.mono hk.size)
  replace hB := hB.next hb0
  replace hR := hR.next hb0
  have hbs := hbw.size
  have hb0s := hb0.size
  by_cases hkn : k < n
  ·have hkX : k < X.length := by rw [hn.out]; exact hkn
   have hom := oat_mem hkX
   obtain ⟨b, off, C, rfl, hbb, hC, hr⟩ := obs_atD (obsD_next h (fun _ hb => hb) hbw) hkn
   have hkn' : (k : Int) < n := by omega
   have hz := hC.size
   have hl := vwP_len X W k
   have hsu := hvs k hkn
   obtain ⟨sn, hsn⟩ : ∃ sn, Hid (snO X W (oat X k) = sn) := ⟨_, rfl⟩
   rw [hsn.out] at hsu
   have hsk := fun (V : World) (hb : Below wr.heap.size wr V) => hse V C (oat X k) (hbw.trans (hb.mono hbw.size)) (hC.laterK fun b hb' => hb.block b (Nat.lt_of_lt_of_le hb' hbs)) (hsd _ hom)
   simp only [hsn.out] at hsk
   obtain ⟨av, hav⟩ : ∃ av : Value, Hid (av = u5) := ⟨_, rfl⟩
   go_wp2_with (first
    | (with_reducible refine wpList_load1 (by kernel_rfl) _ _ rfl B _ rfl _ _ hB _ c3 ga3 ?_))
   refine PgM.region_out (S := fun V => Below wr.heap.size wr V) hmx ((Below.refl _ _).drew) (fun hS => ?_)
   generalize wr.drew = v6 at hS ⊢
   refine wpAnyH_sym (by kernel_rfl) (fun _ _ _ _ _ h => h) hS [(0, some (.agg G)), (1, none), (2, some (.slice (some ⟨b, off, none⟩) n cap)), (3, none), (4, some (.pointer (some ⟨b, off + k * 51, none⟩))), (5, some (.agg C)), (6, none)] (l' := #[true, true, true, true, true, true, true, false, false, false]) (a' := { tmps := #[.agg G, .slice aW nW cW, .pointer (some ⟨B, 0, none⟩), undef, .pointer (some ⟨R, 0, none⟩), u5, .int .i64 k, u7, .int .i64 k, .pointer (some ⟨B, 3, none⟩), .slice (some ⟨b, off, none⟩) n cap, .int .i64 n, .bool true, u13, u14, .agg G, .pointer (some ⟨B, 3, none⟩), .slice (some ⟨b, off, none⟩) n cap, .int .i64 k, .pointer (some ⟨b, off + k * 51, none⟩), .agg C, .slice aW nW cW, u22, u23, u24, u25, u26, u27, u28, u29, undef, undef, undef, undef, undef, undef, undef, undef], defers := [] }) (obs := [.load 25 B 0 (.agg G), .load 23 B 3 (.slice (some ⟨b, off, none⟩) n cap), .ia 23 (.slice (some ⟨b, off, none⟩) n cap) (.int .i64 k) (.pointer (some ⟨b, off + k * 51, none⟩)), .load 43 b (off + k * 51) (.agg C)]) (n := 3) (by kernel_rfl) (by kernel_rfl) ⟨ob_loadb (fun _ h => hB.next h) Tryz.underlying25 (by kernel_rfl) hzg, ob_load1 (fun _ h => hB.next h) c3 ga3, ia_at hkn, ob_loadm (fun V h => range_block hr (h.block b hbb)) Tryz.underlying43 (by kernel_rfl) (size40C hz), trivial⟩ ?_
   refine share 1 #[true, true, true, true, true, true, true, true, true, false] (fun A V => ∃ (P6 : Nat) (C6 : Array Value), A = { tmps := #[.agg G, .slice aW nW cW, .pointer (some ⟨B, 0, none⟩), undef, .pointer (some ⟨R, 0, none⟩), u5, .int .i64 k, .pointer (some ⟨P6, 0, none⟩), .int .i64 k, .pointer (some ⟨B, 3, none⟩), .slice (some ⟨b, off, none⟩) n cap, .int .i64 n, .bool true, u13, u14, .agg G, .pointer (some ⟨B, 3, none⟩), .slice (some ⟨b, off, none⟩) n cap, .int .i64 k, .pointer (some ⟨b, off + k * 51, none⟩), .agg C, .slice aW nW cW, .agg C6, u23, u24, u25, u26, u27, u28, u29, undef, undef, undef, undef, undef, undef, undef, undef], defers := [] } ∧ Blk V P6 zC 43 ∧ wr.heap.size ≤ P6 ∧ ObD (LtN w) V C6 sn ∧ Below wr.heap.size wr V) ?_ (fun rest => ?_)
   ·rintro A V ⟨P6, C6, rfl, hPa, hgP, o6, kv⟩
    obtain ⟨V6, hr6, hP6, q6⟩ := run_store_blk hPa (size40C o6.size) (zC_size.trans o6.size.symm) o6.one
    refine wpAnyH_single (i := 9) (n := 0) rfl (by kernel_rfl) ?_
    refine wpOp_storeL (ty := 43) (B := P6) (off := 0) (v := .agg C6) (d := none) (by kernel_rfl) hr6 ?_
    have hS6 : Below wr.heap.size wr V6 := q6.below _ _ hgP kv
    replace o6 : ObD (LtN w) V6 C6 sn := o6.laterK fun b hb => q6.block b (by have h5 : b < w.heap.size := hb; omega)
    refine ⟨hS6, ?_⟩
    refine wpAnyH_done (by kernel_rfl) ?_ _
    clear hPa hr6 q6 kv hS hgP
    replace hB := hB.next hS6
    replace hR := hR.next hS6
    have hown6 := own_next hown hS6
    have hz6 := o6.size
    have hid6 := o6.id
    have hb06 := hb0.trans (hS6.mono hb0s)
    have hbw6 := hk.trans (hb06.mono hk.size)
    by_cases hq : sn.id = 0
    ·have hqb : (sn.id != 0) = false := by simpa using hq
     have hq' : Hid (sn.id = 0) := hq
     clear hq
     go_wp2_with (first
      | (with_reducible refine wpList_load1 (by kernel_rfl) _ _ rfl P6 _ rfl _ _ hP6 _ hid6 ga1 ?_))
     go_roundw
     case rel =>
      rw [if_neg (fun z => z hq'.out), List.append_nil] at hsu
      exact ⟨k + 1, cs, by omega, by go_num, by rw [hsu]; exact hown6, by rw [hsu]; exact hro.laterK fun b hb => (hbw6.block b hb).trans (hbw.block b hb).symm, hb06⟩
     case measure => simp [intOf]; omega
    ·have hqb : (sn.id != 0) = true := by simpa using hq
     have hq' : Hid (sn.id ≠ 0) := hq
     clear hq
     go_wp2_with (first
      | (with_reducible refine wpList_load1 (by kernel_rfl) _ _ rfl P6 _ rfl _ _ hP6 _ hid6 ga1 ?_)
      | (with_reducible refine wpList_loadb (by kernel_rfl) 43 _ rfl P6 rfl C6 hP6 _ Tryz.underlying43 (by kernel_rfl) (size40C hz6) ?_)
      | ((with_reducible refine wpList_bs1 rfl _ rfl C6 rfl hz6 ?_); intro Bq W8 hBq hbq hk8; have hown8 := own_next hown6 hk8)
      | (at_builtin; refine wpList_append_row infoO Tryz.underlying23 zC_size (by omega) rfl _ _ rfl W0.heap.size _ _ cs rfl hown8 _ _ _ _ C6.toList rfl (row_one hbq hz6) (obC_one o6) (by unfold maxLen; omega) (by omega) (Nat.le_trans hb06.size hk8.size) ?_; intro v' w2 hown' hgrow))
     go_roundw
     case rel =>
      rw [if_pos hq'.out] at hsu
      have hb2 : Below W0.heap.size W0 w2 := (hb06.trans (hk8.mono hb06.size)).grown hgrow (Nat.le_trans hb06.size hk8.size) (own_ge hown8)
      have hbw2 := hk.trans (hb2.mono hk.size)
      refine ⟨k + 1, cs ++ C6.toList, by omega, by go_num, ?_, ?_, hb2⟩
      ·rw [hsu, List.length_append]; exact hown'
      ·rw [hsu]
       exact RowO.app (hro.laterK fun b hb => (hbw2.block b hb).trans (hbw.block b hb).symm) (RowO.single (o6.laterK fun b hb => (hbw2.block b hb).trans (hbw6.block b hb).symm))
     case measure => simp [intOf]; omega
   ·refine wpAnyH_two (i := 7) (j := 8) (n := 2) rfl (by kernel_rfl) ?_ ?_
    ·refine wpOp_callL (f := 71) (vs := [.agg G, .agg C, .slice aW nW cW]) (d := some 22) (by kernel_rfl) Tryz.call71 (hsk _ hS) ?_
     rintro e z1 ⟨C6, rfl, o6, hc6⟩
     have hSz1 : Below wr.heap.size wr z1 := hS.trans (hc6.mono hS.size)
     refine ⟨_, rfl, hSz1, ?_⟩
     refine wpAnyH_single (i := 8) (n := 1) rfl (by kernel_rfl) ?_
     refine wpOp_allocL (ty := 43) (z := zC) (d := some 7) (by kernel_rfl) zero40 ?_
     intro P6 z2 hN hP6 ha6
     have hSz2 : Below wr.heap.size wr z2 := hSz1.trans (ha6.mono hSz1.size)
     have hgP : wr.heap.size ≤ P6 := by have := hN.out; have := hSz1.size; omega
     refine ⟨hSz2, ?_⟩
     exact rest _ _ ⟨P6, C6, rfl, hP6, hgP, o6.laterK fun b hb => ha6.block b (by have h5 : b < w.heap.size := hb; have := hSz1.size; omega), hSz2⟩
    ·refine wpOp_allocL (ty := 43) (z := zC) (d := some 7) (by kernel_rfl) zero40 ?_
     intro P6 z1 hN hP6 ha6
     have hSz1 : Below wr.heap.size wr z1 := hS.trans (ha6.mono hS.size)
     have hgP : wr.heap.size ≤ P6 := by have := hN.out; have := hS.size; omega
     refine ⟨hSz1, ?_⟩
     refine wpAnyH_single (i := 7) (n := 1) rfl (by kernel_rfl) ?_
     refine wpOp_callL (f := 71) (vs := [.agg G, .agg C, .slice aW nW cW]) (d := some 22) (by kernel_rfl) Tryz.call71 (hsk _ hSz1) ?_
     rintro e z2 ⟨C6, rfl, o6, hc6⟩
     have hSz2 : Below wr.heap.size wr z2 := hSz1.trans (hc6.mono hSz1.size)
     refine ⟨_, rfl, hSz2, ?_⟩
     exact rest _ _ ⟨P6, C6, rfl, hP6.next hc6, hgP, o6, hSz2⟩
  ·obtain rfl : k = n := by omega
   rw [hva] at hown hro
   obtain ⟨ao2, cap2, rfl, hrc⟩ := RowC.of_owns hown
   generalize hm2 : (vwL X W).length = m2 at hown hrc ⊢
   have HM : Hid ((vwL X W).length = m2) := hm2
   clear hm2
   go_wp2_with (first
    | (with_reducible refine wpList_load1 (by kernel_rfl) _ _ rfl B _ rfl _ _ hB _ c3 ga3 ?_)
    | (with_reducible refine wpList_load1 (by kernel_rfl) _ _ rfl B 0 rfl _ _ hB _ c0 ga2 ?_)
    | (with_reducible refine wpList_load1 (by kernel_rfl) _ _ rfl B 1 rfl _ _ hB _ c1 ga1 ?_)
    | (with_reducible refine wpList_load1 (by kernel_rfl) _ _ rfl B 2 rfl _ _ hB _ c2 ga1 ?_)
    | ((with_reducible refine wpList_build rfl _ [(0, _), (1, _), (2, _), (3, _)] rfl #[.int .i64 t, .int .u64 ke, .int .u64 ro, .slice ao2 m2 cap2] ?hf ?_); (case hf => exact hbt _ _ _))
    | ((with_reducible refine wpList_store_blk rfl _ _ _ rfl R rfl _ rfl zW hR (hz2 _) (hs2 _) (h12 _ _ _) ?_); intro W5 hR5 o5))
   refine bodyPost_ret (v := .agg _) (res43 Tryz.results48 rfl hR5 rfl) rfl ?_
   have hRo := hRl.out
   have hlt := hb0.size
   refine ⟨ao2, m2, cap2, rfl, ?_, o5.below _ _ hRo.1 hbw⟩
   have hob := hrc.obs hro
   refine (hob.laterK (w' := W5) (fun b hb => o5.block b (by have : b < w.heap.size := hb; omega)) (fun b hb => o5.block b (by have := hb.1; omega))).wide (fun b hb => ?_) (fun b hb => ?_)
   ·have : b < w.heap.size := hb
    rw [LtN, o5.size]; omega
   ·rw [LtN, o5.size]; exact hb.2
theorem ralike_v {w : World} {t ke ro t' ke' ro' : Int} {ao ao' : Option Addr} {n cap n' cap' : Nat} {X Y : List Ob} {aW : Option Addr} {nW cW : Nat} {W : Lb} (h : Obs w ao n cap X) (h' : Obs w ao' n' cap' Y) (hsd : ∀ x ∈ X, soundB x = true) (hsd' : ∀ x ∈ Y, soundB x = true) (hn16 : n ≤ 1024) (hn16' : n' ≤ 1024) (hW : Lab w.heap.size w aW nW cW W) (fW : Fit W) :
  Asks 20 #[.agg #[.int .i64 t, .int .u64 ke, .int .u64 ro, .slice ao n cap], .agg #[.int .i64 t', .int .u64 ke', .int .u64 ro', .slice ao' n' cap'], .slice aW nW cW] ((⟨t, ke, ro, vwL X W⟩ : Wd) = ⟨t', ke', ro', vwL Y W⟩) w := by
 have hmx : Tryz.prog.follows .mixedOrders = true := by kernel_rfl
 unfold Asks
 have hzg : (Tryz.prog.info? 25).map (·.size) = some (#[.int .i64 t, .int .u64 ke, .int .u64 ro, .slice ao n cap] : Array Value).size := by kernel_rfl
 have hzg' : (Tryz.prog.info? 25).map (·.size) = some (#[.int .i64 t', .int .u64 ke', .int .u64 ro', .slice ao' n' cap'] : Array Value).size := by kernel_rfl
 have hv1 := fun (V : World) (hk : Below w.heap.size w V) => rview_v (t := t) (ke := ke) (ro := ro) (obs_next h hk) hsd hn16 (hW.next hk) fW
 have hv2 := fun (V : World) (hk : Below w.heap.size w V) => rview_v (t := t') (ke := ke') (ro := ro') (obs_next h' hk) hsd' hn16' (hW.next hk) fW
 obtain ⟨G, hG⟩ : ∃ G : Array Value, G = #[.int .i64 t, .int .u64 ke, .int .u64 ro, .slice ao n cap] := ⟨_, rfl⟩
 obtain ⟨G', hG'⟩ : ∃ G' : Array Value, G' = #[.int .i64 t', .int .u64 ke', .int .u64 ro', .slice ao' n' cap'] := ⟨_, rfl⟩
 rw [← hG] at hzg hv1
 rw [← hG'] at hzg' hv2
 rw [← hG, ← hG']
 clear hG hG'
 go_enter Tryz.func20, Tryz.ntmps20
 go_wp2_with (first
  | (with_reducible refine wpList_box rfl 25 (.tmp 0) rfl G rfl ?_; intro B W1 hN1 hB hk)
  | (with_reducible refine wpList_box rfl 25 (.tmp 1) rfl G' rfl ?_; intro O W2 hN2 hO hk2; replace hB := hB.next hk2; replace hk := hk.trans (hk2.mono hk.size); clear hk2))
 refine PgM.region_out (S := fun V => Below W2.heap.size W2 V) hmx ((Below.refl _ _).drew) (fun hS => ?_)
 generalize W2.drew = v5 at hS ⊢
 refine wpAnyH_sym (by kernel_rfl) (fun _ _ _ _ _ h => h) hS [(0, some (.agg G)), (1, none), (3, some (.agg G')), (4, none)] (l' := #[true, true, false, true, true, false, false, false]) (a' := { tmps := #[.agg G, .agg G', .slice aW nW cW, .pointer (some ⟨B, 0, none⟩), .pointer (some ⟨O, 0, none⟩), undef, .bool false, .agg G, .slice aW nW cW, undef, .agg G', .slice aW nW cW, ud, undef], defers := [] }) (obs := [.load 25 B 0 (.agg G), .load 25 O 0 (.agg G')]) (n := 4) (by kernel_rfl) (by kernel_rfl) ⟨ob_loadb (fun _ h => hB.next h) Tryz.underlying25 (by kernel_rfl) hzg, ob_loadb (fun _ h => hO.next h) Tryz.underlying25 (by kernel_rfl) hzg', trivial⟩ ?_
 refine wpAnyH_callL (i := 2) (fuel := 3) (f := 48) (vs := [.agg G, .slice aW nW cW]) (d := some 9) (by kernel_rfl) (by kernel_rfl) (by kernel_rfl) Tryz.call48 (hv1 _ (hk.trans (hS.mono hk.size))) ?_
 rintro e v6 ⟨ax, nx, cx, rfl, ox, hb6⟩
 have hS6 : Below W2.heap.size W2 v6 := hS.trans (hb6.mono hS.size)
 refine ⟨_, rfl, hS6, ?_⟩
 refine wpAnyH_callL (i := 5) (fuel := 2) (f := 48) (vs := [.agg G', .slice aW nW cW]) (d := some 12) (by kernel_rfl) (by kernel_rfl) (by kernel_rfl) Tryz.call48 (hv2 _ (hk.trans (hS6.mono hk.size))) ?_
 rintro e v7 ⟨ay, ny, cy, rfl, oy, hb7⟩
 have hS7 : Below W2.heap.size W2 v7 := hS6.trans (hb7.mono hS6.size)
 refine ⟨_, rfl, hS7, ?_⟩
 refine wpAnyH_callL (i := 6) (fuel := 1) (f := 47) (vs := [.agg #[.int .i64 t, .int .u64 ke, .int .u64 ro, .slice ax nx cx], .agg #[.int .i64 t', .int .u64 ke', .int .u64 ro', .slice ay ny cy]]) (d := some 13) (by kernel_rfl) (by kernel_rfl) (by kernel_rfl) Tryz.call47 (rsame_w (obs_next ox hb7) oy) ?_
 rintro e v8 ⟨bb, rfl, hbb, hb8⟩
 have hS8 : Below W2.heap.size W2 v8 := hS7.trans (hb8.mono hS7.size)
 refine ⟨_, rfl, hS8, ?_⟩
 refine wpAnyH_sym (by kernel_rfl) (fun _ _ _ _ _ h => h) hS8 [(7, none)] (l' := #[true, true, true, true, true, true, true, true]) (a' := { tmps := #[.agg G, .agg G', .slice aW nW cW, .pointer (some ⟨B, 0, none⟩), .pointer (some ⟨O, 0, none⟩), undef, .bool bb, .agg G, .slice aW nW cW, .agg #[.int .i64 t, .int .u64 ke, .int .u64 ro, .slice ax nx cx], .agg G', .slice aW nW cW, .agg #[.int .i64 t', .int .u64 ke', .int .u64 ro', .slice ay ny cy], .bool bb], defers := [] }) (obs := []) (n := 0) (by kernel_rfl) (by kernel_rfl) trivial ?_
 refine wpAnyH_done (by kernel_rfl) ?_ _
 go_wp2
 go_ret
 exact ⟨bb, rfl, hbb, hk.trans (hS8.mono hk.size)⟩
end Go.Proofs.YtblklhgojdbfeaaGreat
