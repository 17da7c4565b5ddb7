/-
 PROVED HERE: plain facts on worlds in which a word was stored: what is found, seen and mapped is as it was, the word is the. What is asked stands at each.
-/
import Derived.Test.YtiiaohejldchdaaGreatZ35
import Derived.Test.YtiiaohejldchdaaGreatZ42
namespace Go.Proofs.YtiiaohejldchdaaGreat
set_option maxRecDepth 100000
set_option maxHeartbeats 8000000
set_option linter.unusedVariables false

def Wo (g : Ob → Ob) : Prop := g zOb = zOb ∧ ∀ z, g z = { z with data := (g z).data } ∧ (g z).data.length = z.data.length
def gSt (i : Int) (A : Nat) (v : Int) (z : Ob) : Ob := if z.id = i then putO z A v else z
theorem put_z (A : Nat) (v : Int) : putO zOb A v = zOb := by
 unfold putO
 rw [if_neg (by unfold wpl; rw [if_neg (by decide)]; decide)]
theorem put_wo (z : Ob) (A : Nat) (v : Int) : putO z A v = { z with data := (putO z A v).data } ∧ (putO z A v).data.length = z.data.length := by
 refine ⟨?_, put_len z A v⟩
 unfold putO
 split <;> rfl
theorem gSt_wo (i : Int) (A : Nat) (v : Int) : Wo (gSt i A v) := by
 refine ⟨?_, fun z => ?_⟩
 ·unfold gSt; split
  ·exact put_z A v
  ·rfl
 ·unfold gSt; split
  ·exact put_wo z A v
  ·exact ⟨rfl, rfl⟩
section
variable {g : Ob → Ob} {X : List Ob}
theorem Wo.kin (h : Wo g) (z : Ob) : Kin z (g z) := by
 obtain ⟨e, l⟩ := h.2 z
 exact ⟨by rw [e], by rw [e], by rw [e], by rw [e], by rw [e], by rw [e], l, by rw [e], by rw [e]⟩
theorem Wo.maps (h : Wo g) (z : Ob) : (g z).maps = z.maps := by rw [(h.2 z).1]
theorem Wo.see (h : Wo g) (L : Lb) (z : Ob) : seeB L (g z) = seeB L z := by rw [(h.2 z).1]; rfl
theorem Wo.fo (h : Wo g) (i : Int) : fO (X.map g) i = g (fO X i) := by
 unfold fO
 rw [fnd_map fun x _ => h.kin x]
 cases fnd X i with
 | none => exact h.1.symm
 | some z => rfl
theorem Wo.some (h : Wo g) (i : Int) : (fnd (X.map g) i).isSome = (fnd X i).isSome := by
 rw [fnd_map fun x _ => h.kin x, Option.isSome_map]
theorem Wo.chg (h : Wo g) (L : Lb) (z : Ob) : chgB L (g z) = chgB L z := by
 unfold chgB
 rw [h.see, (h.kin z).label]
theorem Wo.dir (h : Wo g) (L : Lb) (i : Int) (wr : Bool) : dirE (X.map g) L i wr = dirE X L i wr := by
 unfold dirE
 rw [h.some, h.fo, (h.kin _).kind, h.see, h.chg]
theorem Wo.lok (h : Wo g) (L : Lb) (c i : Int) : lokE (X.map g) L c i = lokE X L c i := by
 unfold lokE
 rw [h.dir, h.some, h.fo, (h.kin _).links]
theorem Wo.seeE (h : Wo g) (L : Lb) (c i kd : Int) : seeE (X.map g) L c i kd = Go.Proofs.YtiiaohejldchdaaGreat.seeE X L c i kd := by
 unfold Go.Proofs.YtiiaohejldchdaaGreat.seeE allE
 rw [h.lok, h.fo, (h.kin _).kind, h.see]
theorem Wo.spE (h : Wo g) (x : Ob) : spE (X.map g) x = Go.Proofs.YtiiaohejldchdaaGreat.spE X x := h.seeE _ _ _ _
theorem Wo.spM (h : Wo g) (x : Ob) : spM (X.map g) x = Go.Proofs.YtiiaohejldchdaaGreat.spM X x := by
 unfold Go.Proofs.YtiiaohejldchdaaGreat.spM
 rw [h.fo, h.maps]
theorem Wo.mpM (h : Wo g) (x : Ob) (a : Int) : mpM (X.map g) x a = Go.Proofs.YtiiaohejldchdaaGreat.mpM X x a := by
 unfold Go.Proofs.YtiiaohejldchdaaGreat.mpM
 rw [h.spM]
theorem Wo.mpA (h : Wo g) (x : Ob) (a : Int) : mpA (X.map g) x a = Go.Proofs.YtiiaohejldchdaaGreat.mpA X x a := by
 unfold Go.Proofs.YtiiaohejldchdaaGreat.mpA mpI
 rw [h.spM]
theorem Wo.mpE (h : Wo g) (x : Ob) (a : Int) : mpE (X.map g) x a = Go.Proofs.YtiiaohejldchdaaGreat.mpE X x a := by
 unfold Go.Proofs.YtiiaohejldchdaaGreat.mpE mpB
 rw [h.spE, h.spM]
theorem Wo.sgE (h : Wo g) (x : Ob) (a : Int) : sgE (X.map g) x a = Go.Proofs.YtiiaohejldchdaaGreat.sgE X x a := by
 unfold Go.Proofs.YtiiaohejldchdaaGreat.sgE
 rw [h.mpM, h.seeE]
theorem Wo.wkO (h : Wo g) (x : Ob) (a : Int) : wkO (X.map g) x a = g (Go.Proofs.YtiiaohejldchdaaGreat.wkO X x a) := by
 unfold Go.Proofs.YtiiaohejldchdaaGreat.wkO
 rw [h.mpM, h.fo]
theorem Wo.wpl (h : Wo g) (z : Ob) (p : Int) : wpl (g z) p = Go.Proofs.YtiiaohejldchdaaGreat.wpl z p := by
 unfold Go.Proofs.YtiiaohejldchdaaGreat.wpl
 rw [(h.kin z).kind, (h.kin z).dlen]
theorem Wo.wkE (h : Wo g) (x : Ob) (a : Int) : wkE (X.map g) x a = Go.Proofs.YtiiaohejldchdaaGreat.wkE X x a := by
 unfold Go.Proofs.YtiiaohejldchdaaGreat.wkE
 rw [h.mpE, h.sgE, h.wkO, h.mpA, h.wpl]
theorem Wo.stB (h : Wo g) (x : Ob) (a : Int) : stB (X.map g) x a = Go.Proofs.YtiiaohejldchdaaGreat.stB X x a := by
 unfold Go.Proofs.YtiiaohejldchdaaGreat.stB
 rw [h.wkE, h.mpM, h.wkO, (h.kin _).label]
end
section
variable {X : List Ob} {x u : Ob} {a b v : Int}
theorem st_zero (h : stB X x a = true) : wkE X x a = 0 ∧ (mpM X x a).wr = true ∧ leqB x.label (wkO X x a).label = true := by
 unfold stB at h
 simp only [Bool.and_eq_true, decide_eq_true_eq] at h
 exact h
theorem wk_fnd (hs : Srt X) (h : wkE X x a = 0) : fnd X (wkO X x a).id = some (wkO X x a) := (fnd_some hs).2 ⟨(wk_zero h).2.2.1, rfl⟩
theorem st_map (hs : Srt X) (h : stB X x a = true) : stX X x a v = X.map (gSt (wkO X x a).id (mpA X x a) v) := by
 have h0 := (st_zero h).1
 have hp : (putO (wkO X x a) (mpA X x a) v).id = (wkO X x a).id := by rw [(put_wo (wkO X x a) (mpA X x a) v).1]
 unfold stX
 rw [if_pos h, put_map hs (by rw [hp, wk_fnd hs h0]; rfl), hp]
 refine List.map_congr_left fun z hz => ?_
 unfold gSt
 by_cases e : z.id = (wkO X x a).id
 ·rw [if_pos e, if_pos e, srt_uniq hs hz (wk_zero h0).2.2.1 e]
 ·rw [if_neg e, if_neg e]
theorem st_no (h : stB X x a = false) : stX X x a v = X := by unfold stX; rw [h, if_neg (by decide)]
theorem st_fit {t ro : Int} {key : Nat} (hf : fitD t key ro X = true) : fitD t key ro (stX X x a v) = true := by
 have hT := tre_of hf
 cases h : stB X x a with
 | false => rw [st_no h]; exact hf
 | true =>
  rw [st_map hT.srt h]
  refine fit_map (fun z _ => (gSt_wo _ _ _).kin z) (fun z hz => ?_) hf
  unfold gSt
  split
  ·exact put_sound (hT.snd z hz)
  ·exact hT.snd z hz
def smP (X : List Ob) (x : Ob) (a : Int) (u : Ob) (b : Int) : Prop := (wkO X x a).id = (wkO X u b).id ∧ mpA X x a = mpA X u b
theorem ld_same (hs : Srt X) (h : stB X x a = true) (hb : wkE X u b = 0) (hp : smP X x a u b) : ldV (stX X x a v) u b = v := by
 have hg := gSt_wo (wkO X x a).id (mpA X x a) v
 rw [st_map hs h]
 unfold ldV
 rw [hg.wkE, if_pos hb, hg.wkO, hg.mpA]
 unfold gSt
 rw [if_pos hp.1.symm, hp.2]
 exact put_same (wk_zero hb).2.2.2.2.2.2.2
theorem ld_else (hs : Srt X) (h : stB X x a = true) (hp : ¬ smP X x a u b) : ldV (stX X x a v) u b = ldV X u b := by
 have hg := gSt_wo (wkO X x a).id (mpA X x a) v
 rw [st_map hs h]
 unfold ldV
 rw [hg.wkE]
 by_cases hb : wkE X u b = 0
 ·rw [if_pos hb, if_pos hb, hg.wkO, hg.mpA]
  unfold gSt
  by_cases e : (wkO X u b).id = (wkO X x a).id
  ·rw [if_pos e]
   have hne : mpA X x a ≠ mpA X u b := fun q => hp ⟨e.symm, q⟩
   have ho := srt_uniq hs (wk_zero hb).2.2.1 (wk_zero (st_zero h).1).2.2.1 e
   refine put_else ?_ hne
   rw [ho]
   exact (wk_zero (st_zero h).1).2.2.2.2.2.2.2
  ·rw [if_neg e]
 ·rw [if_neg hb, if_neg hb]
theorem st_wk (hs : Srt X) : wkE (stX X x a v) u b = wkE X u b := by
 cases h : stB X x a with
 | false => rw [st_no h]
 | true => rw [st_map hs h]; exact (gSt_wo _ _ _).wkE _ _
theorem st_st (hs : Srt X) : stB (stX X x a v) u b = stB X u b := by
 cases h : stB X x a with
 | false => rw [st_no h]
 | true => rw [st_map hs h]; exact (gSt_wo _ _ _).stB _ _
theorem st_srt (hs : Srt X) : Srt (stX X x a v) := by
 unfold stX
 split
 ·exact srt_put hs _
 ·exact hs
theorem put_comm (z : Ob) {A B : Nat} {v w : Int} (h : A ≠ B) : putO (putO z A v) B w = putO (putO z B w) A v := by
 by_cases h1 : wpl z A = 0
 ·by_cases h2 : wpl z B = 0
  ·exact put_swap_o h1 h2 h
  ·have e1 : putO (putO z A v) B w = putO z A v := by rw [putO, if_neg (by rw [put_wpl]; exact h2)]
   have e2 : putO z B w = z := by rw [putO, if_neg h2]
   rw [e1, e2]
 ·have e1 : putO (putO z B w) A v = putO z B w := by rw [putO, if_neg (by rw [put_wpl]; exact h1)]
  have e2 : putO z A v = z := by rw [putO, if_neg h1]
  rw [e1, e2]
theorem gSt_comm {i j : Int} {A B : Nat} {v w : Int} (h : ¬ (i = j ∧ A = B)) (z : Ob) : gSt i A v (gSt j B w z) = gSt j B w (gSt i A v z) := by
 have i1 : ∀ (k : Int) (C : Nat) (s : Int) (y : Ob), (gSt k C s y).id = y.id := fun k C s y => ((gSt_wo k C s).kin y).id
 by_cases e1 : z.id = i
 ·by_cases e2 : z.id = j
  ·have hne : A ≠ B := fun q => h ⟨e1.symm.trans e2, q⟩
   have p1 : gSt i A v z = putO z A v := if_pos e1
   have p2 : gSt j B w z = putO z B w := if_pos e2
   have p3 : gSt i A v (putO z B w) = putO (putO z B w) A v := if_pos (by rw [(put_wo z B w).1]; exact e1)
   have p4 : gSt j B w (putO z A v) = putO (putO z A v) B w := if_pos (by rw [(put_wo z A v).1]; exact e2)
   rw [p1, p2, p3, p4, put_comm z hne]
  ·have p2 : gSt j B w z = z := if_neg e2
   have p4 : gSt j B w (gSt i A v z) = gSt i A v z := if_neg (by rw [i1]; exact e2)
   rw [p2, p4]
 ·have p1 : gSt i A v z = z := if_neg e1
  have p3 : gSt i A v (gSt j B w z) = gSt j B w z := if_neg (by rw [i1]; exact e1)
  rw [p1, p3]
theorem st_swap {w : Int} (hs : Srt X) (h : stB X x a = true) (k : stB X u b = true) (hp : ¬ smP X x a u b) : stX (stX X x a v) u b w = stX (stX X u b w) x a v := by
 have hg := gSt_wo (wkO X x a).id (mpA X x a) v
 have hk := gSt_wo (wkO X u b).id (mpA X u b) w
 rw [st_map (st_srt hs) (by rw [st_st hs]; exact k), st_map (st_srt hs) (by rw [st_st hs]; exact h), st_map hs h, st_map hs k, hg.wkO, hk.wkO, hg.mpA, hk.mpA, (hg.kin _).id, (hk.kin _).id, List.map_map, List.map_map]
 exact List.map_congr_left fun z _ => gSt_comm (fun q => hp ⟨q.1.symm, q.2.symm⟩) z
theorem st_oat (hs : Srt X) {k : Nat} (hk : k < X.length) : oat (stX X x a v) k = (if stB X x a = true then gSt (wkO X x a).id (mpA X x a) v (oat X k) else oat X k) := by
 cases h : stB X x a with
 | false => rw [st_no h]; rfl
 | true => rw [st_map hs h, oat_map hk]; rfl
theorem st_len (hs : Srt X) : (stX X x a v).length = X.length := by
 cases h : stB X x a with
 | false => rw [st_no h]
 | true => rw [st_map hs h, List.length_map]
end
end Go.Proofs.YtiiaohejldchdaaGreat
