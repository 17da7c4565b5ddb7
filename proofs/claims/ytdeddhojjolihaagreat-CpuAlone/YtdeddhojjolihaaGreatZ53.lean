/-
 PROVED HERE: plain facts on how many words of two lists are unlike (no Go text); plain facts on what an instruction leaves . What is asked stands at each.
-/
import Derived.Test.YtdeddhojjolihaaGreatZ9
import Derived.Test.YtdeddhojjolihaaGreatZ52
namespace Go.Proofs.YtdeddhojjolihaaGreat
set_option maxRecDepth 100000
set_option maxHeartbeats 8000000
set_option linter.unusedVariables false
section
def unlN (C D : List Int) : Nat → Nat
 | 0 => 0
 | k + 1 => unlN C D k + if C.getD k 0 = D.getD k 0 then 0 else 1
theorem unl_le (C D : List Int) : ∀ k, unlN C D k ≤ k
 | 0 => Nat.le_refl _
 | k + 1 => by
  have := unl_le C D k
  unfold unlN
  split <;> omega
theorem y1z {l : List Int} {A : Nat} {v : Int} (hA : A < l.length) (hv : v ≠ l.getD A 0) : ∀ k, k ≤ l.length → unlN (l.set A v) l k = if A < k then 1 else 0
 | 0, _ => rfl
 | k + 1, h => by
  have ih := y1z hA hv k (by omega)
  unfold unlN
  rw [ih]
  have e : (l.set A v).getD k 0 = if A = k then v else l.getD k 0 := by
   rw [List.getD_eq_getElem?_getD, List.getElem?_set]
   by_cases q : A = k
   ·subst q; rw [if_pos rfl, if_pos rfl, if_pos hA]; rfl
   ·rw [if_neg q, if_neg q, List.getD_eq_getElem?_getD]
  rw [e]
  by_cases q : A = k
  ·subst q
   rw [if_pos rfl, if_neg (Nat.lt_irrefl A), if_neg hv, if_pos (Nat.lt_succ_self A)]
  ·rw [if_neg q, if_pos rfl]
   by_cases z : A < k
   ·rw [if_pos z, if_pos (by omega)]
   ·rw [if_neg z, if_neg (by omega)]
end
section
open Go.RowKit Go.Shelf
def rsO (o old : Ob) : Ob := { o with th := { o.th with regs := old.th.regs, pc := old.th.pc, handler := old.th.handler, vector := old.th.vector, state := old.th.state, alerts := old.th.alerts } }
theorem tu_X2 (X : List Ob) (x : Ob) : (tuR X x).X = X ∨ ∃ a v, stB X x a = true ∧ (tuR X x).X = stX X x a v ∧ (tuR X x).n = -1 := by
 unfold tuR exR
 repeat' split
 all_goals first | exact .inl rfl | (rename_i h; exact .inr ⟨_, _, h, rfl, rfl⟩)
theorem tu_n (X : List Ob) (x : Ob) : -1 ≤ (tuR X x).n := by
 unfold tuR exR
 repeat' split
 all_goals first | exact Int.le_refl _ | (rename_i h; exact Int.le_trans (by decide) (Int.not_lt.1 h))
theorem stp_n (X : List Ob) (i : Int) : -1 ≤ stpN X i := by
 unfold stpN
 split
 ·exact tu_n _ _
 ·exact Int.le_refl _
theorem rs_tk {y : Ob} {u : Th} (k : Tk y.th u) : rsO { y with th := u } y = y := by
 obtain ⟨id, kind, label, quota, fixed, links, data, maps, th, gt, inn, out⟩ := y
 obtain ⟨regs, pc, clear, sc, si, handler, vector, state, wc, wi, wx, wv, wd, alerts, lo, hi, l0, l1, l2, l3⟩ := th
 obtain ⟨r, p, c, s, i, h, v, st, a1, a2, a3, a4, a5, al, lo', hi', m0, m1, m2, m3⟩ := u
 obtain ⟨h1, h2, h3, ⟨w1, w2, w3, w4, w5⟩, _, h5, h6, h7, h8, h9, h10, _⟩ := k
 cases h1; cases h2; cases h3; cases w1; cases w2; cases w3; cases w4; cases w5; cases h5; cases h6; cases h7; cases h8; cases h9; cases h10
 rfl
structure OneW (o old : Ob) : Prop where
 ne : o ≠ old
 kind : o.kind = 1
 len : o.data.length = old.data.length
 one : unlN o.data old.data old.data.length = 1
 rest : { o with data := old.data } = old
variable {X : List Ob}
theorem oat_pos (hs : Srt X) {j k : Nat} (hj : j < X.length) (hk : k < X.length) (e : (oat X j).id = (oat X k).id) : j = k := by
 unfold Srt at hs
 rw [List.pairwise_iff_getElem] at hs
 rw [qCz hj, qCz hk] at e
 rcases Nat.lt_trichotomy j k with h | h | h
 ·have := hs j k hj hk h; omega
 ·exact h
 ·have := hs k j hk hj h; omega
theorem stp_at {t ro : Int} {key : Nat} {i : Int} (hf : fitD t key ro X = true) (hr : ruB X i = true) : ∃ p : Nat, ∀ k, k < X.length → (oat (stpX X i) k).id = (oat X k).id ∧
  (((oat X k).id = i ∧ rsO (oat (stpX X i) k) (oat X k) = oat X k) ∨ ((oat X k).id ≠ i ∧ oat (stpX X i) k = oat X k) ∨ ((oat X k).id ≠ i ∧ k = p ∧ stpN X i = -1 ∧ OneW (oat (stpX X i) k) (oat X k))) := by
 have hT := xbz hf
 obtain ⟨hm, hmi, hk4, h0⟩ := vZz hr
 have hT1 := xbz (y5z (x := fO X i) hf)
 obtain ⟨z, hz, kz⟩ := tu_kin (x := fO X i) hT.srt hm
 have hi : (fnd (tuR X (fO X i)).X ({ fO X i with th := (tuR X (fO X i)).t } : Ob).id).isSome = true := by
  rw [(fnd_some hT1.srt).2 ⟨hz, kz.id⟩]; rfl
 have e1 : stpX X i = (tuR X (fO X i)).X.map fun u => if u.id = (fO X i).id then { fO X i with th := (tuR X (fO X i)).t } else u := by
  unfold stpX
  rw [if_pos hr, vyz hT1.srt hi]
 have e2 : stpN X i = (tuR X (fO X i)).n := by unfold stpN; rw [if_pos hr]
 have hl : (tuR X (fO X i)).X.length = X.length := y4z hT.srt
 have hrs : rsO { fO X i with th := (tuR X (fO X i)).t } (fO X i) = fO X i := rs_tk (tk_tu X (fO X i))
 -- what stands at the place k
 have at_ : ∀ k, k < X.length → oat (stpX X i) k = (if (oat (tuR X (fO X i)).X k).id = i then { fO X i with th := (tuR X (fO X i)).t } else oat (tuR X (fO X i)).X k) := fun k hk => by
  rw [e1, xRz (by omega), hmi]
 rw [e2]
 have own : ∀ k, k < X.length → (oat X k).id = i → oat X k = fO X i := fun k hk e => x9z hT.srt (q4z hk) hm (e.trans hmi.symm)
 rcases tu_X2 X (fO X i) with e | ⟨a, v, hst, e, hn⟩
 ·refine ⟨0, fun k hk => ?_⟩
  rw [at_ k hk, e]
  by_cases q : (oat X k).id = i
  ·rw [if_pos q, own k hk q]
   exact ⟨rfl, .inl ⟨hmi, hrs⟩⟩
  ·rw [if_neg q]
   exact ⟨rfl, .inr (.inl ⟨q, rfl⟩)⟩
 ·obtain ⟨z0, z1, z2, z3, z4, z5, z6, z7⟩ := xwz (ucz hst).1
  have hp : ∃ p : Nat, ∀ k, k < X.length → (oat X k).id = (wkO X (fO X i) a).id → k = p := by
   obtain ⟨p, hp, ep⟩ := List.mem_iff_getElem.1 z2
   exact ⟨p, fun k hk e => oat_pos hT.srt hk hp (by rw [e, qCz hp, ep])⟩
  obtain ⟨p, hp⟩ := hp
  refine ⟨p, fun k hk => ?_⟩
  have hsa := st_oat (x := fO X i) (a := a) (v := v) hT.srt hk
  rw [if_pos hst] at hsa
  have hid : (gSt (wkO X (fO X i) a).id (mpA X (fO X i) a) v (oat X k)).id = (oat X k).id := ((u6z _ _ _).kin _).id
  rw [at_ k hk, e, hsa, hid]
  by_cases q : (oat X k).id = i
  ·rw [if_pos q, own k hk q]
   exact ⟨rfl, .inl ⟨hmi, hrs⟩⟩
  ·rw [if_neg q, hid]
   refine ⟨rfl, .inr ?_⟩
   unfold gSt
   by_cases g : (oat X k).id = (wkO X (fO X i) a).id
   ·rw [if_pos g]
    have eo : oat X k = wkO X (fO X i) a := x9z hT.srt (q4z hk) z2 g
    rw [eo] at q ⊢
    obtain ⟨A, hA⟩ : ∃ A : Nat, (mpA X (fO X i) a : Nat) = A := ⟨_, rfl⟩
    have zA : A < (wkO X (fO X i) a).data.length := by omega
    rw [hA] at z7
    rw [hA]
    have hput : putO (wkO X (fO X i) a) A v = { wkO X (fO X i) a with data := (wkO X (fO X i) a).data.set A v } := by
     unfold putO
     rw [if_pos z7]
    rw [hput]
    by_cases hv : v = (wkO X (fO X i) a).data.getD A 0
    ·refine .inl ⟨q, ?_⟩
     have : (wkO X (fO X i) a).data.set A v = (wkO X (fO X i) a).data := by
      rw [hv, List.getD_eq_getElem?_getD, List.getElem?_eq_getElem zA]
      exact List.set_getElem_self zA
     rw [this]
    ·refine .inr ⟨q, hp k hk g, hn, ?_, z4, by simp, ?_, rfl⟩
     ·intro e
      have e' := congrArg Ob.data e
      have e3 : ((wkO X (fO X i) a).data.set A v).getD A 0 = (wkO X (fO X i) a).data.getD A 0 := by rw [show (wkO X (fO X i) a).data.set A v = _ from e']
      rw [List.getD_eq_getElem?_getD, List.getElem?_set, if_pos rfl, if_pos zA] at e3
      exact hv e3
     ·show unlN ((wkO X (fO X i) a).data.set A v) (wkO X (fO X i) a).data (wkO X (fO X i) a).data.length = 1
      rw [y1z zA hv _ (Nat.le_refl _), if_pos zA]
   ·rw [if_neg g]
    exact .inl ⟨q, rfl⟩
theorem stp_no {i : Int} (hr : ruB X i = false) : stpX X i = X ∧ stpN X i = -1 := by
 unfold stpX stpN
 rw [if_neg (by rw [hr]; decide), if_neg (by rw [hr]; decide)]
 exact ⟨rfl, rfl⟩
end
end Go.Proofs.YtdeddhojjolihaaGreat
