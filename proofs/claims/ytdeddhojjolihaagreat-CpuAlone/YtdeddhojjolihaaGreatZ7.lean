/-
 PROVED HERE: what Join, Meet, Raise and Lower of the document's answer to label return when they are called (contracts over. What is asked stands at each.
-/
import Derived.Deep.RegionHeld3
import Derived.Deep.AppendLies
import Derived.WalkSpells
import Derived.Test.YtdeddhojjolihaaGreatZ4
import Derived.Test.YtdeddhojjolihaaGreatZ6
namespace Go.Proofs.YtdeddhojjolihaaGreat
set_option maxRecDepth 100000
set_option maxHeartbeats 8000000
set_option linter.unusedVariables false
open Go.Proofs.Tryz
section
open Go.ChangeShapes Go.WideShapes Go.ChangeAt Go.RowKit
def rj1 (op : Int → Int → Int) (A C : List (Int × Int)) (k : Nat) : List (Int × Int) := (A.take k).foldl (fun O p => wlz O p.1 (op p.2 (get C p.1))) A
def rj2 (op : Int → Int → Int) (A C : List (Int × Int)) (k : Nat) : List (Int × Int) := (C.take k).foldl (fun O q => wlz O q.1 (op (get A q.1) q.2)) (rj1 op A C A.length)
def k2z (op : Int → Int → Int) (A C : List (Int × Int)) : List (Int × Int) := rj2 op A C C.length
variable {op : Int → Int → Int} {A C : List (Int × Int)} {x y : Int}
theorem rj1_succ {k : Nat} (h : k < A.length) (e : A.getD k (0, 0) = (x, y)) : rj1 op A C (k + 1) = wlz (rj1 op A C k) x (op y (get C x)) := by
 have e' : A[k] = (x, y) := by simpa [List.getD_eq_getElem?_getD, List.getElem?_eq_getElem h] using e
 unfold rj1
 rw [List.take_succ_eq_append_getElem h, e', List.foldl_append]
 rfl
theorem rj2_succ {k : Nat} (h : k < C.length) (e : C.getD k (0, 0) = (x, y)) : rj2 op A C (k + 1) = wlz (rj2 op A C k) x (op (get A x) y) := by
 have e' : C[k] = (x, y) := by simpa [List.getD_eq_getElem?_getD, List.getElem?_eq_getElem h] using e
 unfold rj2
 rw [List.take_succ_eq_append_getElem h, e', List.foldl_append]
 rfl
def xyz (op : Int → Int) (A : List (Int × Int)) : List (Int × Int) := A.map fun p => (p.1, op p.2)
theorem utz {op : Int → Int} {A : List (Int × Int)} {k : Nat} (h : k < A.length) (e : A.getD k (0, 0) = (x, y)) : xyz op (A.take (k + 1)) = xyz op (A.take k) ++ [(x, op y)] := by
 have e' : A[k] = (x, y) := by simpa [List.getD_eq_getElem?_getD, List.getElem?_eq_getElem h] using e
 unfold xyz
 rw [List.take_succ_eq_append_getElem h, e', List.map_append]
 rfl
theorem yzz {w : World} {ao ao' : Option Addr} {n n' cap cap' : Nat} {L L' : List (Int × Int)} (hL : Lab w.heap.size w ao n cap L) (hL' : Lab w.heap.size w ao' n' cap' L') (hk : n < 68719476736) (hk' : n' < 68719476736) :
  Calls prog 96 #[.slice ao n cap, .slice ao' n' cap'] w fun e w' => ∃ ao1 n1 cap1, e = .returned (.slice ao1 n1 cap1) ∧ Lab w'.heap.size w' ao1 n1 cap1 (k2z Lv.join L L') ∧ n1 ≤ 2 * n + n' ∧ Below w.heap.size w w' := by
 have hn := hL.1
 have hcm := hL.2.2.1.1
 have hnc := hL.2.1
 have hn' := hL'.1
 have hcm' := hL'.2.2.1.1
 have hnc' := hL'.2.1
 go_enter func96, ntmps96
 go_wp2
 go_loopw [5, 6] (fun v i wr => ∃ (k : Nat) (ao1 : Option Addr) (n1 cap1 : Nat), k ≤ n ∧ i = .int .i64 k ∧ v = .slice ao1 n1 cap1 ∧ n1 ≤ n + k ∧ Lab wr.heap.size wr ao1 n1 cap1 (rj1 Lv.join L L' k) ∧ Below w.heap.size w wr) (fun _ i _ => n - (intOf i).toNat)
 case atStart => exact ⟨0, _, _, _, Nat.zero_le _, rfl, rfl, Nat.le_refl _, hL, Below.refl _ _⟩
 case round =>
  obtain ⟨k, ao1, n1, cap1, hkn, rfl, rfl, hn1, hO, hb⟩ := hrel
  have hbs := hb.size
  by_cases hlt : k < n
  ·obtain ⟨b, off, x, y, hao, hbB, d0, d1, hxy⟩ := hL.at hb hlt
   subst hao
   have hlt' : (k : Int) < n := by omega
   have hL1 := hL'.later hb.drew
   have hO1 := hO.later (Below.refl wr.heap.size wr).drew
   have hs : Hid (rj1 Lv.join L L' (k + 1) = wlz (rj1 Lv.join L L' k) x (Lv.join y (get L' x))) := rj1_succ (by omega) hxy.out
   clear hL hL' hO
   go_wp2
   go_region_held3 (fun w' => w'.cell? ⟨b, off + k * 2, none⟩ = some (.int .u64 x) ∧ w'.cell? ⟨b, off + k * 2 + 1, none⟩ = some (.int .i64 y)) (go_keep) (first | (go_at_call 87; refine (xkz _ hL1).mono ?_; rintro e w' ⟨rfl, rfl⟩) | (go_at_call 119; refine (jTz _ _ _).mono ?_; rintro e w' ⟨rfl, rfl⟩) | (go_at_call 118; refine (jSz _ _ hO1 (Nat.le_refl _) (by omega)).mono ?_; rintro e w1 ⟨ao2, n2, cap2, rfl, ho2, hb2⟩; have e0 := cell_later hb2 d0; have e1 := cell_later hb2 d1))
   go_wp2
   go_roundw
   case rel => exact ⟨k + 1, ao2, n2, cap2, by omega, by go_num, rfl, by have h1 := ho2.1; have h2 := k1z (rj1 Lv.join L L' k) x (Lv.join y (get L' x)); have h3 := hO1.1; omega, by rw [hs.out]; exact ho2.lab, hb.drew.trans (hb2.mono hbs)⟩
   case measure => simp [intOf]; omega
  ·have hkn2 : k = n := by omega
   subst hkn2
   have hO' : Lab wr.heap.size wr ao1 n1 cap1 (rj2 Lv.join L L' 0) := by
    have h : rj2 Lv.join L L' 0 = rj1 Lv.join L L' k := by unfold rj2; rw [hn]; rfl
    rw [h]; exact hO
   clear hO
   go_wp2
   go_loopw [5, 7] (fun v i wr => ∃ (j : Nat) (ao1 : Option Addr) (n1 cap1 : Nat), j ≤ n' ∧ i = .int .i64 j ∧ v = .slice ao1 n1 cap1 ∧ n1 ≤ 2 * k + j ∧ Lab wr.heap.size wr ao1 n1 cap1 (rj2 Lv.join L L' j) ∧ Below w.heap.size w wr) (fun _ i _ => n' - (intOf i).toNat)
   case atStart => exact ⟨0, _, _, _, Nat.zero_le _, rfl, rfl, by omega, hO', hb⟩
   case round =>
    clear hO' hb hbs hn1
    obtain ⟨j, ao1, n1, cap1, hjn, rfl, rfl, hn1, hO, hb⟩ := hrel
    have hbs := hb.size
    by_cases hlt : j < n'
    ·obtain ⟨b, off, x, y, hao, hbB, d0, d1, hxy⟩ := hL'.at hb hlt
     subst hao
     have hlt' : (j : Int) < n' := by omega
     have hL1 := hL.later hb.drew
     have hO1 := hO.later (Below.refl wr.heap.size wr).drew
     have hs : Hid (rj2 Lv.join L L' (j + 1) = wlz (rj2 Lv.join L L' j) x (Lv.join (get L x) y)) := rj2_succ (by omega) hxy.out
     clear hL hL' hO
     go_wp2
     go_region_held3 (fun w' => w'.cell? ⟨b, off + j * 2, none⟩ = some (.int .u64 x) ∧ w'.cell? ⟨b, off + j * 2 + 1, none⟩ = some (.int .i64 y)) (go_keep) (first | (go_at_call 87; refine (xkz _ hL1).mono ?_; rintro e w' ⟨rfl, rfl⟩) | (go_at_call 119; refine (jTz _ _ _).mono ?_; rintro e w' ⟨rfl, rfl⟩) | (go_at_call 118; refine (jSz _ _ hO1 (Nat.le_refl _) (by omega)).mono ?_; rintro e w1 ⟨ao2, n2, cap2, rfl, ho2, hb2⟩; have e0 := cell_later hb2 d0; have e1 := cell_later hb2 d1))
     go_wp2
     go_roundw
     case rel => exact ⟨j + 1, ao2, n2, cap2, by omega, by go_num, rfl, by have h1 := ho2.1; have h2 := k1z (rj2 Lv.join L L' j) x (Lv.join (get L x) y); have h3 := hO1.1; omega, by rw [hs.out]; exact ho2.lab, hb.drew.trans (hb2.mono hbs)⟩
     case measure => simp [intOf]; omega
    ·have hj : j = n' := by omega
     subst hj
     have hr : Hid (k2z Lv.join L L' = rj2 Lv.join L L' j) := by show rj2 Lv.join L L' L'.length = _; rw [hn']
     clear hL hL'
     go_wp2
     go_ret
     exact ⟨_, _, _, rfl, by rw [hr.out]; exact hO, by omega, hb⟩
theorem vuz {w : World} {ao : Option Addr} {n cap : Nat} {L : List (Int × Int)} (hL : Lab w.heap.size w ao n cap L) (hk : n < 68719476736) :
  Calls prog 97 #[.slice ao n cap] w fun e w' => ∃ ao1 n1 cap1, e = .returned (.slice ao1 n1 cap1) ∧ Lab w'.heap.size w' ao1 n1 cap1 (xyz Lv.raise L) ∧ n1 ≤ n ∧ Below w.heap.size w w' := by
 obtain ⟨i0, hi, hz0, hz1, hz2⟩ := info_parts juz
 have hn := hL.1
 have hcm := hL.2.2.1.1
 have hnc := hL.2.1
 go_enter func97, ntmps97
 go_wp2
 go_loopw [3, 4] (fun v i wr => ∃ (k : Nat) (ao1 : Option Addr) (cap1 : Nat), k ≤ n ∧ i = .int .i64 k ∧ v = .slice ao1 k cap1 ∧ OwnL w.heap.size wr ao1 k cap1 (xyz Lv.raise (L.take k)) ∧ Below w.heap.size w wr) (fun _ i _ => n - (intOf i).toNat)
 case atStart => exact ⟨0, _, _, Nat.zero_le _, rfl, rfl, OwnL.nil _ _, Below.refl _ _⟩
 case round =>
  obtain ⟨k, ao1, cap1, hkn, rfl, rfl, hO, hb⟩ := hrel
  have hbs := hb.size
  by_cases hlt : k < n
  ·obtain ⟨b, off, x, y, hao, hbB, d0, d1, hxy⟩ := hL.at hb hlt
   subst hao
   have hbw : b < wr.heap.size := by omega
   have hlt' : (k : Int) < n := by omega
   obtain ⟨hOl, hrow⟩ := hO
   have hs : Hid (xyz Lv.raise (L.take (k + 1)) = xyz Lv.raise (L.take k) ++ [(x, Lv.raise y)]) := utz (by omega) hxy.out
   have HOl : Hid ((xyz Lv.raise (L.take k)).length = k) := hOl
   clear hL hOl
   go_wp2
   go_region_held3 (fun w' => w'.cell? ⟨b, off + k * 2, none⟩ = some (.int .u64 x) ∧ w'.cell? ⟨b, off + k * 2 + 1, none⟩ = some (.int .i64 y)) (go_keep) (first | (go_at_call 120; refine (yvz _ _).mono ?_; rintro e w' ⟨rfl, rfl⟩) | (refine step_append_lies _ rfl _ _ 34 rfl w.heap.size 111 i0 (.agg #[.int .u64 0, .int .i64 0]) 2 16 underlying34 hi hz0 hz1 hz2 rfl (by decide) _ _ _ rfl (hrow.drew.alloc _) ⟨wr.heap.size, 0, none⟩ 1 1 [.int .u64 x, .int .i64 (Lv.raise y)] rfl rfl (waz wr.drew _ _ _) (by simp [Value.oneCell']) (by omega) (by unfold maxLen; omega) (by omega) (by simp; omega) _ rfl ?_; intro g1 cp1 w1 hown1 hgrow1 hat hlt1; have hb1 := wOz hb.drew hrow.drew hgrow1 hbs; have e0 := (hb1.cell (p := ⟨b, off + k * 2, none⟩) hbB).trans ((hb.cell (p := ⟨b, off + k * 2, none⟩) hbB).symm.trans d0); have e1 := (hb1.cell (p := ⟨b, off + k * 2 + 1, none⟩) hbB).trans ((hb.cell (p := ⟨b, off + k * 2 + 1, none⟩) hbB).symm.trans d1)))
   go_wp2
   go_roundw
   case rel => exact ⟨k + 1, some ⟨g1, 0, none⟩, cp1, by omega, by go_num, rfl, ⟨by rw [hs.out]; simp [HOl.out], by rw [hs.out, qWz]; exact hown1⟩, hb1⟩
   case measure => simp [intOf]; omega
  ·have hkn2 : k = n := by omega
   subst hkn2
   have hr : Hid (xyz Lv.raise (L.take k) = xyz Lv.raise L) := by show xyz Lv.raise (L.take k) = _; rw [List.take_of_length_le (by omega)]
   clear hL
   go_wp2
   go_ret
   exact ⟨_, _, _, rfl, by rw [← hr.out]; exact hO.lab, Nat.le_refl _, hb⟩
end
section
theorem wl_main (c l : Int) : ∀ (L : List (Int × Int)) (b : Int) (d : Bool), Rc b L → (d = true ∨ b < c) → Rc b (wl c l d L) ∧ (∀ k, get (wl c l d L) k = if k = c then (if d = true then 2 else l) else get L k) ∧ ∀ q ∈ wl c l d L, q ∈ L ∨ d = false ∧ q = (c, l) := by
 intro L
 induction L with
 | nil =>
  intro b d _ hd
  cases d with
  | true => exact ⟨trivial, fun k => (by simp [wl, get]), fun q hq => (by simp [wl] at hq)⟩
  | false =>
   refine ⟨?_, fun k => ?_, fun q hq => .inr ⟨rfl, by simpa [wl] using hq⟩⟩
   ·rcases hd with h | h
    ·cases h
    ·exact ⟨h, trivial⟩
   ·by_cases hk : k = c
    ·subst hk; simp [wl, get]
    ·simp [wl, get, hk]; intro h; exact absurd h.symm hk
 | cons p r ih =>
  intro b d hR hd
  have hbp := hR.1
  cases d with
  | true =>
   obtain ⟨i1, i2, i3⟩ := ih p.1 true hR.2 (.inl rfl)
   by_cases hpc : p.1 = c
   ·have e : wl c l true (p :: r) = wl c l true r := by simp [wl, hpc]
    rw [e]
    refine ⟨i1.low (by omega), fun k => ?_, fun q hq => ?_⟩
    ·rw [i2]
     by_cases hk : k = c
     ·simp [hk]
     ·simp only [get]; rw [if_neg hk, if_neg hk, if_neg (by omega)]
    ·rcases i3 q hq with h | h
     ·exact .inl (by simp [h])
     ·exact .inr h
   ·have e : wl c l true (p :: r) = p :: wl c l true r := by simp [wl, hpc]
    rw [e]
    refine ⟨⟨hbp, i1⟩, fun k => ?_, fun q hq => ?_⟩
    ·simp only [get]
     rw [i2]
     by_cases hk : k = c
     ·rw [if_neg (by omega)]; simp [hk]
     ·rw [if_neg hk, if_neg hk]
    ·rcases List.mem_cons.1 hq with rfl | hq
     ·exact .inl (by simp)
     ·rcases i3 q hq with h | h
      ·exact .inl (by simp [h])
      ·exact .inr h
  | false =>
   have hbc : b < c := by rcases hd with h | h; cases h; exact h
   by_cases hcp : c < p.1
   ·obtain ⟨i1, i2, i3⟩ := ih p.1 true hR.2 (.inl rfl)
    have hpc : ¬ p.1 = c := by omega
    have e : wl c l false (p :: r) = (c, l) :: p :: wl c l true r := by simp [wl, hpc, hcp]
    rw [e]
    refine ⟨⟨hbc, hcp, i1⟩, fun k => ?_, fun q hq => ?_⟩
    ·simp only [get]
     rw [i2]
     by_cases hk : k = c
     ·rw [if_pos hk.symm, if_pos hk]; rfl
     ·rw [if_neg (fun h => hk h.symm), if_neg hk, if_neg hk]
    ·rcases List.mem_cons.1 hq with rfl | hq
     ·exact .inr ⟨rfl, rfl⟩
     ·rcases List.mem_cons.1 hq with rfl | hq
      ·exact .inl (by simp)
      ·rcases i3 q hq with h | h
       ·exact .inl (by simp [h])
       ·exact absurd h.1 (by simp)
   ·by_cases hpc : p.1 = c
    ·obtain ⟨i1, i2, i3⟩ := ih (c - 1) false (hR.2.low (by omega)) (.inr (by omega))
     have e : wl c l false (p :: r) = wl c l false r := by simp [wl, hpc]
     rw [e]
     refine ⟨i1.low (by omega), fun k => ?_, fun q hq => ?_⟩
     ·rw [i2]
      by_cases hk : k = c
      ·simp [hk]
      ·simp only [get]; rw [if_neg hk, if_neg hk, if_neg (by omega)]
     ·rcases i3 q hq with h | h
      ·exact .inl (by simp [h])
      ·exact .inr h
    ·obtain ⟨i1, i2, i3⟩ := ih p.1 false hR.2 (.inr (by omega))
     have e : wl c l false (p :: r) = p :: wl c l false r := by simp [wl, hpc, hcp]
     rw [e]
     refine ⟨⟨hbp, i1⟩, fun k => ?_, fun q hq => ?_⟩
     ·simp only [get]
      rw [i2]
      by_cases hk : k = c
      ·rw [if_neg (by omega), if_pos hk, if_pos hk]
      ·rw [if_neg hk, if_neg hk]
     ·rcases List.mem_cons.1 hq with rfl | hq
      ·exact .inl (by simp)
      ·rcases i3 q hq with h | h
       ·exact .inl (by simp [h])
       ·exact .inr h
variable {L : List (Int × Int)}
theorem vsz (hL : Fit L) {c l : Int} (hl : 0 ≤ l ∧ l ≤ 5) : Fit (wlz L c l) ∧ ∀ k, get (wlz L c l) k = if k = c then l else get L k := by
 obtain ⟨⟨b, r⟩, lv⟩ := hL
 obtain ⟨h1, h2, h3⟩ := wl_main c l L (min b (c - 1)) (l == 2) (r.low (by omega)) (.inr (by omega))
 unfold wlz
 refine ⟨⟨⟨_, h1⟩, fun q hq => ?_⟩, fun k => ?_⟩
 ·rcases h3 q hq with h | ⟨h, rfl⟩
  ·exact lv q h
  ·exact ⟨hl.1, hl.2, by simpa using h⟩
 ·rw [h2]
  by_cases h : l = 2
  ·subst h; simp
  ·have : (l == 2) = false := by simpa using h
   rw [this]; simp
theorem xSz {k : Int} (h : get L k ≠ 2) : ∃ p ∈ L, p.1 = k ∧ p.2 = get L k := by
 induction L with
 | nil => simp [get] at h
 | cons p r ih =>
  simp only [get] at h ⊢
  by_cases hp : p.1 = k
  ·rw [if_pos hp]; exact ⟨p, by simp, hp, rfl⟩
  ·rw [if_neg hp] at h ⊢
   obtain ⟨q, h1, h2, h3⟩ := ih h
   exact ⟨q, by simp [h1], h2, h3⟩
variable {A C : List (Int × Int)}
theorem xzz (hA : Fit A) (hC : Fit C) : w4z A C = leqB A C := by
 obtain ⟨b, rA⟩ := hA.rc
 obtain ⟨b', rC⟩ := hC.rc
 have key : ∀ k, Lv.leq (get A k) (get C k) = true ↔ get A k ≤ get C k := by
  intro k
  have h1 := hA.range k
  have h2 := hC.range k
  rw [Lv.leq_iff, Lv.lv_of h1.1 h1.2, Lv.lv_of h2.1 h2.2]
 rw [Bool.eq_iff_iff, leqB_iff hA hC]
 unfold w4z
 rw [Bool.and_eq_true, List.all_eq_true, List.all_eq_true]
 constructor
 ·rintro ⟨h1, h2⟩ k
  by_cases hk : get A k = 2
  ·by_cases hk' : get C k = 2
   ·omega
   ·obtain ⟨q, hq, rfl, e⟩ := xSz hk'
    have := h2 q hq
    rw [e] at this
    exact (key _).1 this
  ·obtain ⟨p, hp, rfl, e⟩ := xSz hk
   have := h1 p hp
   rw [e] at this
   exact (key _).1 this
 ·intro h
  refine ⟨fun p hp => ?_, fun q hq => ?_⟩
  ·have e := kEz rA hp
   have := (key p.1).2 (h p.1)
   rwa [e] at this
  ·have e := kEz rC hq
   have := (key q.1).2 (h q.1)
   rwa [e] at this
theorem ulz (J : Int → Int) (hJ : ∀ k, 0 ≤ J k ∧ J k ≤ 5) (f : Int × Int → Int) : ∀ (ps O : List (Int × Int)), (∀ p ∈ ps, f p = J p.1) → Fit O →
  Fit (ps.foldl (fun O p => wlz O p.1 (f p)) O) ∧ ∀ k, get (ps.foldl (fun O p => wlz O p.1 (f p)) O) k = if k ∈ ps.map Prod.fst then J k else get O k := by
 intro ps
 induction ps with
 | nil => intro O _ hO; exact ⟨hO, fun k => by simp⟩
 | cons p r ih =>
  intro O hf hO
  have hp := hf p (by simp)
  obtain ⟨h1, h2⟩ := vsz hO (c := p.1) (l := f p) (by rw [hp]; exact hJ p.1)
  obtain ⟨i1, i2⟩ := ih (wlz O p.1 (f p)) (fun q hq => hf q (by simp [hq])) h1
  refine ⟨i1, fun k => ?_⟩
  simp only [List.foldl_cons]
  rw [i2, h2, hp]
  rw [List.map_cons]
  by_cases hm : k ∈ r.map Prod.fst
  ·rw [if_pos hm, if_pos (List.mem_cons_of_mem _ hm)]
  ·rw [if_neg hm]
   by_cases hk : k = p.1
   ·subst hk; rw [if_pos rfl, if_pos (List.mem_cons_self)]
   ·rw [if_neg hk, if_neg (fun h => (List.mem_cons.1 h).elim hk hm)]
theorem u5z {k : Int} (h : k ∉ L.map Prod.fst) : get L k = 2 := by
 by_cases hk : get L k = 2
 ·exact hk
 ·obtain ⟨p, hp, e, _⟩ := xSz hk
  exact absurd (List.mem_map.2 ⟨p, hp, e⟩) h
theorem rfold_eq {op : Int → Int → Int} (h2 : op 2 2 = 2) (hop : ∀ x y, 0 ≤ op x y ∧ op x y ≤ 5) (hA : Fit A) (hC : Fit C) : k2z op A C = xrz op (both A C) := by
 obtain ⟨b, rA⟩ := hA.rc
 obtain ⟨b', rC⟩ := hC.rc
 have hJ : ∀ k, 0 ≤ op (get A k) (get C k) ∧ op (get A k) (get C k) ≤ 5 := fun k => hop _ _
 obtain ⟨f1, g1⟩ := ulz (fun k => op (get A k) (get C k)) hJ (fun p => op p.2 (get C p.1)) A A (fun p hp => by rw [kEz rA hp]) hA
 obtain ⟨f2, g2⟩ := ulz (fun k => op (get A k) (get C k)) hJ (fun q => op (get A q.1) q.2) C _ (fun q hq => by rw [kEz rC hq]) f1
 have e : k2z op A C = C.foldl (fun O q => wlz O q.1 (op (get A q.1) q.2)) (A.foldl (fun O p => wlz O p.1 (op p.2 (get C p.1))) A) := by
  unfold k2z rj2 rj1
  rw [List.take_length, List.take_length]
 rw [e]
 refine ext f2 (jwz (h := fun _ x y => op x y) (fun _ => h2) rA rC hJ) fun k => ?_
 rw [g2, g1]
 refine Eq.trans ?_ (v7z (h := fun _ x y => op x y) (fun _ => h2) rA rC k).symm
 by_cases h1 : k ∈ C.map Prod.fst
 ·rw [if_pos h1]
 ·rw [if_neg h1]
  by_cases h3 : k ∈ A.map Prod.fst
  ·rw [if_pos h3]
  ·rw [if_neg h3, u5z h3, u5z h1, h2]
theorem rjoin_eq (hA : Fit A) (hC : Fit C) : k2z Lv.join A C = yHz A C := rfold_eq (by decide) (fun x y => ⟨Lv.join_lo x y, Lv.join_hi x y⟩) hA hC
theorem rmap_get {op : Int → Int} (h2 : op 2 = 2) (A : List (Int × Int)) (k : Int) : get (xyz op A) k = op (get A k) := by
 induction A with
 | nil => exact h2.symm
 | cons p r ih =>
  show get ((p.1, op p.2) :: xyz op r) k = _
  simp only [get]
  split
  ·rfl
  ·exact ih
theorem rmap_rc {op : Int → Int} : ∀ {A : List (Int × Int)} {b : Int}, Rc b A → Rc b (xyz op A) := by
 intro A
 induction A with
 | nil => intro b _; trivial
 | cons p r ih => intro b h; exact ⟨h.1, ih h.2⟩
theorem upz {A : List (Int × Int)} (hA : Fit A) : xyz Lv.raise A = wAz A := by
 obtain ⟨b, rA⟩ := hA.rc
 refine ext ⟨⟨b, rmap_rc rA⟩, fun p hp => ?_⟩ (k3z hA) fun k => ?_
 ·obtain ⟨q, hq, rfl⟩ := List.mem_map.1 hp
  have h := hA.2 q hq
  show lok (Lv.raise q.2)
  unfold Lv.raise
  rw [Lv.lv_of h.1 h.2.1]
  split
  ·exact ⟨by omega, by omega, by omega⟩
  ·exact h
 ·have h1 := hA.range k
  rw [rmap_get (by decide), yDz hA]
  unfold Lv.raise
  rw [Lv.lv_of h1.1 h1.2]
end
end Go.Proofs.YtdeddhojjolihaaGreat
