/-
 PROVED HERE: what the questions of package check answer when they are asked (contracts over this translation); what a row o. What is asked stands at each.
-/
import Derived.Deep.RegionHeld3
import Derived.Laws.EntriesVeiled
import Derived.Test.YtnhjfjhbmekamaaGreatZ8
import Derived.Test.YtnhjfjhbmekamaaGreatZ23
import Derived.Test.YtnhjfjhbmekamaaGreatZ24
namespace Go.Proofs.YtnhjfjhbmekamaaGreat.CkM
set_option maxRecDepth 100000
set_option maxHeartbeats 8000000
open Go.ChangeShapes Go.WideShapes Go.ChangeAt Go.RowKit
set_option linter.unusedVariables false

def LRow (w : World) (b : Nat) (ls : List (Option Addr × Nat × Nat × List (Int × Int))) : Prop :=
 b < w.heap.size ∧ (∀ i, i < ls.length → w.cell? ⟨b, i, none⟩ = some (.slice (ls.getD i (none, 0, 0, [])).1 (ls.getD i (none, 0, 0, [])).2.1 (ls.getD i (none, 0, 0, [])).2.2.1)) ∧ Labs w ls
theorem LRow.next {w w' : World} {b : Nat} {ls : List (Option Addr × Nat × Nat × List (Int × Int))} (h : LRow w b ls) (k : Below w.heap.size w w') : LRow w' b ls :=
 ⟨Nat.lt_of_lt_of_le h.1 k.size, fun i hi => (k.cell (p := ⟨b, i, none⟩) h.1).trans (h.2.1 i hi), h.2.2.next k⟩
theorem LRow.at {w : World} {b : Nat} {ls : List (Option Addr × Nat × Nat × List (Int × Int))} (h : LRow w b ls) {i : Nat} (hi : i < ls.length) :
  ∃ ao n cap L, w.cell? ⟨b, i, none⟩ = some (.slice ao n cap) ∧ Lab w.heap.size w ao n cap L ∧ Hid (ls.getD i (none, 0, 0, []) = (ao, n, cap, L)) := by
 obtain ⟨ao, n, cap, L, e⟩ : ∃ ao n cap L, ls.getD i (none, 0, 0, []) = (ao, n, cap, L) := ⟨_, _, _, _, rfl⟩
 have hc := h.2.1 i hi
 rw [e] at hc
 refine ⟨ao, n, cap, L, hc, ?_, e⟩
 have hm : ls.getD i (none, 0, 0, []) ∈ ls := by
  rw [List.getD_eq_getElem?_getD, List.getElem?_eq_getElem hi]
  exact List.getElem_mem hi
 have := h.2.2 _ hm
 rw [e] at this
 exact this

def labOf (ls : List (Option Addr × Nat × Nat × List (Int × Int))) (i : Nat) : List (Int × Int) := (ls.getD i (none, 0, 0, [])).2.2.2

def risB (ls : List (Option Addr × Nat × Nat × List (Int × Int))) : Bool := (List.range (ls.length - 1)).all fun j => leqB (labOf ls j) (labOf ls (j + 1))
theorem risB_no {ls : List (Option Addr × Nat × Nat × List (Int × Int))} {j : Nat} (hj : j + 1 < ls.length) (h : leqB (labOf ls j) (labOf ls (j + 1)) = false) : risB ls = false := by
 unfold risB
 rw [List.all_eq_false]
 exact ⟨j, List.mem_range.2 (by omega), by rw [h]; simp⟩
theorem risB_yes {ls : List (Option Addr × Nat × Nat × List (Int × Int))} (h : ∀ j, j + 1 < ls.length → leqB (labOf ls j) (labOf ls (j + 1)) = true) : risB ls = true := by
 unfold risB
 rw [List.all_eq_true]
 intro j hj
 exact h j (by have := List.mem_range.1 hj; omega)

theorem rising1_any {w : World} {Bx b m : Nat} {ls : List (Option Addr × Nat × Nat × List (Int × Int))} (hm : ls.length = m) (h1 : 1 ≤ m) (hmm : m < 100) (hbx : w.cell? ⟨Bx, 0, none⟩ = some (.slice (some ⟨b, 0, none⟩) m m)) (hbl : Bx < w.heap.size) (hR : LRow w b ls) :
  Calls Tryz.prog 151 #[.pointer (some ⟨Bx, 0, none⟩)] w fun e w' => e = .returned (.bool (risB ls)) ∧ Below w.heap.size w w' := by
 go_enter Tryz.func151, Tryz.ntmps151
 go_wp2
 go_loopw [2] (fun i wr => ∃ j : Nat, j + 1 ≤ m ∧ i = .int .i64 ((j + 1 : Nat) : Int) ∧ (∀ t, t < j → leqB (labOf ls t) (labOf ls (t + 1)) = true) ∧ Below w.heap.size w wr) (fun i _ => m - (intOf i).toNat)
 case atStart => exact ⟨0, by omega, rfl, fun j hj => absurd hj (by omega), Below.refl _ _⟩
 case round =>
  obtain ⟨j, hj, rfl, hg, hb⟩ := hrel
  have hG : Hid (∀ t, t < j → leqB (labOf ls t) (labOf ls (t + 1)) = true) := hg
  clear hg
  have hbs := hb.size
  have cb := (hb.cell (p := ⟨Bx, 0, none⟩) hbl).trans hbx
  by_cases hjm : j + 1 < m
  ·obtain ⟨ao, n, cap, L, d0, hL, e0⟩ := (hR.next hb.drew).at (i := j) (by omega)
   obtain ⟨ao', n', cap', L', d1, hL', e1⟩ := (hR.next hb.drew).at (i := j + 1) (by omega)
   have hwm : IntKind.i64.wrap (((j + 1 : Nat) : Int) - 1) = j := by rw [IntKind.wrap_i64]; omega
   obtain ⟨k, hk⟩ : ∃ k, Hid (j + 1 = k) := ⟨_, rfl⟩
   rw [hk.out] at hwm d1 e1 hjm
   have hjm' : (k : Int) < m := by omega
   have hjm2 : (j : Int) < m := by omega
   have hl : Hid (leqB (labOf ls j) (labOf ls (j + 1)) = leqB L L') := by unfold labOf; rw [hk.out, e0.out, e1.out]; rfl
   rw [hk.out]
   clear hR
   cases hq : leqB L L' with
   | false =>
    have hr : Hid (risB ls = false) := risB_no (j := j) (by have := hk.out; omega) (by rw [hl.out, hq])
    go_wp2
    go_region_held3 (fun w' => w'.cell? ⟨Bx, 0, none⟩ = some (.slice (some ⟨b, 0, none⟩) m m) ∧ w'.cell? ⟨b, j, none⟩ = some (.slice ao n cap) ∧ w'.cell? ⟨b, k, none⟩ = some (.slice ao' n' cap')) (go_keep) (first | (go_at_call 152; refine (lleq_any (B := 0) hL hL').mono ?_; rintro e w1 ⟨rfl, hb1⟩; have f0 := cell_later hb1 cb; have f1 := cell_later hb1 d0; have f2 := cell_later hb1 d1))
    go_wp2
    go_ret
    exact ⟨by rw [hr.out]; rfl, hb.drew.trans (hb1.mono hbs)⟩
   | true =>
    have hG' : Hid (∀ t, t < j + 1 → leqB (labOf ls t) (labOf ls (t + 1)) = true) := by
     intro t ht
     rcases Nat.lt_or_ge t j with h | h
     ·exact hG.out t h
     ·have : t = j := by omega
      rw [this, hl.out, hq]
    go_wp2
    go_region_held3 (fun w' => w'.cell? ⟨Bx, 0, none⟩ = some (.slice (some ⟨b, 0, none⟩) m m) ∧ w'.cell? ⟨b, j, none⟩ = some (.slice ao n cap) ∧ w'.cell? ⟨b, k, none⟩ = some (.slice ao' n' cap')) (go_keep) (first | (go_at_call 152; refine (lleq_any (B := 0) hL hL').mono ?_; rintro e w1 ⟨rfl, hb1⟩; have f0 := cell_later hb1 cb; have f1 := cell_later hb1 d0; have f2 := cell_later hb1 d1))
    go_wp2
    go_roundw
    case rel => exact ⟨j + 1, by have := hk.out; omega, by rw [hk.out]; go_num, hG'.out, hb.drew.trans (hb1.mono hbs)⟩
    case measure => have := hk.out; simp [intOf]; omega
  ·have hr : Hid (risB ls = true) := risB_yes (fun t ht => hG.out t (by omega))
   have hj1 : j + 1 = m := by omega
   clear hR
   subst hj1
   go_wp2
   go_ret
   exact ⟨by rw [hr.out]; rfl, hb⟩
end Go.Proofs.YtnhjfjhbmekamaaGreat.CkM
namespace Go.Proofs.YtnhjfjhbmekamaaGreat.CkM
set_option maxRecDepth 100000
set_option maxHeartbeats 8000000
open Go.ChangeShapes Go.WideShapes Go.ChangeAt Go.RowKit
set_option linter.unusedVariables false

def Asks (w : World) (q : Value) (v : Bool) : Prop := ∃ (g : Nat) (lb : Array Value), q = .func (.func g) #[] lb ∧ (∀ args w, (callFunc g args).run Tryz.prog w = .ok (.enter g args) w) ∧
 ∀ W, Below w.heap.size w W → Calls Tryz.prog g lb W fun e W' => e = .returned (.bool v) ∧ Below W.heap.size W W'
theorem Asks.next {w w' : World} {q : Value} {v : Bool} (h : Asks w q v) (k : Below w.heap.size w w') : Asks w' q v := by
 obtain ⟨g, lb, e, eg, hc⟩ := h
 exact ⟨g, lb, e, eg, fun W hW => hc W (k.trans (hW.mono k.size))⟩

def QRow (w : World) (b : Nat) (qs : List (Value × Bool)) : Prop :=
 b < w.heap.size ∧ ∀ i, i < qs.length → w.cell? ⟨b, i, none⟩ = some (qs.getD i (undef, false)).1 ∧ Asks w (qs.getD i (undef, false)).1 (qs.getD i (undef, false)).2
theorem QRow.at {w W : World} {b : Nat} {qs : List (Value × Bool)} (h : QRow w b qs) (k : Below w.heap.size w W) {i : Nat} (hi : i < qs.length) :
  ∃ (g : Nat) (lb : Array Value) (v : Bool), W.cell? ⟨b, i, none⟩ = some (.func (.func g) #[] lb) ∧ (∀ args w, (callFunc g args).run Tryz.prog w = .ok (.enter g args) w) ∧
   (Calls Tryz.prog g lb W fun e W' => e = .returned (.bool v) ∧ Below W.heap.size W W') ∧ Hid ((qs.getD i (undef, false)).2 = v) := by
 obtain ⟨hc, g, lb, e, eg, hq⟩ := h.2 i hi
 refine ⟨g, lb, _, ?_, eg, hq W k, rfl⟩
 rw [← e]
 exact (k.cell (p := ⟨b, i, none⟩) h.1).trans hc

def allQ (qs : List (Value × Bool)) : Bool := qs.all (·.2)
theorem allQ_no {qs : List (Value × Bool)} {i : Nat} (hi : i < qs.length) (h : (qs.getD i (undef, false)).2 = false) : allQ qs = false := by
 unfold allQ
 rw [List.all_eq_false]
 refine ⟨qs[i], List.getElem_mem hi, ?_⟩
 rw [List.getD_eq_getElem?_getD, List.getElem?_eq_getElem hi] at h
 simpa using h
theorem allQ_yes {qs : List (Value × Bool)} (h : ∀ i, i < qs.length → (qs.getD i (undef, false)).2 = true) : allQ qs = true := by
 unfold allQ
 rw [List.all_eq_true]
 intro x hx
 obtain ⟨i, hi, rfl⟩ := List.getElem_of_mem hx
 have := h i hi
 rw [List.getD_eq_getElem?_getD, List.getElem?_eq_getElem hi] at this
 simpa using this

theorem holds_any {w : World} {b m : Nat} {qs : List (Value × Bool)} (hm : qs.length = m) (hmm : m < 100) (hQ : QRow w b qs) :
  Calls Tryz.prog 119 #[.slice (some ⟨b, 0, none⟩) m m] w fun e w' => e = .returned (.bool (allQ qs)) ∧ Below w.heap.size w w' := by
 go_enter Tryz.func119, Tryz.ntmps119
 go_wp2
 go_loopw [7] (fun i wr => ∃ k : Nat, k ≤ m ∧ i = .int .i64 k ∧ (∀ j, j < k → (qs.getD j (undef, false)).2 = true) ∧ Below w.heap.size w wr) (fun i _ => m - (intOf i).toNat)
 case atStart => exact ⟨0, Nat.zero_le _, rfl, fun j hj => absurd hj (by omega), Below.refl _ _⟩
 case round =>
  obtain ⟨k, hk, rfl, hg, hb⟩ := hrel
  have hG : Hid (∀ j, j < k → (qs.getD j (undef, false)).2 = true) := hg
  clear hg
  have hbs := hb.size
  by_cases hkm : k < m
  ·obtain ⟨g, lb, v, d0, eg, hc, hv⟩ := hQ.at hb (i := k) (by omega)
   clear hQ
   cases v with
   | false =>
    have hr : Hid (allQ qs = false) := allQ_no (i := k) (by omega) hv.out
    go_wp2_with (refine Calls.mono (by simpa using hc) ?_; rintro e w1 ⟨rfl, hb1⟩)
    go_ret
    exact ⟨by rw [hr.out]; rfl, hb.trans (hb1.mono hbs)⟩
   | true =>
    have hG' : Hid (∀ j, j < k + 1 → (qs.getD j (undef, false)).2 = true) := by
     intro j hj
     rcases Nat.lt_or_ge j k with h | h
     ·exact hG.out j h
     ·have : j = k := by omega
      rw [this]; exact hv.out
    go_wp2_with (refine Calls.mono (by simpa using hc) ?_; rintro e w1 ⟨rfl, hb1⟩)
    go_roundw
    case rel => exact ⟨k + 1, by omega, by go_num, hG'.out, hb.trans (hb1.mono hbs)⟩
    case measure => simp [intOf]; omega
  ·have hr : Hid (allQ qs = true) := allQ_yes (fun j hj => hG.out j (by omega))
   clear hQ
   go_wp2
   go_ret
   exact ⟨by rw [hr.out]; rfl, hb⟩

theorem cell_lit {w : World} {t : TypeId} (xs : List Value) {i : Nat} {v : Value} (h : xs[i]? = some v) : (w.alloc (.cells xs.toArray t)).cell? ⟨w.heap.size, i, none⟩ = some v := by
 have h2 := World.alloc_heap_new w (.cells xs.toArray t)
 unfold World.cell?
 rw [h2]
 simp [h]
theorem qrow_new {w : World} {t : TypeId} (qs : List (Value × Bool)) (h : ∀ x ∈ qs, Asks w x.1 x.2) : QRow (w.alloc (.cells (qs.map (·.1)).toArray t)) w.heap.size qs := by
 have k := (Below.refl w.heap.size w).alloc (Nat.le_refl _) (.cells (qs.map (·.1)).toArray t)
 refine ⟨by simp, fun i hi => ?_⟩
 have e : qs.getD i (undef, false) = qs[i] := by rw [List.getD_eq_getElem?_getD, List.getElem?_eq_getElem hi]; rfl
 rw [e]
 exact ⟨cell_lit _ (by simp [hi]), (h _ (List.getElem_mem hi)).next k⟩
theorem lrow_new {w : World} {t : TypeId} (ls : List (Option Addr × Nat × Nat × List (Int × Int))) (h : Labs w ls) : LRow (w.alloc (.cells (ls.map fun x => Value.slice x.1 x.2.1 x.2.2.1).toArray t)) w.heap.size ls := by
 have k := (Below.refl w.heap.size w).alloc (Nat.le_refl _) (.cells (ls.map fun x => Value.slice x.1 x.2.1 x.2.2.1).toArray t)
 refine ⟨by simp, fun i hi => ?_, h.next k⟩
 have e : ls.getD i (none, 0, 0, []) = ls[i] := by rw [List.getD_eq_getElem?_getD, List.getElem?_eq_getElem hi]; rfl
 rw [e]
 exact cell_lit _ (by simp [hi])
theorem below_new (w : World) (o : Obj) {w' : World} (h : Below (w.alloc o).heap.size (w.alloc o) w') : Below w.heap.size w w' := ((Below.refl w.heap.size w).alloc (Nat.le_refl _) o).trans (h.mono (by simp))

theorem holds1_any (w : World) {q : Value} {v : Bool} (h : Asks w q v) :
  Calls Tryz.prog 119 #[.slice (some ⟨w.heap.size, 0, none⟩) 1 1] (w.alloc (.cells #[q] 139)) fun e w' => e = .returned (.bool v) ∧ Below w.heap.size w w' := by
 refine (holds_any (m := 1) (qs := [(q, v)]) rfl (by omega) (qrow_new [(q, v)] (by intro x hx; simp at hx; subst hx; exact h))).mono ?_
 rintro e w' ⟨rfl, hb⟩
 exact ⟨by simp [allQ], below_new _ _ hb⟩
theorem rising_any {w : World} {b m : Nat} {ls : List (Option Addr × Nat × Nat × List (Int × Int))} (hm : ls.length = m) (h1 : 1 ≤ m) (hmm : m < 100) (hR : LRow w b ls) :
  Calls Tryz.prog 120 #[.slice (some ⟨b, 0, none⟩) m m] w fun e w' => ∃ q, e = .returned q ∧ Asks w' q (risB ls) ∧ Below w.heap.size w w' := by
 have hB := (Below.refl w.heap.size w).alloc (Nat.le_refl _) (.cells #[.slice (some ⟨b, 0, none⟩) m m] 157)
 have bx := Boxed.new w 157 (.slice (some ⟨b, 0, none⟩) m m)
 go_enter Tryz.func120, Tryz.ntmps120
 go_wp2
 go_ret
 refine ⟨_, rfl, ⟨151, _, rfl, enters_of Tryz.func151 (by kernel_rfl) rfl, fun W hW => ?_⟩, hB⟩
 exact rising1_any hm h1 hmm (cell_later hW bx.cell) (Nat.lt_of_lt_of_le bx.lt hW.size) ((hR.next hB).next hW)

end Go.Proofs.YtnhjfjhbmekamaaGreat.CkM
namespace Go.Proofs.YtnhjfjhbmekamaaGreat.CkM
set_option maxRecDepth 100000
set_option maxHeartbeats 8000000
open Go.ChangeShapes Go.WideShapes Go.ChangeAt Go.RowKit
set_option linter.unusedVariables false

theorem rising2_any (w : World) {a1 a2 : Option Addr} {n1 n2 c1 c2 : Nat} {A1 A2 : List (Int × Int)} (h1 : Lab w.heap.size w a1 n1 c1 A1) (h2 : Lab w.heap.size w a2 n2 c2 A2) :
  Calls Tryz.prog 120 #[.slice (some ⟨w.heap.size, 0, none⟩) 2 2] (w.alloc (.cells #[.slice a1 n1 c1, .slice a2 n2 c2] 27)) fun e w' => ∃ q, e = .returned q ∧ Asks w' q (leqB A1 A2) ∧ Below w.heap.size w w' := by
 refine (rising_any (m := 2) (ls := [(a1, n1, c1, A1), (a2, n2, c2, A2)]) rfl (by omega) (by omega) (lrow_new [(a1, n1, c1, A1), (a2, n2, c2, A2)] (((Labs.nil w).push h2).push h1))).mono ?_
 rintro e w' ⟨q, rfl, ha, hb⟩
 refine ⟨q, rfl, ?_, below_new _ _ hb⟩
 have e : risB [(a1, n1, c1, A1), (a2, n2, c2, A2)] = leqB A1 A2 := by simp [risB, labOf]
 rw [e] at ha
 exact ha
end Go.Proofs.YtnhjfjhbmekamaaGreat.CkM
namespace Go.Proofs.YtnhjfjhbmekamaaGreat.CkM
set_option maxRecDepth 100000
set_option maxHeartbeats 8000000
open Go.ChangeShapes Go.WideShapes Go.ChangeAt Go.RowKit
set_option linter.unusedVariables false

theorem place_any {w : World} {aD aO : Option Addr} {nD cD nO cO : Nat} {D O : List (Int × Int)} (hD : Lab w.heap.size w aD nD cD D) (hO : Lab w.heap.size w aO nO cO O) (kD : nD < 1048576) (kO : nO < 1048576) :
  Calls Tryz.prog 93 #[.slice aD nD cD, .slice aO nO cO] w fun e w' => e = .returned (.bool (leqB D (joinL (raiseL O) []))) ∧ Below w.heap.size w w' := by
 have hB := Below.refl w.heap.size w
 go_enter Tryz.func93, Tryz.ntmps93
 go_wp2_with (first | (go_at_call 122; refine (lraise_b hO (by omega)).mono ?_; rintro e w1 ⟨aR, nR, cR, rfl, hl, knR, kb⟩; replace hD := hD.next kb; replace hO := hO.next kb; replace hB := hB.trans (kb.mono hB.size); have hR := hl; clear hl kb) | (go_at_call 121; refine (ljoin_b hR (Lab.nil _ _) (by omega) (by omega)).mono ?_; rintro e w1 ⟨aJ, nJ, cJ, rfl, hl, knJ, kb⟩; replace hD := hD.next kb; replace hO := hO.next kb; replace hR := hR.next kb; replace hB := hB.trans (kb.mono hB.size); have hJ := hl; clear hl kb) | (go_at_call 120; refine (rising2_any _ hD hJ).mono ?_; rintro e w1 ⟨q1, rfl, hq, kb⟩; replace hD := hD.next kb; replace hO := hO.next kb; replace hR := hR.next kb; replace hJ := hJ.next kb; replace hB := hB.trans (kb.mono hB.size); have hq1 := hq; clear hq kb; obtain ⟨g1, l1, rfl, _, _⟩ := id hq1) | (go_at_call 119; refine (holds1_any _ hq1).mono ?_; rintro e w1 ⟨rfl, kb⟩; replace hB := hB.trans (kb.mono hB.size)))
 go_ret
 exact ⟨rfl, hB⟩
end Go.Proofs.YtnhjfjhbmekamaaGreat.CkM
namespace Go.Proofs.YtnhjfjhbmekamaaGreat
set_option maxRecDepth 100000
set_option maxHeartbeats 8000000
open Go.RowKit Go.Shelf
set_option linter.unusedVariables false
attribute [local go_sem] Oper.semAt_some

theorem kf_below {W W' : World} (k : Below W.heap.size W W') (B : Nat) : KeepsFrom B W W' := ⟨k.size, fun i o _ hi _ => (k.block i (Array.getElem?_eq_some_iff.1 hi).1).trans hi⟩
def plcB (D O : Lb) : Bool := leqB D (joinL (raiseL O) [])
def keepB (X : List Ob) (o : Ob) : Bool := ((hitO X o.links).all fun m => plcB o.label (oat X m).label) && (decide ((hitO X o.links).length = o.links.length) && decide (0 ≤ o.quota - (pagO o + (o.links.map (qOf X)).sum)))
theorem keeps_v {w : World} {t ke ro : Int} {ao : Option Addr} {n cap : Nat} {X : List Ob} {Cf : Nat → Array Value} {C : Array Value} {o : Ob} (h : ObsF (LtN w) (LtN w) w ao n cap X Cf) (hs : Srt X) (hn16 : n ≤ 4096) (hq : ∀ x ∈ X, 0 ≤ x.quota ∧ x.quota ≤ 4096) (hlb : ∀ x ∈ X, x.label.length < 1048576) (ho : ObD (LtN w) w C o) (hsm : Small o) (hoq : 0 ≤ o.quota ∧ o.quota ≤ 4096) (hol : o.label.length < 1048576) : Calls Tryz.prog 75 #[.agg #[.int .i64 t, .int .u64 ke, .int .u64 ro, .slice ao n cap], .agg C] w fun e w' => e = .returned (.bool (keepB X o)) ∧ Below w.heap.size w w' := by
 have hz := ho.size
 obtain ⟨al, nl, cl, c5, hL⟩ := ho.links
 have hzv : (Tryz.prog.info? 70).map (·.size) = some (#[.int .i64 t, .int .u64 ke, .int .u64 ro, .slice ao n cap] : Array Value).size := by kernel_rfl
 have hus := fun (W : World) (hk : Below w.heap.size w W) => room_v (t := t) (ke := ke) (ro := ro) (h.next hk) hs hn16 hq (ho.next hk) hsm hoq
 obtain ⟨G, hG⟩ : ∃ G : Array Value, Hid (G = #[.int .i64 t, .int .u64 ke, .int .u64 ro, .slice ao n cap]) := ⟨_, rfl⟩
 rw [← hG.out] at hzv hus
 rw [← hG.out]
 refine (callsIn_wide (n := 5)).1 ?_
 refine callsIn_of_wp_marks Tryz.func75 rfl trivial ?_ rfl
 simp only [Tryz.ntmps75, List.size_toArray, List.length_cons, List.length_nil, Nat.reduceAdd, Nat.reduceSub, Array.replicate_succ, Array.replicate_zero, List.push_toArray, List.append_toArray, List.nil_append, List.cons_append]
 obtain ⟨aD, nD, cD, c2, hLD⟩ := ho.label
 gi_wp2_with (first
  | (with_reducible refine inL_box (fun _ => trivial) (by kernel_rfl) _ _ rfl G rfl ?_; intro B2 W2 hN2 hB2 hk)
  | (with_reducible refine inL_box (fun _ => trivial) (by kernel_rfl) _ _ rfl C rfl ?_; intro B3 W3 hN3 hB3 hk3; replace hB2 := hB2.next hk3; replace hk := hk.trans (hk3.mono hk.size); have hka := ((Below.refl W3.heap.size W3).alloc (Nat.le_refl _) (.cells #[.bool false] 4)).alloc (by simp) (.cells #[.int .i64 0] 3); have hR1 := (Boxed.new W3 4 (.bool false)).alloc (.cells #[.int .i64 0] 3); have hU1 := Boxed.new (W3.alloc (.cells #[.bool false] 4)) 3 (.int .i64 0); have hB2a := hB2.next hka; have hB3a := hB3.next hka; have hkw := hk.trans (hka.mono hk.size))
  | (with_reducible refine inL_loadb (fun _ => trivial) (by kernel_rfl) _ _ rfl B3 rfl C _ hB3a _ Tryz.underlying43 (by kernel_rfl) (size40C hz) ?_)
  | (with_reducible refine inL_loadb (fun _ => trivial) (by kernel_rfl) _ _ rfl B2 rfl G _ hB2a _ Tryz.underlying70 (by kernel_rfl) hzv ?_)
  | (refine ⟨trivial, ?_⟩; gi_at_call 74; (with_reducible refine (callsIn_wide.2 inside_any).mono ?_); rintro e w2 ⟨Bv, Bd, rfl, hBv, hBd, hvd, hv1, hd1, hb2⟩))
 have hwZ : w.heap.size ≤ W3.heap.size := hk.size
 have hsz : ((W3.alloc (.cells #[.bool false] 4)).alloc (.cells #[.int .i64 0] 3)).heap.size = W3.heap.size + 2 := by simp
 rw [show (W3.alloc (.cells #[.bool false] 4)).heap.size = W3.heap.size + 1 by simp] at hU1
 rw [hsz] at hv1 hd1 hb2
 have hU2 : Boxed w2 (W3.heap.size + 1) 3 (.int .i64 0) := (hb2.block _ (by omega)).trans hU1
 have hR2 : Boxed w2 W3.heap.size 4 (.bool false) := (hb2.block _ (by omega)).trans hR1
 have hk2 : Below w.heap.size w w2 := hkw.trans (hb2.mono (by omega))
 have hb2l : B2 < W3.heap.size := hB2.lt
 have hb3l : B3 < W3.heap.size := hB3.lt
 have hB2' : Blk w2 B2 G 70 := (hb2.block _ (by omega)).trans hB2a
 have hB3' : Blk w2 B3 C 43 := (hb2.block _ (by omega)).trans hB3a
 generalize W3.heap.size = Z at hwZ hv1 hd1 hU2 hR2 hb2l hb3l ⊢
 clear hU1 hR1 hB2a hB3a hka hkw hb2 hB2 hB3 hk hk3 hN2 hN3 hsz
 have hZ2 : Z ≤ w2.heap.size := by have := hBd.lt; omega
 have hD : ∀ b, (b < Z ∨ b = Bd ∨ b = Bv) → b < w2.heap.size := fun b hb => by
  rcases hb with q | q | q
  ·exact Nat.lt_of_lt_of_le q hZ2
  ·rw [q]; exact hBd.lt
  ·rw [q]; exact hBv.lt
 have hX2 : ObsF (fun b => b < Z ∨ b = Bd ∨ b = Bv) (fun b => b < Z ∨ b = Bd ∨ b = Bv) w2 ao n cap X Cf := (h.laterK (fun b hb => hk2.block b hb) (fun b hb => hk2.block b hb)).wide (fun b hb => .inl (Nat.lt_of_lt_of_le hb hwZ)) (fun b hb => .inl (Nat.lt_of_lt_of_le hb hwZ))
 have hL2 : CtD (fun b => b < Z ∨ b = Bd ∨ b = Bv) w2 al nl cl o.links := (hL.laterK fun b hb => hk2.block b hb).wide fun b hb => .inl (Nat.lt_of_lt_of_le hb hwZ)
 have hnl : o.links.length = nl := hL.1
 refine wpIn_rangeFunc_ownH rfl (by omega) (gf := 110) (lb := #[.pointer (some ⟨Bd, 0, none⟩), .pointer (some ⟨Bv, 0, none⟩)]) rfl trivial (enters_of Tryz.func110 (by kernel_rfl) rfl)
  (inside_stops _ (by omega) Bd Bv (fun b => b < Z ∨ b = Bd ∨ b = Bv) hs hn16 w2 hD (.inr (.inl rfl)) (.inr (.inr rfl)) hBd c5 (by rw [← hG.out]; exact hBv) hX2 hL2) keepsK_t (keepsK_b hD) (Below.refl _ _) (fun _ => rfl)
  (fun pre W => ((pre.all fun m => plcB o.label (oat X m).label) = true ∧ Boxed W (Z + 1) 3 (.int .i64 (pre.length : Int)) ∧ Boxed W Z 4 (.bool false)) ∧ Below Z w2 W)
  (fun cd pre W => (cd = .ret ∧ (pre.all fun m => plcB o.label (oat X m).label) = false ∧ Boxed W Z 4 (.bool false)) ∧ Below Z w2 W)
  (OwnFrom.and (OwnFrom.and (ownFrom_pure _ _) (OwnFrom.and (Own.from (boxed_own _ _ _) _) (Own.from (boxed_own _ _ _) _))) (ownFrom_below hZ2 hZ2))
  (fun cd => OwnFrom.and (OwnFrom.and (ownFrom_pure _ _) (OwnFrom.and (ownFrom_pure _ _) (Own.from (boxed_own _ _ _) _))) (ownFrom_below hZ2 hZ2))
  ⟨⟨rfl, by simpa using hU2, hR2⟩, Below.refl _ _⟩
  (fun x a2 W => ∃ R, a2 = { tmps := #[.agg G, .agg C, .pointer (some ⟨B2, 0, none⟩), .pointer (some ⟨B3, 0, none⟩), .pointer (some ⟨Z, 0, none⟩), .pointer (some ⟨Z + 1, 0, none⟩), .pointer (some ⟨R, 0, none⟩), .agg G, .agg C, .func (.func 110) #[] #[.pointer (some ⟨Bd, 0, none⟩), .pointer (some ⟨Bv, 0, none⟩)], .agg (cfo X Cf x), undef, undef, undef, undef, undef, undef, undef, undef, undef, undef, undef, undef, undef, undef, undef, undef, undef, undef, undef], defers := [] } ∧ Blk W R (cfo X Cf x) 43 ∧ R ≠ Z ∧ R ≠ Z + 1)
  (fun x a2 s A B row ⟨R, e, hb, hn⟩ hg hr => ⟨R, e, hb.own hg (fun r q => (hr r q).2), hn⟩)
  ?assign ?body ?done ?stop
 case assign =>
  rintro l pre x W K ⟨⟨hI0, hI1, hI3⟩, hI2⟩ hK
  have hco := cfo_ob h x
  dsimp only [encO]
  generalize cfo X Cf x = Cx at hco hK ⊢
  refine (fun (hh : ∀ T : Array Value, T = #[.agg G, .agg C, .pointer (some ⟨B2, 0, none⟩), .pointer (some ⟨B3, 0, none⟩), .pointer (some ⟨Z, 0, none⟩), .pointer (some ⟨Z + 1, 0, none⟩), undef, .agg G, .agg C, .func (.func 110) #[] #[.pointer (some ⟨Bd, 0, none⟩), .pointer (some ⟨Bv, 0, none⟩)], .agg Cx, undef, undef, undef, undef, undef, undef, undef, undef, undef, undef, undef, undef, undef, undef, undef, undef, undef, undef, undef] → Code.wpIn _ _ _ _ _ { tmps := T, defers := [] } W) => hh _ (by kernel_rfl)) ?_
  rintro T rfl
  have hsx := hco.size
  have h1x := hco.one
  clear hco
  gi_wp2_with (first
   | ((with_reducible refine inL_alloc (fun _ => trivial) (by kernel_rfl) _ rfl zC zero40 ?_); intro R W5 hN5 hR5 hk5)
   | ((with_reducible refine inL_store_blk (fun _ => trivial) (by kernel_rfl) _ _ _ rfl R rfl Cx rfl zC hR5 (size40C hsx) (zC_size.trans hsx.symm) h1x ?_); intro W6 hR6 o6))
  have kb : Below W.heap.size W W6 := o6.below W.heap.size W (by have := hN5.out; omega) hk5
  have hRU : R ≠ Z ∧ R ≠ Z + 1 := by have := hN5.out; have := hI1.lt; omega
  have hDW : ∀ b, (b < Z ∨ b = Bd ∨ b = Bv) → b < W.heap.size := fun b hb => Nat.lt_of_lt_of_le (hD b hb) hI2.size
  exact hK _ _ (kf_below kb _) ⟨kb.size, fun b hb => kb.block b (hDW b hb)⟩ ⟨⟨hI0, (kb.block _ hI1.lt).trans hI1, (kb.block _ hI3.lt).trans hI3⟩, hI2.trans (kb.mono (Nat.le_trans hZ2 hI2.size))⟩ ⟨R, rfl, hR6, hRU⟩
 case body =>
  rintro l pre x a2 W hl ⟨r2, hr2⟩ ⟨⟨hp, d1, d3⟩, hB1⟩ ⟨R, rfl, hR, hRU⟩ hlt
  have hco := cfo_ob h x
  have hkW : Below w.heap.size w W := hk2.trans (hB1.mono hwZ)
  obtain ⟨aO, nO, cO, cx2, hLO⟩ := hco.label
  have hlx : (oat X x).label.length < 1048576 := by
   by_cases q : x < X.length
   ·exact hlb _ (oat_mem q)
   ·have : oat X x = zOb := by unfold oat; rw [List.getD_eq_getElem?_getD, List.getElem?_eq_none (by omega)]; rfl
    rw [this]; decide
  have e2 : W.cell? ⟨R, 2, none⟩ = some (.slice aO nO cO) := (hR.cell 2).trans cx2
  have hB3w : Blk W B3 C 43 := (hB1.block _ hb3l).trans hB3'
  have e3 : W.cell? ⟨B3, 2, none⟩ = some (.slice aD nD cD) := (hB3w.cell 2).trans c2
  have hpl := CkM.place_any (Lab.next hLD hkW) (Lab.next hLO hkW) (by rw [← hLD.1]; exact hol) (by rw [← hLO.1]; exact hlx)
  generalize cfo X Cf x = Cx at hR ⊢
  have hle : (hitO X o.links).length ≤ o.links.length := List.length_filterMap_le ..
  have hlen := hsm.c5
  have hw : IntKind.i64.wrap ((pre.length : Int) + 1) = ((pre ++ [x]).length : Int) := by
   rw [List.length_append, IntKind.wrap_i64]
   simp only [List.length_cons, List.length_nil]
   omega
  change Calls Tryz.prog _ _ W fun e w' => e = .returned (.bool (plcB o.label (oat X x).label)) ∧ _ at hpl
  clear hle hlen hlx hLO cx2 hco hB3w
  cases hqp : plcB o.label (oat X x).label with
  | false =>
   rw [hqp] at hpl
   have hP : Hid (((pre ++ [x]).all fun m => plcB o.label (oat X m).label) = false) := by show ((pre ++ [x]).all fun m => plcB o.label (oat X m).label) = false; simp [hqp]
   clear hp hqp
   gi_wp2_with (refine ⟨trivial, ?_⟩; gi_at_call 93; refine (CallsIn.inRound l (callsIn_wide.2 hpl)).mono ?_; rintro e w' ⟨rfl, hb9⟩; have d3' : Boxed w' Z 4 (.bool false) := (hb9.block _ d3.lt).trans d3; have f3 := d3'.frozen; have g3 := d3'.cell)
   exact ⟨(kf_below hb9 _).trans ((KeepsOthers.setCell _ _ _).from _), ⟨rfl, hP.out, d3'.set _⟩, (hB1.trans (hb9.mono (Nat.le_trans hZ2 hB1.size))).setCell (p := ⟨Z, 0, none⟩) (Nat.le_refl _) _⟩
  | true =>
   rw [hqp] at hpl
   have hP : Hid (((pre ++ [x]).all fun m => plcB o.label (oat X m).label) = true) := by show ((pre ++ [x]).all fun m => plcB o.label (oat X m).label) = true; rw [List.all_append, hp]; simp [hqp]
   clear hp hqp
   gi_wp2_with (refine ⟨trivial, ?_⟩; gi_at_call 93; refine (CallsIn.inRound l (callsIn_wide.2 hpl)).mono ?_; rintro e w' ⟨rfl, hb9⟩; have d3' : Boxed w' Z 4 (.bool false) := (hb9.block _ d3.lt).trans d3; have d1' : Boxed w' (Z + 1) 3 (.int .i64 (pre.length : Int)) := (hb9.block _ d1.lt).trans d1; have f1 := d1'.frozen; have g1 := d1'.cell)
   have hDW : ∀ b, (b < Z ∨ b = Bd ∨ b = Bv) → b < W.heap.size := fun b hb => Nat.lt_of_lt_of_le (hD b hb) hB1.size
   exact ⟨(kf_below hb9 _).trans ((KeepsOthers.setCell _ _ _).from _), ⟨by simpa using hb9.size, fun b hb => (Below.heap_setCell _ _ _ _ (by show b ≠ Z + 1; rcases hb with q | q | q <;> omega)).trans (hb9.block b (hDW b hb))⟩, ⟨hP.out, by simpa [hw] using d1'.set _, (Below.heap_setCell _ _ _ _ (by show Z ≠ Z + 1; omega)).trans d3'⟩, (hB1.trans (hb9.mono (Nat.le_trans hZ2 hB1.size))).setCell (p := ⟨Z + 1, 0, none⟩) (by show Z ≤ Z + 1; omega) _⟩
 case done =>
  rintro D ys W hD rfl ⟨⟨hp, d1, d3⟩, hB⟩ hK
  have hkW : Below w.heap.size w W := hk2.trans (hB.mono hwZ)
  have hB2w : Blk W B2 G 70 := (hB.block _ hb2l).trans hB2'
  have hB3w : Blk W B3 C 43 := (hB.block _ hb3l).trans hB3'
  have e5 : W.cell? ⟨B3, 5, none⟩ = some (.slice al nl cl) := (hB3w.cell 5).trans c5
  have g1 := d1.cell
  have g3 := d3.cell
  have f3 := d3.frozen
  have hrm := hus W hkW
  have hkb : Hid (keepB X o = (decide ((hitO X o.links).length = nl) && decide (0 ≤ o.quota - (pagO o + (o.links.map (qOf X)).sum)))) := by show keepB X o = _; unfold keepB; rw [hp, hnl, Bool.true_and]
  generalize o.quota - (pagO o + (o.links.map (qOf X)).sum) = u at hrm hkb
  generalize (hitO X o.links).length = k at d1 g1 hkb
  have hDl : D < W.heap.size := (Array.getElem?_eq_some_iff.1 hK).1
  by_cases hkn : k = nl
  ·subst hkn
   gi_wp2_with (first
    | (with_reducible refine inL_loadb (fun _ => trivial) (by kernel_rfl) _ _ rfl B3 rfl C _ hB3w _ Tryz.underlying43 (by kernel_rfl) (size40C hz) ?_)
    | (with_reducible refine inL_loadb (fun _ => trivial) (by kernel_rfl) _ _ rfl B2 rfl G _ hB2w _ Tryz.underlying70 (by kernel_rfl) hzv ?_)
    | (refine ⟨trivial, ?_⟩; gi_at_call 54; (with_reducible refine (callsIn_wide.2 hrm).mono ?_); rintro e w9 ⟨rfl, hb9⟩; have d3' : Boxed w9 Z 4 (.bool false) := (hb9.block _ d3.lt).trans d3; have f3' := d3'.frozen; have g3' := d3'.cell; replace hK := (hb9.block D hDl).trans hK))
   have hK' := (KeepsOthers.setCell w9 ⟨Z, 0, none⟩ (.bool (decide (0 ≤ u)))).same D _ hK rfl
   refine ⟨by simp, .inl ⟨_, _, rfl, run_takeDeferred hK', ?_⟩⟩
   have hc5 := cell_kept (d3'.set (.bool (decide (0 ≤ u)))).cell (grownBy_putObj' _ D (.deferred none)) (fun r e => by cases e; exact ⟨_, hK', rfl⟩)
   refine ⟨.bool (decide (0 ≤ u)), ?_, by rw [hkb.out]; rfl, ((hkW.trans (hb9.mono hkW.size)).setCell (p := ⟨Z, 0, none⟩) (by show w.heap.size ≤ Z; omega) _).trans (belowK_b (w := w) (Nat.le_refl _) _ D _ _ (by have := hk2.size; omega) hK' rfl rfl)⟩
   simp [results, Tryz.f75, go_sem, hc5]
  ·have hkf : ((k : Int) == (nl : Int)) = false := by simp; omega
   gi_wp2_with (refine ⟨trivial, ?_⟩)
   have hK' := (KeepsOthers.setCell W ⟨Z, 0, none⟩ (.bool false)).same D _ hK rfl
   refine ⟨by simp, .inl ⟨_, _, rfl, run_takeDeferred hK', ?_⟩⟩
   have hc5 := cell_kept (d3.set (.bool false)).cell (grownBy_putObj' _ D (.deferred none)) (fun r e => by cases e; exact ⟨_, hK', rfl⟩)
   refine ⟨.bool false, ?_, by rw [hkb.out]; rw [decide_eq_false hkn, Bool.false_and], ((hkW).setCell (p := ⟨Z, 0, none⟩) (by show w.heap.size ≤ Z; omega) _).trans (belowK_b (w := w) (Nat.le_refl _) _ D _ _ (by have := hk2.size; omega) hK' rfl rfl)⟩
   simp [results, Tryz.f75, go_sem, hc5]
 case stop =>
  rintro D c pre W hD hpre ⟨⟨rfl, hin, d3⟩, hB⟩ hK
  have hr : Hid (keepB X o = false) := by
   show keepB X o = false
   unfold keepB
   have : ((hitO X o.links).all fun m => plcB o.label (oat X m).label) = false := by
    rw [List.all_eq_false] at hin ⊢
    obtain ⟨x, hx, hy⟩ := hin
    exact ⟨x, hpre.subset hx, hy⟩
   rw [this, Bool.false_and]
  clear hin
  gi_wp2
  refine ⟨by simp, .inl ⟨_, _, rfl, run_takeDeferred hK, ?_⟩⟩
  have hc5 := cell_kept d3.cell (grownBy_putObj' _ D (.deferred none)) (fun r e => by cases e; exact ⟨_, hK, rfl⟩)
  refine ⟨.bool false, ?_, by rw [hr.out], (hk2.trans (hB.mono hwZ)).trans (belowK_b (w := w) (Nat.le_refl _) _ D _ _ (by have := hk2.size; omega) hK rfl rfl)⟩
  simp [results, Tryz.f75, go_sem, hc5]
end Go.Proofs.YtnhjfjhbmekamaaGreat
namespace Go.Proofs.YtnhjfjhbmekamaaGreat
set_option maxRecDepth 100000
set_option maxHeartbeats 8000000
open Go.RowKit Go.Shelf
set_option linter.unusedVariables false
attribute [local go_sem] Oper.semAt_some

theorem cells_int (k : IntKind) (x : Int) : (Value.int k x).cells = #[.int k x] := rfl
theorem one_int (k : IntKind) (x : Int) : (Value.int k x).oneCell' = true := rfl
theorem two_all (k k' : IntKind) (x y : Int) : (#[.int k x, .int k' y] : Array Value).all (·.oneCell') = true := by simp [one_int]
theorem two_size (a b a' b' : Value) : (#[a, b] : Array Value).size = (#[a', b'] : Array Value).size := rfl
theorem two_lt0 (a b : Value) : 0 < (#[a, b] : Array Value).size := Nat.zero_lt_succ _
theorem two_lt1 (a b : Value) : 1 < (#[a, b] : Array Value).size := Nat.succ_lt_succ (Nat.zero_lt_succ _)
section
variable {F : Fence} (hF : ∀ f, F.fn f) {N : Nat} {ops : Array Oper} {rest : List Oper} {op : Oper} {a : Act} {Q : Exit → Act → World → Prop} {w w' : World}
include hF
theorem inL_lookup (hw : Region.wanted op (yielded ops a.tmps) = true) (x y : Operand) (ho : op.op = .lookup 71 x y false) (M : Nat) (hx : a.eval x = .map (some M)) (k : Int) (hy : a.eval y = .int .u64 k) (f : Int → Int × Int) (hm : MapF w M f)
  (h : wpListIn F N Tryz.prog ops Q rest (a.put op.dst (.agg #[.int .i64 (f k).1, .int .u64 (f k).2])) w) : wpListIn F N Tryz.prog ops Q (op :: rest) a w := by
 refine inL_val hF (by rw [ho]; intro c hc; cases hc) hw ?_ h
 unfold execOp
 simp [ho, hx, hy, map_get hm k]
 rfl
theorem inL_put (hw : Region.wanted op (yielded ops a.tmps) = true) (x y z : Operand) (ho : op.op = .mapUpdate 71 x y z) (M : Nat) (hx : a.eval x = .map (some M)) (k : Int) (hy : a.eval y = .int .u64 k) (v : Int × Int) (hz : a.eval z = .agg #[.int .i64 v.1, .int .u64 v.2]) (f : Int → Int × Int) (hm : MapF w M f)
  (h : ∀ o, MapF (w.putObj M o) M (fun j => if j = k then v else f j) → wpListIn F N Tryz.prog ops Q rest (a.put op.dst undef) (w.putObj M o)) : wpListIn F N Tryz.prog ops Q (op :: rest) a w := by
 obtain ⟨o, h1, h2⟩ := map_put hm k v
 rw [show hv v = .agg #[.int .i64 v.1, .int .u64 v.2] from rfl] at h1
 refine inL_skip hF (by rw [ho]; intro c hc; cases hc) hw (w' := w.putObj M o) ?_ (h o h2)
 unfold execOp
 simp [ho, hx, hy, hz, h1]
theorem inL_make (hw : Region.wanted op (yielded ops a.tmps) = true) (t : TypeId) (ho : op.op = .makeMap t none)
  (h : ∀ M W, Hid (w.heap.size = M ∧ W.heap.size = M + 1) → MapF W M (fun _ => (0, 0)) → Below w.heap.size w W → wpListIn F N Tryz.prog ops Q rest (a.put op.dst (.map (some M))) W) : wpListIn F N Tryz.prog ops Q (op :: rest) a w := by
 refine inL_val hF (by rw [ho]; intro c hc; cases hc) hw (w' := w.alloc (.map #[] 0)) (v := .map (some w.heap.size)) ?_ (h _ _ ⟨rfl, by simp⟩ ⟨#[], 0, [], World.alloc_heap_new w _, rfl, fun _ => rfl⟩ ((Below.refl _ w).alloc (Nat.le_refl _) _))
 unfold execOp
 simp [ho, Instr.makeMap, newObj]
 rfl
theorem inL_store_cell (hw : Region.wanted op (yielded ops a.tmps) = true) (ty : TypeId) (x y : Operand) (ho : op.op = .store ty x y) (B j : Nat) (hx : a.eval x = .pointer (some ⟨B, j, none⟩)) (v : Value) (hy : a.eval y = v) (hv : v.cells = #[v]) (C : Array Value) (t : TypeId) (hB : Blk w B C t)
  (hi : (Tryz.prog.info? ty).map (·.size) = some 1) (hs : j < C.size) (h1 : v.oneCell' = true)
  (h : ∀ W, Blk W B (C.setIfInBounds j v) t → Oth B w W → wpListIn F N Tryz.prog ops Q rest (a.put op.dst undef) W) : wpListIn F N Tryz.prog ops Q (op :: rest) a w := by
 have ht : w.there B j 1 := fun i hi => ⟨by rw [hB.cell, Array.getElem?_eq_getElem (by omega)]; rfl, hB.frozen _⟩
 have := run_storeCells_cells (P := Tryz.prog) B j [v] 0 w (fun i hi => by simpa using (ht i (by simpa using hi)).1) (fun i hi => by simpa using (ht i (by simpa using hi)).2) (fun u hu => by simp at hu; rw [hu]; exact h1)
 cases hq : Tryz.prog.info? ty with
 | none => simp [hq] at hi
 | some i =>
  have hs : i.size = 1 := by simpa [hq] using hi
  simp only [Nat.add_zero] at this
  have e : (storeVar ty ⟨B, j, none⟩ v).run Tryz.prog w = .ok () (w.setCells B j [v]) := by simp [storeVar, sizeOf, typeInfo, hq, hv, hs, this]
  refine inL_skip hF (by rw [ho]; intro c hc; cases hc) hw (w' := w.setCells B j [v]) ?_ (h _ (hB.set j v) (Oth.setCell w B j v))
  unfold execOp
  simp only [ho, hx, hy, Instr.storeAt, Instr.sureAddr, Sem.run_bind, Sem.run_pure, Result.andThen_ok, e]
end
def stpH (d : Int) (f : Int → Int × Int) (i : Int) : Int → Int × Int := fun k => if k = i then ((f i).1 + 1, if (f i).1 = 0 then d else (f i).2) else f k
def stpD (X : List Ob) (f : Int → Int × Int) (d : Ob) : Int → Int × Int := ((hitO X d.links).map fun m => (oat X m).id).foldl (stpH d.id) f
def hldF (X : List Ob) : Int → Int × Int := X.foldl (stpD X) fun _ => (0, 0)
theorem stp_le {d : Int} {c : Int} : ∀ (l : List Int) (f : Int → Int × Int), (∀ i, 0 ≤ (f i).1 ∧ (f i).1 ≤ c) → ∀ i, 0 ≤ (l.foldl (stpH d) f i).1 ∧ (l.foldl (stpH d) f i).1 ≤ c + l.length
 | [], f, h, i => by simpa using h i
 | a :: l, f, h, i => by
  have h2 : ∀ i, 0 ≤ (stpH d f a i).1 ∧ (stpH d f a i).1 ≤ c + 1 := fun j => by
   have h3 := h j
   have h4 := h a
   unfold stpH
   split <;> (try dsimp only) <;> omega
  have := stp_le (d := d) (c := c + 1) l (stpH d f a) h2 i
  rw [List.foldl_cons, List.length_cons]
  omega
theorem hld_le {X : List Ob} : ∀ (l : List Ob) (f : Int → Int × Int) (c : Int), (∀ x ∈ l, x.links.length < 4294967296) → (∀ i, 0 ≤ (f i).1 ∧ (f i).1 ≤ c) → ∀ i, 0 ≤ (l.foldl (stpD X) f i).1 ∧ (l.foldl (stpD X) f i).1 ≤ c + 4294967296 * l.length
 | [], f, c, _, h, i => by simpa using h i
 | a :: l, f, c, hl, h, i => by
  have h1 : (hitO X a.links).length ≤ a.links.length := List.length_filterMap_le ..
  have h2 := hl a (List.mem_cons_self ..)
  have h3 : ∀ i, 0 ≤ (stpD X f a i).1 ∧ (stpD X f a i).1 ≤ c + 4294967296 := fun j => by
   have := stp_le (d := a.id) (c := c) ((hitO X a.links).map fun m => (oat X m).id) f h j
   rw [List.length_map] at this
   unfold stpD
   omega
  have := hld_le (X := X) l (stpD X f a) (c + 4294967296) (fun x hx => hl x (List.mem_cons_of_mem _ hx)) h3 i
  rw [List.foldl_cons, List.length_cons]
  omega
theorem hld_succ {X : List Ob} {k : Nat} (h : k < X.length) (f : Int → Int × Int) : (X.take (k + 1)).foldl (stpD X) f = stpD X ((X.take k).foldl (stpD X) f) (oat X k) := by
 have e : oat X k = X[k] := by unfold oat; rw [List.getD_eq_getElem?_getD, List.getElem?_eq_getElem h]; rfl
 rw [List.take_add_one, List.getElem?_eq_getElem h, Option.toList_some, List.foldl_append, e]
 rfl
theorem ownFrom_keepsD {β : Type} {D : Nat → Prop} {w0 : World} {B : Nat} (hD : ∀ b, D b → b < B) (hB : B ≤ w0.heap.size) : OwnFrom B (fun (_ : β) W => Keeps D w0 W) := fun s X Y row hs hg hr =>
 ⟨Nat.le_trans hs.1 hg.size, fun b hb => (hg.block b (Nat.lt_of_lt_of_le (hD b hb) (Nat.le_trans hB hs.1)) (fun e => by have := (hr b e.symm).1; have := hD b hb; omega)).trans (hs.2 b hb)⟩
theorem ownFrom_map {β : Type} {M B : Nat} (hM : M < B) (f : β → Int → Int × Int) : OwnFrom B (fun s W => MapF W M (f s)) := fun s X Y row hs hg hr =>
 hs.block (hg.block M hs.lt (fun e => by have := (hr M e.symm).1; omega))
def mks (Ds : List Nat) : List Deferred := Ds.map fun D => { target := .collected D, args := #[] }
theorem leaves_mks {F : Fence} {n : Nat} {fn : Func} {tmps : Array Value} {R : Ending → World → Prop} {B : Nat} : ∀ (Ds : List Nat) (W : World), Ds.Nodup → (∀ D ∈ Ds, B ≤ D ∧ W.heap[D]? = some (.deferred (some []))) →
  (∀ W', Below B W W' → (∀ b, b ∉ Ds → W'.heap[b]? = W.heap[b]?) → LeavesInM F n Tryz.prog fn tmps R [] .returning W') → LeavesInM F n Tryz.prog fn tmps R (mks Ds) .returning W
 | [], W, _, _, h => h W (Below.refl _ _) fun _ _ => rfl
 | D :: Ds, W, hn, hD, h => by
  obtain ⟨hb, hK⟩ := hD D (List.mem_cons_self ..)
  obtain ⟨hn1, hn2⟩ := List.nodup_cons.1 hn
  refine ⟨by simp, .inl ⟨D, W.putObj D (.deferred none), rfl, run_takeDeferred hK, ?_⟩⟩
  have ho : ∀ b, b ≠ D → (W.putObj D (.deferred none)).heap[b]? = W.heap[b]? := fun b hb => World.putObj_heap_other hb
  have hbl : Below B W (W.putObj D (.deferred none)) := ⟨rfl, rfl, rfl, by simp [World.putObj], fun k hk => ho k (by omega)⟩
  refine leaves_mks Ds _ hn2 (fun E hE => ⟨(hD E (List.mem_cons_of_mem _ hE)).1, (ho E (fun e => hn1 (e ▸ hE))).trans (hD E (List.mem_cons_of_mem _ hE)).2⟩) fun W' k1 k2 => ?_
  exact h W' (hbl.trans k1) fun b hb => (k2 b (fun e => hb (List.mem_cons_of_mem _ e))).trans (ho b (fun e => hb (e ▸ List.mem_cons_self ..)))
end Go.Proofs.YtnhjfjhbmekamaaGreat
namespace Go.Proofs.YtnhjfjhbmekamaaGreat
set_option maxRecDepth 100000
set_option maxHeartbeats 8000000
open Go.RowKit Go.Shelf
set_option linter.unusedVariables false

def StayT {β : Type} (B : Nat) (t : TypeId) (J : β → World → Prop) : Prop := ∀ s A A' row, J s A → A.grownBy A' row → (∀ r, row = some r → B ≤ r ∧ ∃ C, A.heap[r]? = some (.cells C t)) → J s A'
def KT (D : Nat → Prop) (t : TypeId) (B : Nat) (W W' : World) : Prop := Keeps D W W' ∧ ∀ b C, B ≤ b → W.heap[b]? = some (.cells C t) → W'.heap[b]? = some (.cells C t)
theorem KT.trans {D : Nat → Prop} {t : TypeId} {B : Nat} {X Y Z : World} (h : KT D t B X Y) (k : KT D t B Y Z) : KT D t B X Z := ⟨h.1.trans k.1, fun b C hb hc => k.2 b C hb (h.2 b C hb hc)⟩
theorem KT.putObj {D : Nat → Prop} {t : TypeId} {B : Nat} {W : World} {l : Nat} {r : Loop} (o : Obj) (hD : ∀ b, D b → b ≠ l) (h : W.heap[l]? = some (.loop r)) : KT D t B W (W.putObj l o) :=
 ⟨⟨by simp [World.putObj], fun b hb => World.putObj_heap_other (hD b hb)⟩, fun b C _ hc => (World.putObj_heap_other (fun e => by rw [e, h] at hc; cases hc)).trans hc⟩
def SeqT {α : Type} (F : Fence) (n : Nat) (P : Program) (g : Nat) (lb : Array Value) (encs : α → Array Value) (D : Nat → Prop) (t : TypeId) (S : List α → Prop) (N : Nat) (w : World) : Prop :=
 ∀ (l : Nat) (J : List α → World → Prop) (W : World), Below w.heap.size w W → StayT W.heap.size t J →
  (∀ pre x W1, J pre W1 → pre.length < N → YieldAt F (n - 1) P l (encs x) W1 fun e W' => e = .returned (.bool true) ∧ J (pre ++ [x]) W' ∧ KT D t W.heap.size W1 W') → J [] W →
  CallsIn F n P g (#[.func (.yield l) #[] #[]] ++ lb) W fun e W' => (∃ v, e = .returned v) ∧ ∃ xs, S xs ∧ J xs W'
theorem wpIn_rangeT {F : Fence} {n : Nat} {P : Program} {α : Type} {g : Operand} {ps : Array Tmp} {assign body : Code} {Q : Exit → Act → World → Prop} {a : Act} {w : World}
  (hro : F.round = none) (h1 : 1 ≤ n) {gf : Nat} {lb : Array Value} (hg : a.eval g = .func (.func gf) #[] lb) (hFg : F.fn gf) (eg : ∀ args w, (callFunc gf args).run P w = .ok (.enter gf args) w)
  {encs : α → Array Value} {D : Nat → Prop} {t : TypeId} {S : List α → Prop} {N : Nat} {w0 : World} (hseq : SeqT F (n - 1) P gf lb encs D t S N w0) (hD : ∀ b, D b → b < w.heap.size) (hb0 : Below w0.heap.size w0 w) (hps : ∀ x, (encs x).size = ps.size)
  (I : List α → World → Prop) (hI : OwnFrom w.heap.size I) (hIt : StayT w.heap.size t I) (h0 : I [] w) (ax : α → Act)
  (hassign : ∀ (l : Nat) (x : α) (W : World) (K : Act → World → Prop), K (ax x) W →
   assign.wpIn (F.inRound l) (n - 1 - 1) P (Exit.then K (fun _ _ _ => False)) { tmps := (ps.zip (encs x)).foldl (fun t (p, v) => t.setIfInBounds p v) a.tmps, defers := [] } W)
  (hbody : ∀ (l : Nat) (pre : List α) (x : α) (W : World), w.heap.size ≤ l → I pre W → pre.length < N → body.wpIn (F.inRound l) (n - 1 - 1) P (fun e _ W' => e = .normal ∧ KeepsFrom w.heap.size W W' ∧ KT D t (w.heap.size + 2) W W' ∧ I (pre ++ [x]) W') (ax x) W)
  (hdone : ∀ (E : Nat) (xs : List α) (W : World), w.heap.size ≤ E → S xs → I xs W → W.heap[E]? = some (.deferred (some [])) → Q .normal { a with defers := { target := .collected E, args := #[] } :: a.defers } W) :
  (Code.rangeFunc g ps assign body).wpIn F n P Q a w := by
 refine wpIn_rangeFunc fun fn hfn => ?_
 rw [hro]
 obtain ⟨rc, hrc⟩ : ∃ rc : LoopState → Loop, rc = fun st => { state := st, pending := none, fn := fn, tmps := a.tmps, params := ps, assign := assign, body := body, defers := w.heap.size } := ⟨_, rfl⟩
 have hsz : ((w.alloc (.deferred (some []))).alloc (.loop (rc .ready))).heap.size = w.heap.size + 2 := by simp
 have hl0 : ((w.alloc (.deferred (some []))).alloc (.loop (rc .ready))).heap[w.heap.size + 1]? = some (.loop (rc .ready)) := by
  have := World.alloc_heap_new (w.alloc (.deferred (some []))) (.loop (rc .ready)); rwa [World.size_alloc] at this
 have hk0 : ((w.alloc (.deferred (some []))).alloc (.loop (rc .ready))).heap[w.heap.size]? = some (.deferred (some [])) := (Below.heap_alloc _ _ _ (by simp)).trans (World.alloc_heap_new w _)
 have hbl : Below w.heap.size w ((w.alloc (.deferred (some []))).alloc (.loop (rc .ready))) := ((Below.refl _ w).alloc (Nat.le_refl _) _).alloc (by simp) _
 have hi0 : I [] ((w.alloc (.deferred (some []))).alloc (.loop (rc .ready))) := hI.alloc _ (hI.alloc _ h0)
 have hent : (Instr.enterLoop fn a.tmps ps assign body none).run P w = .ok (w.heap.size + 1, [{ target := .collected w.heap.size, args := #[] }]) ((w.alloc (.deferred (some []))).alloc (.loop (rc .ready))) := by rw [hrc]; exact run_enterLoop_outer _ _ _ _ _
 generalize (w.alloc (.deferred (some []))).alloc (.loop (rc .ready)) = V at hsz hl0 hk0 hbl hi0 hent
 obtain ⟨s0, hs0⟩ : ∃ s0, w.heap.size = s0 := ⟨_, rfl⟩
 refine ⟨w.heap.size + 1, [{ target := .collected w.heap.size, args := #[] }], V, { target := .fn (.func gf) lb, args := #[.func (.yield (w.heap.size + 1)) #[] #[]] }, V, gf, #[.func (.yield (w.heap.size + 1)) #[] #[]] ++ lb, V, hent, ?_, ?_, ?_, fun _ => h1, ?_⟩
 ·simp only [resolve, hg]
  simp [go_sem]
 ·intro f' hf'
  simp [Target.leads] at hf'
  subst hf'
  exact hFg
 ·simp [invoke, go_sem, eg]
 refine (hseq (w.heap.size + 1) (fun pre W => I pre W ∧ W.heap[w.heap.size + 1]? = some (.loop (rc .ready)) ∧ W.heap[w.heap.size]? = some (.deferred (some []))) V (hb0.trans (hbl.mono hb0.size)) ?stay ?round ⟨hi0, hl0, hk0⟩).mono ?behind
 case stay =>
  rintro pre A A' row ⟨q1, q2, q3⟩ hgr hrow
  have q : ∀ b, b < V.heap.size → (b < A.heap.size) → A'.heap[b]? = A.heap[b]? := fun b hb hb2 => hgr.block b hb2 (fun e => by have := (hrow b e.symm).1; omega)
  exact ⟨hIt pre A A' row q1 hgr (fun r e => ⟨by have := (hrow r e).1; omega, (hrow r e).2⟩), (q _ (by omega) (Array.getElem?_eq_some_iff.1 q2).1).trans q2, (q _ (by omega) (Array.getElem?_eq_some_iff.1 q3).1).trans q3⟩
 case round =>
  rintro pre x W ⟨hi, hl, hk⟩ hlen
  have hy := run_yield (P := P) (args := encs x) hl (by rw [hrc]; exact hps x)
  rw [hrc] at hy
  refine ⟨fn, _, assign, body, hy, roundIn_of_wpIn hfn (hassign _ x W _ ?_)⟩
  refine ⟨_, run_beginRound hl (by rw [hrc]), ?_⟩
  have hlt : w.heap.size + 1 < W.heap.size := (Array.getElem?_eq_some_iff.1 hl).1
  have hl2 : (W.putObj (w.heap.size + 1) (.loop { rc .ready with state := .busy })).heap[w.heap.size + 1]? = some (.loop { rc .ready with state := .busy }) := World.putObj_heap_same hlt
  have hk2 : (W.putObj (w.heap.size + 1) (.loop { rc .ready with state := .busy })).heap[w.heap.size]? = some (.deferred (some [])) := (World.putObj_heap_other (by omega)).trans hk
  have hDl : ∀ b, D b → b ≠ w.heap.size + 1 := fun b hb => by have := hD b hb; omega
  refine wpIn_mono (hbody (w.heap.size + 1) pre x _ (by omega) (hI.putObj _ hi (by omega) hl rfl) hlen) ?_
  rintro e a3 W3 ⟨rfl, hkf, hkt, hi3⟩
  have hl3 := hkf.same _ _ (by omega) hl2 rfl
  have hk3 := hkf.same _ _ (Nat.le_refl _) hk2 rfl
  refine ⟨_, _, run_endRound (P := P) none hl3, rfl, ⟨hI.putObj _ hi3 (by omega) hl3 rfl, ?_, (World.putObj_heap_other (by omega)).trans hk3⟩, ?_⟩
  ·rw [World.putObj_heap_same (Array.getElem?_eq_some_iff.1 hl3).1, hrc]
   rfl
  ·rw [hsz]
   exact (KT.putObj _ hDl hl).trans (hkt.trans (KT.putObj _ hDl hl3))
 case behind =>
  rintro e W ⟨⟨v, rfl⟩, xs, hS, hi, hl, hk⟩
  refine ⟨none, _, by have := run_endLoop (P := P) hl (by rw [hrc]; simp); rw [hrc] at this; exact this, hdone _ xs _ (Nat.le_refl _) hS (hI.putObj _ hi (by omega) hl rfl) ((World.putObj_heap_other (by omega)).trans hk)⟩
end Go.Proofs.YtnhjfjhbmekamaaGreat
