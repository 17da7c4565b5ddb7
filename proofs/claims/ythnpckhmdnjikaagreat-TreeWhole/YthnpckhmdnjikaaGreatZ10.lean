/-
 PROVED HERE: what the questions of package check answer when they are asked (contracts over this translation); what a row o. What is asked stands at each.
-/
import Derived.Deep.RegionHeld3
import Derived.Laws.EntriesVeiled
import Derived.Test.YthnpckhmdnjikaaGreatZ1
namespace Go.Proofs.YthnpckhmdnjikaaGreat
set_option maxRecDepth 100000
set_option maxHeartbeats 8000000
set_option linter.unusedVariables false
open Go.Proofs.Tryz
namespace CkM
open Go.ChangeShapes Go.WideShapes Go.ChangeAt Go.RowKit
def LRow (w : World) (b : Nat) (ls : List (Option Addr × Nat × Nat × List (Int × Int))) : Prop :=
 b < w.heap.size ∧ (∀ i, i < ls.length → w.cell? ⟨b, i, none⟩ = some (.slice (ls.getD i (none, 0, 0, [])).1 (ls.getD i (none, 0, 0, [])).2.1 (ls.getD i (none, 0, 0, [])).2.2.1)) ∧ Labs w ls
variable {ls : List (Option Addr × Nat × Nat × List (Int × Int))}
theorem LRow.next {w w' : World} {b : Nat} (h : LRow w b ls) (k : Below w.heap.size w w') : LRow w' b ls :=
 ⟨ltz h.1 k.size, fun i hi => (k.cell (p := ⟨b, i, none⟩) h.1).trans (h.2.1 i hi), h.2.2.next k⟩
theorem LRow.at {w : World} {b : Nat} (h : LRow w b ls) {i : Nat} (hi : i < ls.length) :
  ∃ ao n cap L, w.cell? ⟨b, i, none⟩ = some (.slice ao n cap) ∧ Lab w.heap.size w ao n cap L ∧ Hid (ls.getD i (none, 0, 0, []) = (ao, n, cap, L)) := by
 obtain ⟨ao, n, cap, L, e⟩ : ∃ ao n cap L, ls.getD i (none, 0, 0, []) = (ao, n, cap, L) := ⟨_, _, _, _, rfl⟩
 have hc := h.2.1 i hi
 rw [e] at hc
 refine ⟨ao, n, cap, L, hc, ?_, e⟩
 have hm : ls.getD i (none, 0, 0, []) ∈ ls := by
  rw [List.getD_eq_getElem?_getD, List.getElem?_eq_getElem hi]
  exact List.getElem_mem hi
 have := h.2.2 _ hm
 rw [e] at this
 exact this
def xsz (ls : List (Option Addr × Nat × Nat × List (Int × Int))) (i : Nat) : List (Int × Int) := (ls.getD i (none, 0, 0, [])).2.2.2
def risB (ls : List (Option Addr × Nat × Nat × List (Int × Int))) : Bool := (List.range (ls.length - 1)).all fun j => leqB (xsz ls j) (xsz ls (j + 1))
theorem risB_no {j : Nat} (hj : j + 1 < ls.length) (h : leqB (xsz ls j) (xsz ls (j + 1)) = false) : risB ls = false := by
 unfold risB
 rw [List.all_eq_false]
 exact ⟨j, List.mem_range.2 (by omega), by rw [h]; simp⟩
theorem risB_yes (h : ∀ j, j + 1 < ls.length → leqB (xsz ls j) (xsz ls (j + 1)) = true) : risB ls = true := by
 unfold risB
 rw [List.all_eq_true]
 intro j hj
 exact h j (by have := List.mem_range.1 hj; omega)
theorem v5z {w : World} {Bx b m : Nat} (hm : ls.length = m) (h1 : 1 ≤ m) (hmm : m < 100) (hbx : w.cell? ⟨Bx, 0, none⟩ = some (.slice (some ⟨b, 0, none⟩) m m)) (hbl : Bx < w.heap.size) (hR : LRow w b ls) :
  Calls prog 113 #[.pointer (some ⟨Bx, 0, none⟩)] w fun e w' => e = .returned (.bool (risB ls)) ∧ Below w.heap.size w w' := by
 go_enter func113, ntmps113
 go_wp2
 go_loopw [2] (fun i wr => ∃ j : Nat, j + 1 ≤ m ∧ i = .int .i64 ((j + 1 : Nat) : Int) ∧ (∀ t, t < j → leqB (xsz ls t) (xsz ls (t + 1)) = true) ∧ Below w.heap.size w wr) (fun i _ => m - (intOf i).toNat)
 case atStart => exact ⟨0, by omega, rfl, fun j hj => absurd hj (by omega), brz _ _⟩
 case round =>
  obtain ⟨j, hj, rfl, hg, hb⟩ := hrel
  have hG : Hid (∀ t, t < j → leqB (xsz ls t) (xsz ls (t + 1)) = true) := hg
  clear hg
  have hbs := hb.size
  have cb := (hb.cell (p := ⟨Bx, 0, none⟩) hbl).trans hbx
  by_cases hjm : j + 1 < m
  ·obtain ⟨ao, n, cap, L, d0, hL, e0⟩ := (hR.next hb.drew).at (i := j) (by omega)
   obtain ⟨ao', n', cap', L', d1, hL', e1⟩ := (hR.next hb.drew).at (i := j + 1) (by omega)
   have hwm : IntKind.i64.wrap (((j + 1 : Nat) : Int) - 1) = j := by rw [IntKind.wrap_i64]; omega
   obtain ⟨k, hk⟩ : ∃ k, Hid (j + 1 = k) := ⟨_, rfl⟩
   rw [hk.out] at hwm d1 e1 hjm
   have hjm' : (k : Int) < m := by omega
   have hjm2 : (j : Int) < m := by omega
   have hl : Hid (leqB (xsz ls j) (xsz ls (j + 1)) = leqB L L') := by unfold xsz; rw [hk.out, e0.out, e1.out]; rfl
   rw [hk.out]
   clear hR
   cases hq : leqB L L' with
   | false =>
    have hr : Hid (risB ls = false) := risB_no (j := j) (by have := hk.out; omega) (by rw [hl.out, hq])
    go_wp2
    go_region_held3 (fun w' => w'.cell? ⟨Bx, 0, none⟩ = some (.slice (some ⟨b, 0, none⟩) m m) ∧ w'.cell? ⟨b, j, none⟩ = some (.slice ao n cap) ∧ w'.cell? ⟨b, k, none⟩ = some (.slice ao' n' cap')) (go_keep) (first | (go_at_call 114; refine (jDz (B := 0) hL hL').mono ?_; rintro e w1 ⟨rfl, hb1⟩; have f0 := cell_later hb1 cb; have f1 := cell_later hb1 d0; have f2 := cell_later hb1 d1))
    go_wp2
    go_ret
    exact ⟨by rw [hr.out]; rfl, hb.drew.trans (hb1.mono hbs)⟩
   | true =>
    have hG' : Hid (∀ t, t < j + 1 → leqB (xsz ls t) (xsz ls (t + 1)) = true) := by
     intro t ht
     rcases Nat.lt_or_ge t j with h | h
     ·exact hG.out t h
     ·have : t = j := by omega
      rw [this, hl.out, hq]
    go_wp2
    go_region_held3 (fun w' => w'.cell? ⟨Bx, 0, none⟩ = some (.slice (some ⟨b, 0, none⟩) m m) ∧ w'.cell? ⟨b, j, none⟩ = some (.slice ao n cap) ∧ w'.cell? ⟨b, k, none⟩ = some (.slice ao' n' cap')) (go_keep) (first | (go_at_call 114; refine (jDz (B := 0) hL hL').mono ?_; rintro e w1 ⟨rfl, hb1⟩; have f0 := cell_later hb1 cb; have f1 := cell_later hb1 d0; have f2 := cell_later hb1 d1))
    go_wp2
    go_roundw
    case rel => exact ⟨j + 1, by have := hk.out; omega, by rw [hk.out]; go_num, hG'.out, hb.drew.trans (hb1.mono hbs)⟩
    case measure => have := hk.out; simp [intOf]; omega
  ·have hr : Hid (risB ls = true) := risB_yes (fun t ht => hG.out t (by omega))
   have hj1 : j + 1 = m := by omega
   clear hR
   subst hj1
   go_wp2
   go_ret
   exact ⟨by rw [hr.out]; rfl, hb⟩
end CkM
namespace CkM
open Go.ChangeShapes Go.WideShapes Go.ChangeAt Go.RowKit
def Asks (w : World) (q : Value) (v : Bool) : Prop := ∃ (g : Nat) (lb : Array Value), q = .func (.func g) #[] lb ∧ (∀ args w, (callFunc g args).run prog w = .ok (.enter g args) w) ∧
 ∀ W, Below w.heap.size w W → Calls prog g lb W fun e W' => e = .returned (.bool v) ∧ Below W.heap.size W W'
theorem Asks.next {w w' : World} {q : Value} {v : Bool} (h : Asks w q v) (k : Below w.heap.size w w') : Asks w' q v := by
 obtain ⟨g, lb, e, eg, hc⟩ := h
 exact ⟨g, lb, e, eg, fun W hW => hc W (btz k hW)⟩
def QRow (w : World) (b : Nat) (qs : List (Value × Bool)) : Prop :=
 b < w.heap.size ∧ ∀ i, i < qs.length → w.cell? ⟨b, i, none⟩ = some (qs.getD i (undef, false)).1 ∧ Asks w (qs.getD i (undef, false)).1 (qs.getD i (undef, false)).2
variable {qs : List (Value × Bool)}
theorem QRow.at {w W : World} {b : Nat} (h : QRow w b qs) (k : Below w.heap.size w W) {i : Nat} (hi : i < qs.length) :
  ∃ (g : Nat) (lb : Array Value) (v : Bool), W.cell? ⟨b, i, none⟩ = some (.func (.func g) #[] lb) ∧ (∀ args w, (callFunc g args).run prog w = .ok (.enter g args) w) ∧
   (Calls prog g lb W fun e W' => e = .returned (.bool v) ∧ Below W.heap.size W W') ∧ Hid ((qs.getD i (undef, false)).2 = v) := by
 obtain ⟨hc, g, lb, e, eg, hq⟩ := h.2 i hi
 refine ⟨g, lb, _, ?_, eg, hq W k, rfl⟩
 rw [← e]
 exact (k.cell (p := ⟨b, i, none⟩) h.1).trans hc
def allQ (qs : List (Value × Bool)) : Bool := qs.all (·.2)
theorem allQ_no {i : Nat} (hi : i < qs.length) (h : (qs.getD i (undef, false)).2 = false) : allQ qs = false := by
 unfold allQ
 rw [List.all_eq_false]
 refine ⟨qs[i], List.getElem_mem hi, ?_⟩
 rw [List.getD_eq_getElem?_getD, List.getElem?_eq_getElem hi] at h
 simpa using h
theorem allQ_yes (h : ∀ i, i < qs.length → (qs.getD i (undef, false)).2 = true) : allQ qs = true := by
 unfold allQ
 rw [List.all_eq_true]
 intro x hx
 obtain ⟨i, hi, rfl⟩ := List.getElem_of_mem hx
 have := h i hi
 rw [List.getD_eq_getElem?_getD, List.getElem?_eq_getElem hi] at this
 simpa using this
variable {w : World}
theorem bcz {b m : Nat} (hm : qs.length = m) (hmm : m < 100) (hQ : QRow w b qs) :
  Calls prog 88 #[.slice (some ⟨b, 0, none⟩) m m] w fun e w' => e = .returned (.bool (allQ qs)) ∧ Below w.heap.size w w' := by
 go_enter func88, ntmps88
 go_wp2
 go_loopw [7] (fun i wr => ∃ k : Nat, k ≤ m ∧ i = .int .i64 k ∧ (∀ j, j < k → (qs.getD j (undef, false)).2 = true) ∧ Below w.heap.size w wr) (fun i _ => m - (intOf i).toNat)
 case atStart => exact ⟨0, Nat.zero_le _, rfl, fun j hj => absurd hj (by omega), brz _ _⟩
 case round =>
  obtain ⟨k, hk, rfl, hg, hb⟩ := hrel
  have hG : Hid (∀ j, j < k → (qs.getD j (undef, false)).2 = true) := hg
  clear hg
  have hbs := hb.size
  by_cases hkm : k < m
  ·obtain ⟨g, lb, v, d0, eg, hc, hv⟩ := hQ.at hb (i := k) (by omega)
   clear hQ
   cases v with
   | false =>
    have hr : Hid (allQ qs = false) := allQ_no (i := k) (by omega) hv.out
    go_wp2_with (refine Calls.mono (by simpa using hc) ?_; rintro e w1 ⟨rfl, hb1⟩)
    go_ret
    exact ⟨by rw [hr.out]; rfl, hb.trans (hb1.mono hbs)⟩
   | true =>
    have hG' : Hid (∀ j, j < k + 1 → (qs.getD j (undef, false)).2 = true) := by
     intro j hj
     rcases Nat.lt_or_ge j k with h | h
     ·exact hG.out j h
     ·have : j = k := by omega
      rw [this]; exact hv.out
    go_wp2_with (refine Calls.mono (by simpa using hc) ?_; rintro e w1 ⟨rfl, hb1⟩)
    go_roundw
    case rel => exact ⟨k + 1, by omega, by go_num, hG'.out, hb.trans (hb1.mono hbs)⟩
    case measure => simp [intOf]; omega
  ·have hr : Hid (allQ qs = true) := allQ_yes (fun j hj => hG.out j (by omega))
   clear hQ
   go_wp2
   go_ret
   exact ⟨by rw [hr.out]; rfl, hb⟩
variable {t : TypeId}
theorem y8z (xs : List Value) {i : Nat} {v : Value} (h : xs[i]? = some v) : (w.alloc (.cells xs.toArray t)).cell? ⟨w.heap.size, i, none⟩ = some v := by
 have h2 := World.alloc_heap_new w (.cells xs.toArray t)
 unfold World.cell?
 rw [h2]
 simp [h]
theorem qrow_new (qs : List (Value × Bool)) (h : ∀ x ∈ qs, Asks w x.1 x.2) : QRow (w.alloc (.cells (qs.map (·.1)).toArray t)) w.heap.size qs := by
 have k := (brz w.heap.size w).alloc (lrz _) (.cells (qs.map (·.1)).toArray t)
 refine ⟨by simp, fun i hi => ?_⟩
 have e : qs.getD i (undef, false) = qs[i] := by rw [List.getD_eq_getElem?_getD, List.getElem?_eq_getElem hi]; rfl
 rw [e]
 exact ⟨y8z _ (by simp [hi]), (h _ (List.getElem_mem hi)).next k⟩
theorem lrow_new (ls : List (Option Addr × Nat × Nat × List (Int × Int))) (h : Labs w ls) : LRow (w.alloc (.cells (ls.map fun x => Value.slice x.1 x.2.1 x.2.2.1).toArray t)) w.heap.size ls := by
 have k := (brz w.heap.size w).alloc (lrz _) (.cells (ls.map fun x => Value.slice x.1 x.2.1 x.2.2.1).toArray t)
 refine ⟨by simp, fun i hi => ?_, h.next k⟩
 have e : ls.getD i (none, 0, 0, []) = ls[i] := by rw [List.getD_eq_getElem?_getD, List.getElem?_eq_getElem hi]; rfl
 rw [e]
 exact y8z _ (by simp [hi])
theorem vMz (w : World) (o : Obj) {w' : World} (h : Below (w.alloc o).heap.size (w.alloc o) w') : Below w.heap.size w w' := ((brz w.heap.size w).alloc (lrz _) o).trans (h.mono (by simp))
theorem uCz (w : World) {q : Value} {v : Bool} (h : Asks w q v) :
  Calls prog 88 #[.slice (some ⟨w.heap.size, 0, none⟩) 1 1] (w.alloc (.cells #[q] 124)) fun e w' => e = .returned (.bool v) ∧ Below w.heap.size w w' := by
 refine (bcz (m := 1) (qs := [(q, v)]) rfl (by omega) (qrow_new [(q, v)] (by intro x hx; simp at hx; subst hx; exact h))).mono ?_
 rintro e w' ⟨rfl, hb⟩
 exact ⟨by simp [allQ], vMz _ _ hb⟩
theorem uqz {b m : Nat} {ls : List (Option Addr × Nat × Nat × List (Int × Int))} (hm : ls.length = m) (h1 : 1 ≤ m) (hmm : m < 100) (hR : LRow w b ls) :
  Calls prog 89 #[.slice (some ⟨b, 0, none⟩) m m] w fun e w' => ∃ q, e = .returned q ∧ Asks w' q (risB ls) ∧ Below w.heap.size w w' := by
 have hB := (brz w.heap.size w).alloc (lrz _) (.cells #[.slice (some ⟨b, 0, none⟩) m m] 138)
 have bx := Boxed.new w 138 (.slice (some ⟨b, 0, none⟩) m m)
 go_enter func89, ntmps89
 go_wp2
 go_ret
 refine ⟨_, rfl, ⟨113, _, rfl, enters_of func113 (by kernel_rfl) rfl, fun W hW => ?_⟩, hB⟩
 exact v5z hm h1 hmm (cell_later hW bx.cell) (ltz bx.lt hW.size) ((hR.next hB).next hW)
end CkM
namespace CkM
open Go.ChangeShapes Go.WideShapes Go.ChangeAt Go.RowKit
theorem v4z (w : World) {a1 a2 : Option Addr} {n1 n2 c1 c2 : Nat} {A1 A2 : List (Int × Int)} (h1 : Lab w.heap.size w a1 n1 c1 A1) (h2 : Lab w.heap.size w a2 n2 c2 A2) :
  Calls prog 89 #[.slice (some ⟨w.heap.size, 0, none⟩) 2 2] (w.alloc (.cells #[.slice a1 n1 c1, .slice a2 n2 c2] 27)) fun e w' => ∃ q, e = .returned q ∧ Asks w' q (leqB A1 A2) ∧ Below w.heap.size w w' := by
 refine (uqz (m := 2) (ls := [(a1, n1, c1, A1), (a2, n2, c2, A2)]) rfl (by omega) (by omega) (lrow_new [(a1, n1, c1, A1), (a2, n2, c2, A2)] (((Labs.nil w).push h2).push h1))).mono ?_
 rintro e w' ⟨q, rfl, ha, hb⟩
 refine ⟨q, rfl, ?_, vMz _ _ hb⟩
 have e : risB [(a1, n1, c1, A1), (a2, n2, c2, A2)] = leqB A1 A2 := by simp [risB, xsz]
 rw [e] at ha
 exact ha
end CkM
namespace CkM
open Go.ChangeShapes Go.WideShapes Go.ChangeAt Go.RowKit
theorem place_any {w : World} {aD aO : Option Addr} {nD cD nO cO : Nat} {D O : List (Int × Int)} (hD : Lab w.heap.size w aD nD cD D) (hO : Lab w.heap.size w aO nO cO O) (kD : nD < 1048576) (kO : nO < 1048576) :
  Calls prog 59 #[.slice aD nD cD, .slice aO nO cO] w fun e w' => e = .returned (.bool (leqB D (vyz (xtz O) []))) ∧ Below w.heap.size w w' := by
 have hB := brz w.heap.size w
 go_enter func59, ntmps59
 go_wp2_with (first | (go_at_call 91; refine (lraise_b hO (by omega)).mono ?_; rintro e w1 ⟨aR, nR, cR, rfl, hl, knR, kb⟩; replace hD := hD.next kb; replace hO := hO.next kb; replace hB := btz hB kb; have hR := hl; clear hl kb) | (go_at_call 90; refine (ljoin_b hR (Lab.nil _ _) (by omega) (by omega)).mono ?_; rintro e w1 ⟨aJ, nJ, cJ, rfl, hl, knJ, kb⟩; replace hD := hD.next kb; replace hO := hO.next kb; replace hR := hR.next kb; replace hB := btz hB kb; have hJ := hl; clear hl kb) | (go_at_call 89; refine (v4z _ hD hJ).mono ?_; rintro e w1 ⟨q1, rfl, hq, kb⟩; replace hD := hD.next kb; replace hO := hO.next kb; replace hR := hR.next kb; replace hJ := hJ.next kb; replace hB := btz hB kb; have hq1 := hq; clear hq kb; obtain ⟨g1, l1, rfl, _, _⟩ := id hq1) | (go_at_call 88; refine (uCz _ hq1).mono ?_; rintro e w1 ⟨rfl, kb⟩; replace hB := btz hB kb))
 go_ret
 exact ⟨rfl, hB⟩
end CkM
end Go.Proofs.YthnpckhmdnjikaaGreat
