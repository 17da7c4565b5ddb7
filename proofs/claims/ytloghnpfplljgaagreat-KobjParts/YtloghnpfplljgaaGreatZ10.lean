/-
 PROVED HERE: what the questions of package check answer when they are asked (contracts over this translation); what check's. What is asked stands at each.
-/
import Derived.Deep.RegionHeld3
import Derived.Laws.EntriesVeiled
import Derived.Test.YtloghnpfplljgaaGreatZ1
namespace Go.Proofs.YtloghnpfplljgaaGreat
set_option maxRecDepth 100000
set_option maxHeartbeats 8000000
set_option linter.unusedVariables false
open Go.Proofs.Tryz
namespace CkM
open Go.ChangeShapes Go.WideShapes Go.ChangeAt Go.RowKit
def LRow (w : World) (b : Nat) (ls : List (Option Addr × Nat × Nat × List (Int × Int))) : Prop :=
 b < w.heap.size ∧ (∀ i, i < ls.length → w.cell? ⟨b, i, none⟩ = some (.slice (ls.getD i (none, 0, 0, [])).1 (ls.getD i (none, 0, 0, [])).2.1 (ls.getD i (none, 0, 0, [])).2.2.1)) ∧ Labs w ls
variable {ls : List (Option Addr × Nat × Nat × List (Int × Int))}
theorem LRow.next {w w' : World} {b : Nat} (h : LRow w b ls) (k : Below w.heap.size w w') : LRow w' b ls :=
 ⟨ltz h.1 k.size, fun i hi => (k.cell (p := ⟨b, i, none⟩) h.1).trans (h.2.1 i hi), h.2.2.next k⟩
theorem LRow.at {w : World} {b : Nat} (h : LRow w b ls) {i : Nat} (hi : i < ls.length) :
  ∃ ao n cap L, w.cell? ⟨b, i, none⟩ = some (.slice ao n cap) ∧ Lab w.heap.size w ao n cap L ∧ Hid (ls.getD i (none, 0, 0, []) = (ao, n, cap, L)) := by
 obtain ⟨ao, n, cap, L, e⟩ : ∃ ao n cap L, ls.getD i (none, 0, 0, []) = (ao, n, cap, L) := ⟨_, _, _, _, rfl⟩
 have hc := h.2.1 i hi
 rw [e] at hc
 refine ⟨ao, n, cap, L, hc, ?_, e⟩
 have hm : ls.getD i (none, 0, 0, []) ∈ ls := by
  rw [List.getD_eq_getElem?_getD, List.getElem?_eq_getElem hi]
  exact List.getElem_mem hi
 have := h.2.2 _ hm
 rw [e] at this
 exact this
def woz (ls : List (Option Addr × Nat × Nat × List (Int × Int))) (i : Nat) : List (Int × Int) := (ls.getD i (none, 0, 0, [])).2.2.2
def risB (ls : List (Option Addr × Nat × Nat × List (Int × Int))) : Bool := (List.range (ls.length - 1)).all fun j => leqB (woz ls j) (woz ls (j + 1))
theorem risB_no {j : Nat} (hj : j + 1 < ls.length) (h : leqB (woz ls j) (woz ls (j + 1)) = false) : risB ls = false := by
 unfold risB
 rw [List.all_eq_false]
 exact ⟨j, List.mem_range.2 (by omega), by rw [h]; simp⟩
theorem risB_yes (h : ∀ j, j + 1 < ls.length → leqB (woz ls j) (woz ls (j + 1)) = true) : risB ls = true := by
 unfold risB
 rw [List.all_eq_true]
 intro j hj
 exact h j (by have := List.mem_range.1 hj; omega)
theorem ypz {w : World} {Bx b m : Nat} (hm : ls.length = m) (h1 : 1 ≤ m) (hmm : m < 100) (hbx : w.cell? ⟨Bx, 0, none⟩ = some (.slice (some ⟨b, 0, none⟩) m m)) (hbl : Bx < w.heap.size) (hR : LRow w b ls) :
  Calls prog 222 #[.pointer (some ⟨Bx, 0, none⟩)] w fun e w' => e = .returned (.bool (risB ls)) ∧ Below w.heap.size w w' := by
 go_enter func222, ntmps222
 go_wp2
 go_loopw [2] (fun i wr => ∃ j : Nat, j + 1 ≤ m ∧ i = .int .i64 ((j + 1 : Nat) : Int) ∧ (∀ t, t < j → leqB (woz ls t) (woz ls (t + 1)) = true) ∧ Below w.heap.size w wr) (fun i _ => m - (intOf i).toNat)
 case atStart => exact ⟨0, by omega, rfl, fun j hj => absurd hj (by omega), brz _ _⟩
 case round =>
  obtain ⟨j, hj, rfl, hg, hb⟩ := hrel
  have hG : Hid (∀ t, t < j → leqB (woz ls t) (woz ls (t + 1)) = true) := hg
  clear hg
  have hbs := hb.size
  have cb := (hb.cell (p := ⟨Bx, 0, none⟩) hbl).trans hbx
  by_cases hjm : j + 1 < m
  ·obtain ⟨ao, n, cap, L, d0, hL, e0⟩ := (hR.next hb.drew).at (i := j) (by omega)
   obtain ⟨ao', n', cap', L', d1, hL', e1⟩ := (hR.next hb.drew).at (i := j + 1) (by omega)
   have hwm : IntKind.i64.wrap (((j + 1 : Nat) : Int) - 1) = j := by rw [IntKind.wrap_i64]; omega
   obtain ⟨k, hk⟩ : ∃ k, Hid (j + 1 = k) := ⟨_, rfl⟩
   rw [hk.out] at hwm d1 e1 hjm
   have hjm' : (k : Int) < m := by omega
   have hjm2 : (j : Int) < m := by omega
   have hl : Hid (leqB (woz ls j) (woz ls (j + 1)) = leqB L L') := by unfold woz; rw [hk.out, e0.out, e1.out]; rfl
   rw [hk.out]
   clear hR
   cases hq : leqB L L' with
   | false =>
    have hr : Hid (risB ls = false) := risB_no (j := j) (by have := hk.out; omega) (by rw [hl.out, hq])
    go_wp2
    go_region_held3 (fun w' => w'.cell? ⟨Bx, 0, none⟩ = some (.slice (some ⟨b, 0, none⟩) m m) ∧ w'.cell? ⟨b, j, none⟩ = some (.slice ao n cap) ∧ w'.cell? ⟨b, k, none⟩ = some (.slice ao' n' cap')) (go_keep) (first | (go_at_call 223; refine (kuz (B := 0) hL hL').mono ?_; rintro e w1 ⟨rfl, hb1⟩; have f0 := cell_later hb1 cb; have f1 := cell_later hb1 d0; have f2 := cell_later hb1 d1))
    go_wp2
    go_ret
    exact ⟨by rw [hr.out]; rfl, hb.drew.trans (hb1.mono hbs)⟩
   | true =>
    have hG' : Hid (∀ t, t < j + 1 → leqB (woz ls t) (woz ls (t + 1)) = true) := by
     intro t ht
     rcases Nat.lt_or_ge t j with h | h
     ·exact hG.out t h
     ·have : t = j := by omega
      rw [this, hl.out, hq]
    go_wp2
    go_region_held3 (fun w' => w'.cell? ⟨Bx, 0, none⟩ = some (.slice (some ⟨b, 0, none⟩) m m) ∧ w'.cell? ⟨b, j, none⟩ = some (.slice ao n cap) ∧ w'.cell? ⟨b, k, none⟩ = some (.slice ao' n' cap')) (go_keep) (first | (go_at_call 223; refine (kuz (B := 0) hL hL').mono ?_; rintro e w1 ⟨rfl, hb1⟩; have f0 := cell_later hb1 cb; have f1 := cell_later hb1 d0; have f2 := cell_later hb1 d1))
    go_wp2
    go_roundw
    case rel => exact ⟨j + 1, by have := hk.out; omega, by rw [hk.out]; go_num, hG'.out, hb.drew.trans (hb1.mono hbs)⟩
    case measure => have := hk.out; simp [intOf]; omega
  ·have hr : Hid (risB ls = true) := risB_yes (fun t ht => hG.out t (by omega))
   have hj1 : j + 1 = m := by omega
   clear hR
   subst hj1
   go_wp2
   go_ret
   exact ⟨by rw [hr.out]; rfl, hb⟩
end CkM
namespace CkM
open Go.ChangeShapes Go.WideShapes Go.ChangeAt Go.RowKit
def abvB (L : List (Int × Int)) : Bool := L.any fun p => decide (p.2 = 5)
variable {L : List (Int × Int)}
theorem abvB_hit {k : Nat} {x y : Int} (h : k < L.length) (e : L.getD k (0, 0) = (x, y)) (hy : y = 5) : abvB L = true := by
 have e' : L[k] = (x, y) := by simpa [List.getD_eq_getElem?_getD, List.getElem?_eq_getElem h] using e
 unfold abvB
 rw [List.any_eq_true]
 exact ⟨L[k], List.getElem_mem h, by rw [e']; simp [hy]⟩
theorem abvB_no (h : ∀ k, k < L.length → (L.getD k (0, 0)).2 ≠ 5) : abvB L = false := by
 unfold abvB
 rw [List.any_eq_false]
 intro p hp
 obtain ⟨k, hk, rfl⟩ := List.getElem_of_mem hp
 have := h k hk
 rw [List.getD_eq_getElem?_getD, List.getElem?_eq_getElem hk] at this
 simpa using this
theorem abv_succ {k : Nat} {x y : Int} (g : ∀ j, j < k → (L.getD j (0, 0)).2 ≠ 5) (e : L.getD k (0, 0) = (x, y)) (hy : y ≠ 5) : ∀ j, j < k + 1 → (L.getD j (0, 0)).2 ≠ 5 := fun j hj => by
 rcases Nat.lt_or_ge j k with h | h
 ·exact g j h
 ·have : j = k := by omega
  rw [this, e]; exact hy
theorem g6z (c v : Int) (w : World) : Calls prog 217 #[.agg #[.int .u64 c, .int .i64 v]] w fun e w' => e = .returned (.bool (v == 5)) ∧ Below w.heap.size w w' := by
 have hB := (brz w.heap.size w).alloc (lrz _) (.cells #[.int .u64 c, .int .i64 v] 86)
 go_enter func217, ntmps217
 go_wp2
 go_ret
 exact ⟨rfl, hB⟩
variable {w : World} {ao : Option Addr} {n cap : Nat}
theorem uiz (hL : Lab w.heap.size w ao n cap L) :
  Calls prog 258 #[.slice ao n cap, .func (.func 217) #[] #[]] w fun e w' => ∃ r : Int, e = .returned (.int .i64 r) ∧ (abvB L = true → 0 ≤ r) ∧ (abvB L = false → r = -1) ∧ Below w.heap.size w w' := by
 have hn := hL.1
 have hnc := hL.2.1
 have hcm := hL.2.2.1.1
 go_enter func258, ntmps258
 go_wp2
 go_loopw [8] (fun i wr => ∃ k : Nat, k ≤ n ∧ i = .int .i64 k ∧ (∀ j, j < k → (L.getD j (0, 0)).2 ≠ 5) ∧ Below w.heap.size w wr) (fun i _ => n - (intOf i).toNat)
 case atStart => exact ⟨0, Nat.zero_le _, rfl, fun j hj => absurd hj (by omega), brz _ _⟩
 case round =>
  obtain ⟨k, hk, rfl, hg, hb⟩ := hrel
  have hG : Hid (∀ j, j < k → (L.getD j (0, 0)).2 ≠ 5) := hg
  clear hg
  have hbs := hb.size
  by_cases hkn : k < n
  ·obtain ⟨b, off, x, y, rfl, hbB, d0, d1, hxy⟩ := hL.at hb hkn
   by_cases hy : y = 5
   ·have hr : Hid (abvB L = true) := abvB_hit (by omega) hxy.out hy
    subst hy
    clear hL
    go_wp2_with (go_at_call 217; refine (g6z _ _ _).mono ?_; rintro e w1 ⟨rfl, hb1⟩)
    go_ret
    exact ⟨_, rfl, fun _ => by omega, fun h => absurd (hr.out.symm.trans h) (by simp), hb.trans (hb1.mono hbs)⟩
   ·have hy' : (y == 5) = false := by simpa using hy
    clear hL
    go_wp2_with (go_at_call 217; refine (g6z _ _ _).mono ?_; rintro e w1 ⟨rfl, hb1⟩)
    go_roundw
    case rel => exact ⟨k + 1, by omega, by go_num, abv_succ hG.out hxy.out hy, hb.trans (hb1.mono hbs)⟩
    case measure => simp [intOf]; omega
  ·have hr : Hid (abvB L = false) := abvB_no (fun j hj => hG.out j (by omega))
   clear hL
   go_wp2
   go_ret
   exact ⟨_, rfl, fun h => absurd (hr.out.symm.trans h) (by simp), fun _ => rfl, hb⟩
theorem con2_any (hL : Lab w.heap.size w ao n cap L) :
  Calls prog 221 #[.slice ao n cap, .func (.func 217) #[] #[]] w fun e w' => e = .returned (.bool (abvB L)) ∧ Below w.heap.size w w' := by
 cases hq : abvB L with
 | false =>
  go_enter func221, ntmps221
  go_wp2_with (go_at_call 258; refine (uiz hL).mono ?_; rintro e w1 ⟨r, rfl, _, hr, hb1⟩; obtain rfl := hr hq)
  go_ret
  exact ⟨rfl, hb1⟩
 | true =>
  go_enter func221, ntmps221
  go_wp2_with (go_at_call 258; refine (uiz hL).mono ?_; rintro e w1 ⟨r, rfl, hr, _, hb1⟩; have hr0 := hr hq)
  go_ret
  exact ⟨by simp, hb1⟩
theorem ucz {Ba : Nat} (hL : Lab w.heap.size w ao n cap L) (hc : w.cell? ⟨Ba, 0, none⟩ = some (.func (.func 217) #[] #[])) :
  Calls prog 220 #[.slice ao n cap, .pointer (some ⟨Ba, 0, none⟩)] w fun e w' => e = .returned (.bool (abvB L)) ∧ Below w.heap.size w w' := by
 go_enter func220, ntmps220
 go_wp2_with (go_at_call 221; refine (con2_any hL).mono ?_; rintro e w1 ⟨rfl, hb1⟩)
 go_ret
 exact ⟨rfl, hb1⟩
def xvz (ls : List (Option Addr × Nat × Nat × List (Int × Int))) : Bool := (List.range ls.length).any fun j => abvB (woz ls j)
variable {ls : List (Option Addr × Nat × Nat × List (Int × Int))}
theorem b0z {j : Nat} (hj : j < ls.length) (h : abvB (woz ls j) = true) : xvz ls = true := by
 unfold xvz
 rw [List.any_eq_true]
 exact ⟨j, List.mem_range.2 hj, h⟩
theorem abvsB_no (h : ∀ j, j < ls.length → abvB (woz ls j) = false) : xvz ls = false := by
 unfold xvz
 rw [List.any_eq_false]
 intro j hj
 rw [h j (List.mem_range.1 hj)]
 simp
theorem ujz {b m Ba : Nat} (hm : ls.length = m) (hmm : m < 100) (hR : LRow w b ls) (hba : Ba < w.heap.size) (hc : w.cell? ⟨Ba, 0, none⟩ = some (.func (.func 217) #[] #[])) :
  Calls prog 257 #[.slice (some ⟨b, 0, none⟩) m m, .func (.func 220) #[] #[.pointer (some ⟨Ba, 0, none⟩)]] w fun e w' => ∃ r : Int, e = .returned (.int .i64 r) ∧ (xvz ls = true → 0 ≤ r) ∧ (xvz ls = false → r = -1) ∧ Below w.heap.size w w' := by
 go_enter func257, ntmps257
 go_wp2
 go_loopw [8] (fun i wr => ∃ k : Nat, k ≤ m ∧ i = .int .i64 k ∧ (∀ j, j < k → abvB (woz ls j) = false) ∧ Below w.heap.size w wr) (fun i _ => m - (intOf i).toNat)
 case atStart => exact ⟨0, Nat.zero_le _, rfl, fun j hj => absurd hj (by omega), brz _ _⟩
 case round =>
  obtain ⟨k, hk, rfl, hg, hb⟩ := hrel
  have hG : Hid (∀ j, j < k → abvB (woz ls j) = false) := hg
  clear hg
  have hbs := hb.size
  have cb := (hb.cell (p := ⟨Ba, 0, none⟩) hba).trans hc
  by_cases hkm : k < m
  ·obtain ⟨ao, n, cap, L, d0, hL, e0⟩ := (hR.next hb).at (i := k) (by omega)
   have hl : Hid (woz ls k = L) := by show (ls.getD k _).2.2.2 = L; rw [e0.out]
   clear hR hc
   cases hq : abvB L with
   | true =>
    have hr : Hid (xvz ls = true) := b0z (j := k) (by omega) (by rw [hl.out, hq])
    go_wp2_with (go_at_call 220; refine (ucz hL cb).mono ?_; rintro e w1 ⟨rfl, hb1⟩; rw [hq])
    go_ret
    exact ⟨_, rfl, fun _ => by omega, fun h => absurd (hr.out.symm.trans h) (by simp), hb.trans (hb1.mono hbs)⟩
   | false =>
    have hG' : Hid (∀ j, j < k + 1 → abvB (woz ls j) = false) := by
     intro j hj
     rcases Nat.lt_or_ge j k with h | h
     ·exact hG.out j h
     ·have : j = k := by omega
      rw [this, hl.out, hq]
    go_wp2_with (go_at_call 220; refine (ucz hL cb).mono ?_; rintro e w1 ⟨rfl, hb1⟩; rw [hq])
    go_roundw
    case rel => exact ⟨k + 1, by omega, by go_num, hG'.out, hb.trans (hb1.mono hbs)⟩
    case measure => simp [intOf]; omega
  ·have hr : Hid (xvz ls = false) := abvsB_no (fun j hj => hG.out j (by omega))
   clear hR hc
   go_wp2
   go_ret
   exact ⟨_, rfl, fun h => absurd (hr.out.symm.trans h) (by simp), fun _ => rfl, hb⟩
theorem con1_any {b m Ba : Nat} (hm : ls.length = m) (hmm : m < 100) (hR : LRow w b ls) (hba : Ba < w.heap.size) (hc : w.cell? ⟨Ba, 0, none⟩ = some (.func (.func 217) #[] #[])) :
  Calls prog 219 #[.slice (some ⟨b, 0, none⟩) m m, .func (.func 220) #[] #[.pointer (some ⟨Ba, 0, none⟩)]] w fun e w' => e = .returned (.bool (xvz ls)) ∧ Below w.heap.size w w' := by
 cases hq : xvz ls with
 | false =>
  go_enter func219, ntmps219
  go_wp2_with (go_at_call 257; refine (ujz hm hmm hR hba hc).mono ?_; rintro e w1 ⟨r, rfl, _, hr, hb1⟩; obtain rfl := hr hq)
  go_ret
  exact ⟨rfl, hb1⟩
 | true =>
  go_enter func219, ntmps219
  go_wp2_with (go_at_call 257; refine (ujz hm hmm hR hba hc).mono ?_; rintro e w1 ⟨r, rfl, hr, _, hb1⟩; have hr0 := hr hq)
  go_ret
  exact ⟨by simp, hb1⟩
theorem na2_any {Bx b m Ba : Nat} (hm : ls.length = m) (hmm : m < 100) (hbx : w.cell? ⟨Bx, 0, none⟩ = some (.slice (some ⟨b, 0, none⟩) m m)) (hR : LRow w b ls) (hba : Ba < w.heap.size) (hc : w.cell? ⟨Ba, 0, none⟩ = some (.func (.func 217) #[] #[])) :
  Calls prog 218 #[.pointer (some ⟨Bx, 0, none⟩), .pointer (some ⟨Ba, 0, none⟩)] w fun e w' => e = .returned (.bool (!xvz ls)) ∧ Below w.heap.size w w' := by
 go_enter func218, ntmps218
 go_wp2_with (go_at_call 219; refine (con1_any hm hmm hR hba hc).mono ?_; rintro e w1 ⟨rfl, hb1⟩)
 go_ret
 exact ⟨rfl, hb1⟩
end CkM
namespace CkM
open Go.ChangeShapes Go.WideShapes Go.ChangeAt Go.RowKit
def Asks (w : World) (q : Value) (v : Bool) : Prop := ∃ (g : Nat) (lb : Array Value), q = .func (.func g) #[] lb ∧ (∀ args w, (callFunc g args).run prog w = .ok (.enter g args) w) ∧
 ∀ W, Below w.heap.size w W → Calls prog g lb W fun e W' => e = .returned (.bool v) ∧ Below W.heap.size W W'
theorem Asks.next {w w' : World} {q : Value} {v : Bool} (h : Asks w q v) (k : Below w.heap.size w w') : Asks w' q v := by
 obtain ⟨g, lb, e, eg, hc⟩ := h
 exact ⟨g, lb, e, eg, fun W hW => hc W (btz k hW)⟩
def QRow (w : World) (b : Nat) (qs : List (Value × Bool)) : Prop :=
 b < w.heap.size ∧ ∀ i, i < qs.length → w.cell? ⟨b, i, none⟩ = some (qs.getD i (undef, false)).1 ∧ Asks w (qs.getD i (undef, false)).1 (qs.getD i (undef, false)).2
variable {qs : List (Value × Bool)}
theorem QRow.at {w W : World} {b : Nat} (h : QRow w b qs) (k : Below w.heap.size w W) {i : Nat} (hi : i < qs.length) :
  ∃ (g : Nat) (lb : Array Value) (v : Bool), W.cell? ⟨b, i, none⟩ = some (.func (.func g) #[] lb) ∧ (∀ args w, (callFunc g args).run prog w = .ok (.enter g args) w) ∧
   (Calls prog g lb W fun e W' => e = .returned (.bool v) ∧ Below W.heap.size W W') ∧ Hid ((qs.getD i (undef, false)).2 = v) := by
 obtain ⟨hc, g, lb, e, eg, hq⟩ := h.2 i hi
 refine ⟨g, lb, _, ?_, eg, hq W k, rfl⟩
 rw [← e]
 exact (k.cell (p := ⟨b, i, none⟩) h.1).trans hc
def allQ (qs : List (Value × Bool)) : Bool := qs.all (·.2)
theorem allQ_no {i : Nat} (hi : i < qs.length) (h : (qs.getD i (undef, false)).2 = false) : allQ qs = false := by
 unfold allQ
 rw [List.all_eq_false]
 refine ⟨qs[i], List.getElem_mem hi, ?_⟩
 rw [List.getD_eq_getElem?_getD, List.getElem?_eq_getElem hi] at h
 simpa using h
theorem allQ_yes (h : ∀ i, i < qs.length → (qs.getD i (undef, false)).2 = true) : allQ qs = true := by
 unfold allQ
 rw [List.all_eq_true]
 intro x hx
 obtain ⟨i, hi, rfl⟩ := List.getElem_of_mem hx
 have := h i hi
 rw [List.getD_eq_getElem?_getD, List.getElem?_eq_getElem hi] at this
 simpa using this
variable {w : World} {b m : Nat}
theorem k0z (hm : qs.length = m) (hmm : m < 100) (hQ : QRow w b qs) :
  Calls prog 174 #[.slice (some ⟨b, 0, none⟩) m m] w fun e w' => e = .returned (.bool (allQ qs)) ∧ Below w.heap.size w w' := by
 go_enter func174, ntmps174
 go_wp2
 go_loopw [7] (fun i wr => ∃ k : Nat, k ≤ m ∧ i = .int .i64 k ∧ (∀ j, j < k → (qs.getD j (undef, false)).2 = true) ∧ Below w.heap.size w wr) (fun i _ => m - (intOf i).toNat)
 case atStart => exact ⟨0, Nat.zero_le _, rfl, fun j hj => absurd hj (by omega), brz _ _⟩
 case round =>
  obtain ⟨k, hk, rfl, hg, hb⟩ := hrel
  have hG : Hid (∀ j, j < k → (qs.getD j (undef, false)).2 = true) := hg
  clear hg
  have hbs := hb.size
  by_cases hkm : k < m
  ·obtain ⟨g, lb, v, d0, eg, hc, hv⟩ := hQ.at hb (i := k) (by omega)
   clear hQ
   cases v with
   | false =>
    have hr : Hid (allQ qs = false) := allQ_no (i := k) (by omega) hv.out
    go_wp2_with (refine Calls.mono (by simpa using hc) ?_; rintro e w1 ⟨rfl, hb1⟩)
    go_ret
    exact ⟨by rw [hr.out]; rfl, hb.trans (hb1.mono hbs)⟩
   | true =>
    have hG' : Hid (∀ j, j < k + 1 → (qs.getD j (undef, false)).2 = true) := by
     intro j hj
     rcases Nat.lt_or_ge j k with h | h
     ·exact hG.out j h
     ·have : j = k := by omega
      rw [this]; exact hv.out
    go_wp2_with (refine Calls.mono (by simpa using hc) ?_; rintro e w1 ⟨rfl, hb1⟩)
    go_roundw
    case rel => exact ⟨k + 1, by omega, by go_num, hG'.out, hb.trans (hb1.mono hbs)⟩
    case measure => simp [intOf]; omega
  ·have hr : Hid (allQ qs = true) := allQ_yes (fun j hj => hG.out j (by omega))
   clear hQ
   go_wp2
   go_ret
   exact ⟨by rw [hr.out]; rfl, hb⟩
variable {t : TypeId}
theorem uxz (xs : List Value) {i : Nat} {v : Value} (h : xs[i]? = some v) : (w.alloc (.cells xs.toArray t)).cell? ⟨w.heap.size, i, none⟩ = some v := by
 have h2 := World.alloc_heap_new w (.cells xs.toArray t)
 unfold World.cell?
 rw [h2]
 simp [h]
theorem jRz (qs : List (Value × Bool)) (h : ∀ x ∈ qs, Asks w x.1 x.2) : QRow (w.alloc (.cells (qs.map (·.1)).toArray t)) w.heap.size qs := by
 have k := (brz w.heap.size w).alloc (lrz _) (.cells (qs.map (·.1)).toArray t)
 refine ⟨by simp, fun i hi => ?_⟩
 have e : qs.getD i (undef, false) = qs[i] := by rw [List.getD_eq_getElem?_getD, List.getElem?_eq_getElem hi]; rfl
 rw [e]
 exact ⟨uxz _ (by simp [hi]), (h _ (List.getElem_mem hi)).next k⟩
theorem xSz (ls : List (Option Addr × Nat × Nat × List (Int × Int))) (h : Labs w ls) : LRow (w.alloc (.cells (ls.map fun x => Value.slice x.1 x.2.1 x.2.2.1).toArray t)) w.heap.size ls := by
 have k := (brz w.heap.size w).alloc (lrz _) (.cells (ls.map fun x => Value.slice x.1 x.2.1 x.2.2.1).toArray t)
 refine ⟨by simp, fun i hi => ?_, h.next k⟩
 have e : ls.getD i (none, 0, 0, []) = ls[i] := by rw [List.getD_eq_getElem?_getD, List.getElem?_eq_getElem hi]; rfl
 rw [e]
 exact uxz _ (by simp [hi])
theorem wwz (w : World) (o : Obj) {w' : World} (h : Below (w.alloc o).heap.size (w.alloc o) w') : Below w.heap.size w w' := ((brz w.heap.size w).alloc (lrz _) o).trans (h.mono (by simp))
theorem holds1_any (w : World) {q : Value} {v : Bool} (h : Asks w q v) :
  Calls prog 174 #[.slice (some ⟨w.heap.size, 0, none⟩) 1 1] (w.alloc (.cells #[q] 192)) fun e w' => e = .returned (.bool v) ∧ Below w.heap.size w w' := by
 refine (k0z (m := 1) (qs := [(q, v)]) rfl (by omega) (jRz [(q, v)] (by intro x hx; simp at hx; subst hx; exact h))).mono ?_
 rintro e w' ⟨rfl, hb⟩
 exact ⟨by simp [allQ], wwz _ _ hb⟩
theorem u4z (w : World) {q q' : Value} {v v' : Bool} (h : Asks w q v) (h' : Asks w q' v') :
  Calls prog 174 #[.slice (some ⟨w.heap.size, 0, none⟩) 2 2] (w.alloc (.cells #[q, q'] 192)) fun e w' => e = .returned (.bool (v && v')) ∧ Below w.heap.size w w' := by
 refine (k0z (m := 2) (qs := [(q, v), (q', v')]) rfl (by omega) (jRz [(q, v), (q', v')] (by intro x hx; simp at hx; rcases hx with rfl | rfl; exact h; exact h'))).mono ?_
 rintro e w' ⟨rfl, hb⟩
 exact ⟨by simp [allQ], wwz _ _ hb⟩
theorem u3z (w : World) {q q' q'' : Value} {v v' v'' : Bool} (h : Asks w q v) (h' : Asks w q' v') (h'' : Asks w q'' v'') :
  Calls prog 174 #[.slice (some ⟨w.heap.size, 0, none⟩) 3 3] (w.alloc (.cells #[q, q', q''] 192)) fun e w' => e = .returned (.bool (v && (v' && v''))) ∧ Below w.heap.size w w' := by
 refine (k0z (m := 3) (qs := [(q, v), (q', v'), (q'', v'')]) rfl (by omega) (jRz [(q, v), (q', v'), (q'', v'')] (by intro x hx; simp at hx; rcases hx with rfl | rfl | rfl; exact h; exact h'; exact h''))).mono ?_
 rintro e w' ⟨rfl, hb⟩
 exact ⟨by simp [allQ], wwz _ _ hb⟩
variable {ls : List (Option Addr × Nat × Nat × List (Int × Int))}
theorem x3z (hm : ls.length = m) (h1 : 1 ≤ m) (hmm : m < 100) (hR : LRow w b ls) :
  Calls prog 176 #[.slice (some ⟨b, 0, none⟩) m m] w fun e w' => ∃ q, e = .returned q ∧ Asks w' q (risB ls) ∧ Below w.heap.size w w' := by
 have hB := (brz w.heap.size w).alloc (lrz _) (.cells #[.slice (some ⟨b, 0, none⟩) m m] 228)
 have bx := Boxed.new w 228 (.slice (some ⟨b, 0, none⟩) m m)
 go_enter func176, ntmps176
 go_wp2
 go_ret
 refine ⟨_, rfl, ⟨222, _, rfl, enters_of func222 (by kernel_rfl) rfl, fun W hW => ?_⟩, hB⟩
 exact ypz hm h1 hmm (cell_later hW bx.cell) (ltz bx.lt hW.size) ((hR.next hB).next hW)
theorem xQz (hm : ls.length = m) (hmm : m < 100) (hR : LRow w b ls) :
  Calls prog 175 #[.slice (some ⟨b, 0, none⟩) m m] w fun e w' => ∃ q, e = .returned q ∧ Asks w' q (!xvz ls) ∧ Below w.heap.size w w' := by
 have hB0 := (brz w.heap.size w).alloc (lrz _) (.cells #[.slice (some ⟨b, 0, none⟩) m m] 228)
 have hB1 := hB0.alloc (by simp) (.cells #[.func (.func 217) #[] #[]] 229)
 have bx := (Boxed.new w 228 (.slice (some ⟨b, 0, none⟩) m m)).alloc (.cells #[.func (.func 217) #[] #[]] 229)
 have ba := Boxed.new (w.alloc (.cells #[.slice (some ⟨b, 0, none⟩) m m] 228)) 229 (.func (.func 217) #[] #[])
 simp only [World.size_alloc] at ba
 go_enter func175, ntmps175
 go_wp2
 go_ret
 refine ⟨_, rfl, ⟨218, _, rfl, enters_of func218 (by kernel_rfl) rfl, fun W hW => ?_⟩, hB1⟩
 exact na2_any hm hmm (cell_later hW bx.cell) ((hR.next hB1).next hW) (ltz ba.lt hW.size) (cell_later hW ba.cell)
end CkM
namespace CkM
open Go.ChangeShapes Go.WideShapes Go.ChangeAt Go.RowKit
variable {a1 a2 : Option Addr} {n1 n2 c1 c2 : Nat} {A1 A2 : List (Int × Int)}
theorem kPz (w : World) (h1 : Lab w.heap.size w a1 n1 c1 A1) (h2 : Lab w.heap.size w a2 n2 c2 A2) :
  Calls prog 176 #[.slice (some ⟨w.heap.size, 0, none⟩) 2 2] (w.alloc (.cells #[.slice a1 n1 c1, .slice a2 n2 c2] 39)) fun e w' => ∃ q, e = .returned q ∧ Asks w' q (leqB A1 A2) ∧ Below w.heap.size w w' := by
 refine (x3z (m := 2) (ls := [(a1, n1, c1, A1), (a2, n2, c2, A2)]) rfl (by omega) (by omega) (xSz [(a1, n1, c1, A1), (a2, n2, c2, A2)] (((Labs.nil w).push h2).push h1))).mono ?_
 rintro e w' ⟨q, rfl, ha, hb⟩
 refine ⟨q, rfl, ?_, wwz _ _ hb⟩
 have e : risB [(a1, n1, c1, A1), (a2, n2, c2, A2)] = leqB A1 A2 := by simp [risB, woz]
 rw [e] at ha
 exact ha
theorem yoz (w : World) {a1 a2 a3 : Option Addr} {n1 n2 n3 c1 c2 c3 : Nat} {A1 A2 A3 : List (Int × Int)} (h1 : Lab w.heap.size w a1 n1 c1 A1) (h2 : Lab w.heap.size w a2 n2 c2 A2) (h3 : Lab w.heap.size w a3 n3 c3 A3) :
  Calls prog 176 #[.slice (some ⟨w.heap.size, 0, none⟩) 3 3] (w.alloc (.cells #[.slice a1 n1 c1, .slice a2 n2 c2, .slice a3 n3 c3] 39)) fun e w' => ∃ q, e = .returned q ∧ Asks w' q (leqB A1 A2 && leqB A2 A3) ∧ Below w.heap.size w w' := by
 refine (x3z (m := 3) (ls := [(a1, n1, c1, A1), (a2, n2, c2, A2), (a3, n3, c3, A3)]) rfl (by omega) (by omega) (xSz [(a1, n1, c1, A1), (a2, n2, c2, A2), (a3, n3, c3, A3)] ((((Labs.nil w).push h3).push h2).push h1))).mono ?_
 rintro e w' ⟨q, rfl, ha, hb⟩
 refine ⟨q, rfl, ?_, wwz _ _ hb⟩
 have e : risB [(a1, n1, c1, A1), (a2, n2, c2, A2), (a3, n3, c3, A3)] = (leqB A1 A2 && leqB A2 A3) := by simp [risB, woz, List.range_succ]
 rw [e] at ha
 exact ha
theorem ynz (w : World) {a1 a2 a3 a4 : Option Addr} {n1 n2 n3 n4 c1 c2 c3 c4 : Nat} {A1 A2 A3 A4 : List (Int × Int)} (h1 : Lab w.heap.size w a1 n1 c1 A1) (h2 : Lab w.heap.size w a2 n2 c2 A2) (h3 : Lab w.heap.size w a3 n3 c3 A3) (h4 : Lab w.heap.size w a4 n4 c4 A4) :
  Calls prog 176 #[.slice (some ⟨w.heap.size, 0, none⟩) 4 4] (w.alloc (.cells #[.slice a1 n1 c1, .slice a2 n2 c2, .slice a3 n3 c3, .slice a4 n4 c4] 39)) fun e w' => ∃ q, e = .returned q ∧ Asks w' q (leqB A1 A2 && (leqB A2 A3 && leqB A3 A4)) ∧ Below w.heap.size w w' := by
 refine (x3z (m := 4) (ls := [(a1, n1, c1, A1), (a2, n2, c2, A2), (a3, n3, c3, A3), (a4, n4, c4, A4)]) rfl (by omega) (by omega) (xSz [(a1, n1, c1, A1), (a2, n2, c2, A2), (a3, n3, c3, A3), (a4, n4, c4, A4)] (((((Labs.nil w).push h4).push h3).push h2).push h1))).mono ?_
 rintro e w' ⟨q, rfl, ha, hb⟩
 refine ⟨q, rfl, ?_, wwz _ _ hb⟩
 have e : risB [(a1, n1, c1, A1), (a2, n2, c2, A2), (a3, n3, c3, A3), (a4, n4, c4, A4)] = (leqB A1 A2 && (leqB A2 A3 && leqB A3 A4)) := by simp [risB, woz, List.range_succ]
 rw [e] at ha
 exact ha
theorem jgz (w : World) {a1 : Option Addr} {n1 c1 : Nat} {A1 : List (Int × Int)} (h1 : Lab w.heap.size w a1 n1 c1 A1) :
  Calls prog 175 #[.slice (some ⟨w.heap.size, 0, none⟩) 1 1] (w.alloc (.cells #[.slice a1 n1 c1] 39)) fun e w' => ∃ q, e = .returned q ∧ Asks w' q (!abvB A1) ∧ Below w.heap.size w w' := by
 refine (xQz (m := 1) (ls := [(a1, n1, c1, A1)]) rfl (by omega) (xSz [(a1, n1, c1, A1)] ((Labs.nil w).push h1))).mono ?_
 rintro e w' ⟨q, rfl, ha, hb⟩
 refine ⟨q, rfl, ?_, wwz _ _ hb⟩
 have e : xvz [(a1, n1, c1, A1)] = abvB A1 := by simp [xvz, woz]
 rw [e] at ha
 exact ha
theorem jfz (w : World) (h1 : Lab w.heap.size w a1 n1 c1 A1) (h2 : Lab w.heap.size w a2 n2 c2 A2) :
  Calls prog 175 #[.slice (some ⟨w.heap.size, 0, none⟩) 2 2] (w.alloc (.cells #[.slice a1 n1 c1, .slice a2 n2 c2] 39)) fun e w' => ∃ q, e = .returned q ∧ Asks w' q (!abvB A1 && !abvB A2) ∧ Below w.heap.size w w' := by
 refine (xQz (m := 2) (ls := [(a1, n1, c1, A1), (a2, n2, c2, A2)]) rfl (by omega) (xSz [(a1, n1, c1, A1), (a2, n2, c2, A2)] (((Labs.nil w).push h2).push h1))).mono ?_
 rintro e w' ⟨q, rfl, ha, hb⟩
 refine ⟨q, rfl, ?_, wwz _ _ hb⟩
 have e : (!xvz [(a1, n1, c1, A1), (a2, n2, c2, A2)]) = (!abvB A1 && !abvB A2) := by simp [xvz, woz, List.range_succ]
 rw [e] at ha
 exact ha
def ownsNo (L : List (Int × Int)) : Bool := (wOz L).length == 0
variable {w : World} {L : List (Int × Int)}
theorem jez {ao : Option Addr} {n cap B : Nat} (hc : w.cell? ⟨B, 0, none⟩ = some (.slice ao n cap)) (hL : Lab w.heap.size w ao n cap L) (hk : n < 1048576) :
  Calls prog 230 #[.pointer (some ⟨B, 0, none⟩)] w fun e w' => e = .returned (.bool (ownsNo L)) ∧ Below w.heap.size w w' := by
 go_enter func230, ntmps230
 go_wp2_with (go_at_call 205; refine (vAz hL (by omega)).mono ?_; rintro e w1 ⟨ao1, n1, cap1, rfl, h1, hb1⟩)
 go_ret
 have e : ((n1 : Int) == 0) = (n1 == 0) := by rw [Bool.eq_iff_iff]; simp
 have e2 : ownsNo L = ((n1 : Int) == 0) := by unfold ownsNo; rw [h1.1, e]
 exact ⟨by rw [e2]; rfl, hb1⟩
theorem jWz {ao : Option Addr} {n cap : Nat} (hL : Lab w.heap.size w ao n cap L) (hk : n < 1048576) :
  Calls prog 182 #[.slice ao n cap] w fun e w' => ∃ q, e = .returned q ∧ Asks w' q (ownsNo L) ∧ Below w.heap.size w w' := by
 have hB := (brz w.heap.size w).alloc (lrz _) (.cells #[.slice ao n cap] 39)
 have bx := Boxed.new w 39 (.slice ao n cap)
 go_enter func182, ntmps182
 go_wp2
 go_ret
 refine ⟨_, rfl, ⟨230, _, rfl, enters_of func230 (by kernel_rfl) rfl, fun W hW => ?_⟩, hB⟩
 exact jez (cell_later hW bx.cell) ((hL.next hB).next hW) hk
theorem sees_any {T O : List (Int × Int)} (h1 : Lab w.heap.size w a1 n1 c1 T) (h2 : Lab w.heap.size w a2 n2 c2 O) (k1 : n1 < 1048576) :
  Calls prog 282 #[.slice a1 n1 c1, .slice a2 n2 c2] w fun e w' => ∃ q, e = .returned q ∧ Asks w' q (leqB O (wsz T)) ∧ Below w.heap.size w w' := by
 go_enter func282, ntmps282
 go_wp2_with (first | (go_at_call 241; refine (udz h1 (by omega)).mono ?_; rintro e w1 ⟨ao1, m1, cap1, rfl, hr, hl, hb1⟩) | (go_at_call 176; refine (kPz w1 (h2.next hb1) hr).mono ?_; rintro e w2 ⟨q, rfl, hq, hb2⟩))
 go_ret
 exact ⟨q, rfl, hq, btz hb1 hb2⟩
end CkM
namespace CkM
open Go.ChangeShapes Go.WideShapes Go.ChangeAt Go.RowKit
variable {w : World}
theorem place_any {aD aO : Option Addr} {nD cD nO cO : Nat} {D O : List (Int × Int)} (hD : Lab w.heap.size w aD nD cD D) (hO : Lab w.heap.size w aO nO cO O) (kD : nD < 1048576) (kO : nO < 1048576) :
  Calls prog 197 #[.slice aD nD cD, .slice aO nO cO] w fun e w' => e = .returned (.bool (leqB D (vNz (wsz O) []))) ∧ Below w.heap.size w w' := by
 have hB := brz w.heap.size w
 go_enter func197, ntmps197
 go_wp2_with (first | (go_at_call 241; refine (udz hO (by omega)).mono ?_; rintro e w1 ⟨aR, nR, cR, rfl, hl, knR, kb⟩; replace hD := hD.next kb; replace hO := hO.next kb; replace hB := btz hB kb; have hR := hl; clear hl kb) | (go_at_call 240; refine (ljoin_b hR (Lab.nil _ _) (by omega) (by omega)).mono ?_; rintro e w1 ⟨aJ, nJ, cJ, rfl, hl, knJ, kb⟩; replace hD := hD.next kb; replace hO := hO.next kb; replace hR := hR.next kb; replace hB := btz hB kb; have hJ := hl; clear hl kb) | (go_at_call 176; refine (kPz _ hD hJ).mono ?_; rintro e w1 ⟨q1, rfl, hq, kb⟩; replace hD := hD.next kb; replace hO := hO.next kb; replace hR := hR.next kb; replace hJ := hJ.next kb; replace hB := btz hB kb; have hq1 := hq; clear hq kb; obtain ⟨g1, l1, rfl, _, _⟩ := id hq1) | (go_at_call 174; refine (holds1_any _ hq1).mono ?_; rintro e w1 ⟨rfl, kb⟩; replace hB := btz hB kb))
 go_ret
 exact ⟨rfl, hB⟩
theorem create_any {aT aK aO : Option Addr} {nT cT nK cK nO cO : Nat} {T K O : List (Int × Int)} (hT : Lab w.heap.size w aT nT cT T) (hK : Lab w.heap.size w aK nK cK K) (hO : Lab w.heap.size w aO nO cO O) (kT : nT < 1048576) (kK : nK < 1048576) (kO : nO < 1048576) :
  Calls prog 143 #[.slice aT nT cT, .slice aK nK cK, .slice aO nO cO] w fun e w' => e = .returned (.bool (ownsNo O && (!abvB O && (leqB T O && leqB O K)))) ∧ Below w.heap.size w w' := by
 have hB := brz w.heap.size w
 go_enter func143, ntmps143
 go_wp2_with (first | (go_at_call 182; refine (jWz hO (by omega)).mono ?_; rintro e w1 ⟨q1, rfl, hq, kb⟩; replace hT := hT.next kb; replace hK := hK.next kb; replace hO := hO.next kb; replace hB := btz hB kb; have hq1 := hq; clear hq kb; obtain ⟨g1, l1, rfl, _, _⟩ := id hq1) | (go_at_call 175; refine (jgz _ hO).mono ?_; rintro e w1 ⟨q2, rfl, hq, kb⟩; replace hT := hT.next kb; replace hK := hK.next kb; replace hO := hO.next kb; replace hq1 := hq1.next kb; replace hB := btz hB kb; have hq2 := hq; clear hq kb; obtain ⟨g2, l2, rfl, _, _⟩ := id hq2) | (go_at_call 176; refine (yoz _ hT hO hK).mono ?_; rintro e w1 ⟨q3, rfl, hq, kb⟩; replace hT := hT.next kb; replace hK := hK.next kb; replace hO := hO.next kb; replace hq1 := hq1.next kb; replace hq2 := hq2.next kb; replace hB := btz hB kb; have hq3 := hq; clear hq kb; obtain ⟨g3, l3, rfl, _, _⟩ := id hq3) | (go_at_call 174; refine (u3z _ hq1 hq2 hq3).mono ?_; rintro e w1 ⟨rfl, kb⟩; replace hB := btz hB kb))
 go_ret
 exact ⟨rfl, hB⟩
theorem spawn_any {aT aK aN aM : Option Addr} {nT cT nK cK nN cN nM cM : Nat} {T K N M : List (Int × Int)} (hT : Lab w.heap.size w aT nT cT T) (hK : Lab w.heap.size w aK nK cK K) (hN : Lab w.heap.size w aN nN cN N) (hM : Lab w.heap.size w aM nM cM M) (kT : nT < 1048576) (kK : nK < 1048576) (kN : nN < 1048576) (kM : nM < 1048576) :
  Calls prog 137 #[.slice aT nT cT, .slice aK nK cK, .slice aN nN cN, .slice aM nM cM] w fun e w' => e = .returned (.bool ((!abvB N && !abvB M) && (leqB T N && (leqB N M && leqB M K)))) ∧ Below w.heap.size w w' := by
 have hB := brz w.heap.size w
 go_enter func137, ntmps137
 go_wp2_with (first | (go_at_call 175; refine (jfz _ hN hM).mono ?_; rintro e w1 ⟨q1, rfl, hq, kb⟩; replace hT := hT.next kb; replace hK := hK.next kb; replace hN := hN.next kb; replace hM := hM.next kb; replace hB := btz hB kb; have hq1 := hq; clear hq kb; obtain ⟨g1, l1, rfl, _, _⟩ := id hq1) | (go_at_call 176; refine (ynz _ hT hN hM hK).mono ?_; rintro e w1 ⟨q2, rfl, hq, kb⟩; replace hT := hT.next kb; replace hK := hK.next kb; replace hN := hN.next kb; replace hM := hM.next kb; replace hq1 := hq1.next kb; replace hB := btz hB kb; have hq2 := hq; clear hq kb; obtain ⟨g2, l2, rfl, _, _⟩ := id hq2) | (go_at_call 174; refine (u4z _ hq1 hq2).mono ?_; rintro e w1 ⟨rfl, kb⟩; replace hB := btz hB kb))
 go_ret
 exact ⟨rfl, hB⟩
end CkM
end Go.Proofs.YtloghnpfplljgaaGreat
