/-
  PROVED HERE: what a row of check's questions answers, and what the makers of the questions return (contracts over this translation). A row has fewer than 100 of them; labels have fewer than 2^38 pairs.
-/
import Derived.Test.YtkhnlgbebbhmbaaChk2
import Derived.Laws.EntriesVeiled
namespace Go.Proofs.Ytkhnlgbebbhmbaa
open Go.ChangeShapes Go.WideShapes Go.ChangeAt Go.RowKit
set_option linter.unusedVariables false

/-- The function value q answers v, in w and in every world that keeps what lies in w. -/
def Asks (w : World) (q : Value) (v : Bool) : Prop := ∃ (g : Nat) (lb : Array Value), q = .func (.func g) #[] lb ∧ (∀ args w, (callFunc g args).run Try.prog w = .ok (.enter g args) w) ∧
  ∀ W, Below w.heap.size w W → Calls Try.prog g lb W fun e W' => e = .returned (.bool v) ∧ Below W.heap.size W W'
theorem Asks.next {w w' : World} {q : Value} {v : Bool} (h : Asks w q v) (k : Below w.heap.size w w') : Asks w' q v := by
  obtain ⟨g, lb, e, eg, hc⟩ := h
  exact ⟨g, lb, e, eg, fun W hW => hc W (k.trans (hW.mono k.size))⟩

def QRow (w : World) (b : Nat) (qs : List (Value × Bool)) : Prop :=
  b < w.heap.size ∧ ∀ i, i < qs.length → w.cell? ⟨b, i, none⟩ = some (qs.getD i (undef, false)).1 ∧ Asks w (qs.getD i (undef, false)).1 (qs.getD i (undef, false)).2
theorem QRow.at {w W : World} {b : Nat} {qs : List (Value × Bool)} (h : QRow w b qs) (k : Below w.heap.size w W) {i : Nat} (hi : i < qs.length) :
    ∃ (g : Nat) (lb : Array Value) (v : Bool), W.cell? ⟨b, i, none⟩ = some (.func (.func g) #[] lb) ∧ (∀ args w, (callFunc g args).run Try.prog w = .ok (.enter g args) w) ∧
      (Calls Try.prog g lb W fun e W' => e = .returned (.bool v) ∧ Below W.heap.size W W') ∧ Hid ((qs.getD i (undef, false)).2 = v) := by
  obtain ⟨hc, g, lb, e, eg, hq⟩ := h.2 i hi
  refine ⟨g, lb, _, ?_, eg, hq W k, rfl⟩
  rw [← e]
  exact (k.cell (p := ⟨b, i, none⟩) h.1).trans hc

def allQ (qs : List (Value × Bool)) : Bool := qs.all (·.2)
theorem allQ_no {qs : List (Value × Bool)} {i : Nat} (hi : i < qs.length) (h : (qs.getD i (undef, false)).2 = false) : allQ qs = false := by
  unfold allQ
  rw [List.all_eq_false]
  refine ⟨qs[i], List.getElem_mem hi, ?_⟩
  rw [List.getD_eq_getElem?_getD, List.getElem?_eq_getElem hi] at h
  simpa using h
theorem allQ_yes {qs : List (Value × Bool)} (h : ∀ i, i < qs.length → (qs.getD i (undef, false)).2 = true) : allQ qs = true := by
  unfold allQ
  rw [List.all_eq_true]
  intro x hx
  obtain ⟨i, hi, rfl⟩ := List.getElem_of_mem hx
  have := h i hi
  rw [List.getD_eq_getElem?_getD, List.getElem?_eq_getElem hi] at this
  simpa using this

set_option maxHeartbeats 2000000 in
theorem holds_any {w : World} {b m : Nat} {qs : List (Value × Bool)} (hm : qs.length = m) (hmm : m < 100) (hQ : QRow w b qs) :
    Calls Try.prog 40 #[.slice (some ⟨b, 0, none⟩) m m] w fun e w' => e = .returned (.bool (allQ qs)) ∧ Below w.heap.size w w' := by
  go_enter Try.func40, Try.ntmps40
  go_wp2
  go_loopw [7] (fun i wr => ∃ k : Nat, k ≤ m ∧ i = .int .i64 k ∧ (∀ j, j < k → (qs.getD j (undef, false)).2 = true) ∧ Below w.heap.size w wr) (fun i _ => m - (intOf i).toNat)
  case atStart => exact ⟨0, Nat.zero_le _, rfl, fun j hj => absurd hj (by omega), Below.refl _ _⟩
  case round =>
    obtain ⟨k, hk, rfl, hg, hb⟩ := hrel
    have hG : Hid (∀ j, j < k → (qs.getD j (undef, false)).2 = true) := hg
    clear hg
    have hbs := hb.size
    by_cases hkm : k < m
    · obtain ⟨g, lb, v, d0, eg, hc, hv⟩ := hQ.at hb (i := k) (by omega)
      clear hQ
      cases v with
      | false =>
        have hr : Hid (allQ qs = false) := allQ_no (i := k) (by omega) hv.out
        go_wp2_with (refine Calls.mono (by simpa using hc) ?_; rintro e w1 ⟨rfl, hb1⟩)
        go_ret
        exact ⟨by rw [hr.out]; rfl, hb.trans (hb1.mono hbs)⟩
      | true =>
        have hG' : Hid (∀ j, j < k + 1 → (qs.getD j (undef, false)).2 = true) := by
          intro j hj
          rcases Nat.lt_or_ge j k with h | h
          · exact hG.out j h
          · have : j = k := by omega
            rw [this]; exact hv.out
        go_wp2_with (refine Calls.mono (by simpa using hc) ?_; rintro e w1 ⟨rfl, hb1⟩)
        go_roundw
        case rel => exact ⟨k + 1, by omega, by go_num, hG'.out, hb.trans (hb1.mono hbs)⟩
        case measure => simp [intOf]; omega
    · have hr : Hid (allQ qs = true) := allQ_yes (fun j hj => hG.out j (by omega))
      clear hQ
      go_wp2
      go_ret
      exact ⟨by rw [hr.out]; rfl, hb⟩

theorem cell_lit {w : World} {t : TypeId} (xs : List Value) {i : Nat} {v : Value} (h : xs[i]? = some v) : (w.alloc (.cells xs.toArray t)).cell? ⟨w.heap.size, i, none⟩ = some v := by
  have h2 := World.alloc_heap_new w (.cells xs.toArray t)
  unfold World.cell?
  rw [h2]
  simp [h]
theorem qrow_new {w : World} {t : TypeId} (qs : List (Value × Bool)) (h : ∀ x ∈ qs, Asks w x.1 x.2) : QRow (w.alloc (.cells (qs.map (·.1)).toArray t)) w.heap.size qs := by
  have k := (Below.refl w.heap.size w).alloc (Nat.le_refl _) (.cells (qs.map (·.1)).toArray t)
  refine ⟨by simp, fun i hi => ?_⟩
  have e : qs.getD i (undef, false) = qs[i] := by rw [List.getD_eq_getElem?_getD, List.getElem?_eq_getElem hi]; rfl
  rw [e]
  exact ⟨cell_lit _ (by simp [hi]), (h _ (List.getElem_mem hi)).next k⟩
theorem lrow_new {w : World} {t : TypeId} (ls : List (Option Addr × Nat × Nat × List (Int × Int))) (h : Labs w ls) : LRow (w.alloc (.cells (ls.map fun x => Value.slice x.1 x.2.1 x.2.2.1).toArray t)) w.heap.size ls := by
  have k := (Below.refl w.heap.size w).alloc (Nat.le_refl _) (.cells (ls.map fun x => Value.slice x.1 x.2.1 x.2.2.1).toArray t)
  refine ⟨by simp, fun i hi => ?_, h.next k⟩
  have e : ls.getD i (none, 0, 0, []) = ls[i] := by rw [List.getD_eq_getElem?_getD, List.getElem?_eq_getElem hi]; rfl
  rw [e]
  exact cell_lit _ (by simp [hi])
theorem Labs.sub {w : World} {ls ms : List (Option Addr × Nat × Nat × List (Int × Int))} (h : Labs w ls) (k : ∀ x ∈ ms, x ∈ ls) : Labs w ms := fun x hx => h x (k x hx)
theorem below_new (w : World) (o : Obj) {w' : World} (h : Below (w.alloc o).heap.size (w.alloc o) w') : Below w.heap.size w w' := ((Below.refl w.heap.size w).alloc (Nat.le_refl _) o).trans (h.mono (by simp))

theorem holds1_any (w : World) {q : Value} {v : Bool} (h : Asks w q v) :
    Calls Try.prog 40 #[.slice (some ⟨w.heap.size, 0, none⟩) 1 1] (w.alloc (.cells #[q] 45)) fun e w' => e = .returned (.bool v) ∧ Below w.heap.size w w' := by
  refine (holds_any (m := 1) (qs := [(q, v)]) rfl (by omega) (qrow_new [(q, v)] (by intro x hx; simp at hx; subst hx; exact h))).mono ?_
  rintro e w' ⟨rfl, hb⟩
  exact ⟨by simp [allQ], below_new _ _ hb⟩
theorem holds2_any (w : World) {q q' : Value} {v v' : Bool} (h : Asks w q v) (h' : Asks w q' v') :
    Calls Try.prog 40 #[.slice (some ⟨w.heap.size, 0, none⟩) 2 2] (w.alloc (.cells #[q, q'] 45)) fun e w' => e = .returned (.bool (v && v')) ∧ Below w.heap.size w w' := by
  refine (holds_any (m := 2) (qs := [(q, v), (q', v')]) rfl (by omega) (qrow_new [(q, v), (q', v')] (by intro x hx; simp at hx; rcases hx with rfl | rfl; exact h; exact h'))).mono ?_
  rintro e w' ⟨rfl, hb⟩
  exact ⟨by simp [allQ], below_new _ _ hb⟩
theorem holds3_any (w : World) {q q' q'' : Value} {v v' v'' : Bool} (h : Asks w q v) (h' : Asks w q' v') (h'' : Asks w q'' v'') :
    Calls Try.prog 40 #[.slice (some ⟨w.heap.size, 0, none⟩) 3 3] (w.alloc (.cells #[q, q', q''] 45)) fun e w' => e = .returned (.bool (v && (v' && v''))) ∧ Below w.heap.size w w' := by
  refine (holds_any (m := 3) (qs := [(q, v), (q', v'), (q'', v'')]) rfl (by omega) (qrow_new [(q, v), (q', v'), (q'', v'')] (by intro x hx; simp at hx; rcases hx with rfl | rfl | rfl; exact h; exact h'; exact h''))).mono ?_
  rintro e w' ⟨rfl, hb⟩
  exact ⟨by simp [allQ], below_new _ _ hb⟩

theorem rising_any {w : World} {b m : Nat} {ls : List (Option Addr × Nat × Nat × List (Int × Int))} (hm : ls.length = m) (h1 : 1 ≤ m) (hmm : m < 100) (hR : LRow w b ls) :
    Calls Try.prog 42 #[.slice (some ⟨b, 0, none⟩) m m] w fun e w' => ∃ q, e = .returned q ∧ Asks w' q (risB ls) ∧ Below w.heap.size w w' := by
  have hB := (Below.refl w.heap.size w).alloc (Nat.le_refl _) (.cells #[.slice (some ⟨b, 0, none⟩) m m] 41)
  have bx := Boxed.new w 41 (.slice (some ⟨b, 0, none⟩) m m)
  go_enter Try.func42, Try.ntmps42
  go_wp2
  go_ret
  refine ⟨_, rfl, ⟨58, _, rfl, enters_of Try.func58 (by kernel_rfl) rfl, fun W hW => ?_⟩, hB⟩
  exact rising1_any hm h1 hmm (cell_later hW bx.cell) (Nat.lt_of_lt_of_le bx.lt hW.size) ((hR.next hB).next hW)

theorem noneAbove_any {w : World} {b m : Nat} {ls : List (Option Addr × Nat × Nat × List (Int × Int))} (hm : ls.length = m) (hmm : m < 100) (hR : LRow w b ls) :
    Calls Try.prog 46 #[.slice (some ⟨b, 0, none⟩) m m] w fun e w' => ∃ q, e = .returned q ∧ Asks w' q (!abvsB ls) ∧ Below w.heap.size w w' := by
  have hB0 := (Below.refl w.heap.size w).alloc (Nat.le_refl _) (.cells #[.slice (some ⟨b, 0, none⟩) m m] 41)
  have hB1 := hB0.alloc (by simp) (.cells #[.func (.func 66) #[] #[]] 61)
  have bx := (Boxed.new w 41 (.slice (some ⟨b, 0, none⟩) m m)).alloc (.cells #[.func (.func 66) #[] #[]] 61)
  have ba := Boxed.new (w.alloc (.cells #[.slice (some ⟨b, 0, none⟩) m m] 41)) 61 (.func (.func 66) #[] #[])
  simp only [World.size_alloc] at ba
  go_enter Try.func46, Try.ntmps46
  go_wp2
  go_ret
  refine ⟨_, rfl, ⟨67, _, rfl, enters_of Try.func67 (by kernel_rfl) rfl, fun W hW => ?_⟩, hB1⟩
  exact na2_any hm hmm (cell_later hW bx.cell) ((hR.next hB1).next hW) (Nat.lt_of_lt_of_le ba.lt hW.size) (cell_later hW ba.cell)
end Go.Proofs.Ytkhnlgbebbhmbaa
