/-
  PROVED HERE: memory's words for frames, and what package frames' functions without a loop return when they are called (contracts over this translation). No condition.
-/
import Derived.RangeFuncNested
import Derived.RangeFuncBound
import Derived.RangeFuncCalls
import Derived.RangeFuncLeaves
import Derived.RangeFuncBox
import Derived.Shelf.Abstract
import Derived.Shelf.RegionOpen
import Derived.WalkKit
import Derived.OwnWalkIn
import Derived.TacticsInMore
import Derived.LoopNIn
import Derived.LoopIn
import Derived.RegionIn
import Derived.WalkSmall
import Derived.Laws.EntriesVeiled
import Derived.Test.YtjdjiooblfgmlaaRows
import Derived.Test.YtjdjiooblfgmlaaFrm1
namespace Go.Proofs.Ytjdjiooblfgmlaa
open Go.RowKit Go.Shelf
set_option linter.unusedVariables false
attribute [local go_sem] Oper.semAt_some

theorem below_grown {w w' : World} (h : Below w.heap.size w w') : w.grownBy w' none := ⟨h.os, h.tape, h.output, h.size, fun k hk _ => h.block k hk⟩
theorem koB {W w1 : World} (h : Below W.heap.size W w1) : KeepsOthers W w1 := KeepsOthers.of_grownBy (below_grown h) (fun j o e => by cases e)
theorem cellK {D : Nat → Prop} {w w' : World} (k : Keeps D w w') {b off : Nat} (hb : D b) : w'.cell? ⟨b, off, none⟩ = w.cell? ⟨b, off, none⟩ := World.cell?_of_block (w := w) (a := ⟨b, off, none⟩) (k.2 b hb)
theorem Boxed.next {W W' : World} {B : Nat} {t : TypeId} {v : Value} (h : Boxed W B t v) (k : Below W.heap.size W W') : Boxed W' B t v := (k.block B h.lt).trans h
theorem keepsK_b {D : Nat → Prop} {w : World} (hD : ∀ b, D b → b < w.heap.size) (W : World) (l : Nat) (o o' : Obj) (hl : w.heap.size ≤ l) (h : W.heap[l]? = some o) (_ : o.isCells = false) (_ : o.isWalk = false) : Keeps D W (W.putObj l o') :=
  ⟨(grownBy_putObj' W l o').size, fun b hb => World.putObj_heap_other (fun e => by have := hD b hb; omega)⟩
theorem keepsK_t {D : Nat → Prop} {A B C : World} (h : Keeps D A B) (k : Keeps D B C) : Keeps D A C := h.trans k
theorem Keeps.of_below {D : Nat → Prop} {W W' : World} (hD : ∀ b, D b → b < W.heap.size) (h : Below W.heap.size W W') : Keeps D W W' := ⟨h.size, fun b hb => h.block b (hD b hb)⟩
theorem Keeps.sub {D D' : Nat → Prop} {W W' : World} (h : Keeps D W W') (k : ∀ b, D' b → D b) : Keeps D' W W' := ⟨h.1, fun b hb => h.2 b (k b hb)⟩
theorem LabD.wide {D D' : Nat → Prop} {w : World} {ao : Option Addr} {n cap : Nat} {L : List (Int × Int)} (h : LabD D w ao n cap L) (k : ∀ b, D b → D' b) : LabD D' w ao n cap L := by
  obtain ⟨h1, h2, h3, h4⟩ := h
  refine ⟨h1, h2, h3, fun hn => ?_⟩
  obtain ⟨b, off, e, hb, hc⟩ := h4 hn
  exact ⟨b, off, e, k b hb, hc⟩
theorem LabD.at {D : Nat → Prop} {w : World} {ao : Option Addr} {n cap : Nat} {L : List (Int × Int)} (h : LabD D w ao n cap L) {i : Nat} (hi : i < n) :
    ∃ (b off : Nat) (x y : Int), ao = some ⟨b, off, none⟩ ∧ D b ∧ w.cell? ⟨b, off + i * 2, none⟩ = some (.int .u64 x) ∧ w.cell? ⟨b, off + i * 2 + 1, none⟩ = some (.int .i64 y) ∧ Hid (L.getD i (0, 0) = (x, y)) := by
  obtain ⟨h1, h2, h3, h4⟩ := h
  obtain ⟨b, off, e, hb, hc⟩ := h4 (by omega)
  exact ⟨b, off, _, _, e, hb, (hc i hi).1, (hc i hi).2, rfl⟩
/-- A block of two cells. -/
def Two (W : World) (B : Nat) (t : TypeId) (u v : Value) : Prop := W.heap[B]? = some (.cells #[u, v] t (0, 0))
theorem Two.lt {W : World} {B : Nat} {t : TypeId} {u v : Value} (h : Two W B t u v) : B < W.heap.size := (Array.getElem?_eq_some_iff.1 h).1
theorem Two.cell0 {W : World} {B : Nat} {t : TypeId} {u v : Value} (h : Two W B t u v) : W.cell? ⟨B, 0, none⟩ = some u := by simp [World.cell?, show W.heap[B]? = _ from h]
theorem Two.cell1 {W : World} {B : Nat} {t : TypeId} {u v : Value} (h : Two W B t u v) : W.cell? ⟨B, 1, none⟩ = some v := by simp [World.cell?, show W.heap[B]? = _ from h]
theorem Two.new (W : World) (t : TypeId) (u v : Value) : Two (W.alloc (.cells #[u, v] t)) W.heap.size t u v := World.alloc_heap_new W _
theorem Two.next {W W' : World} {B : Nat} {t : TypeId} {u v : Value} (h : Two W B t u v) (k : Below W.heap.size W W') : Two W' B t u v := (k.block B h.lt).trans h

/-- The function value q answers P of every frame, in w and in every world that keeps the blocks of D. -/
def AsksD (D : Nat → Prop) (w : World) (q : Value) (P : Frm.Fr → Bool) : Prop := ∃ (g : Nat) (lb : Array Value), q = .func (.func g) #[] lb ∧ (∀ args w, (callFunc g args).run Try.prog w = .ok (.enter g args) w) ∧
  ∀ W, Keeps D w W → ∀ x y : Int, Calls Try.prog g (#[.agg #[.int .u64 x, .int .i64 y]] ++ lb) W fun e W' => e = .returned (.bool (P (x, y))) ∧ Below W.heap.size W W'
theorem AsksD.later {D : Nat → Prop} {w w' : World} {q : Value} {P : Frm.Fr → Bool} (h : AsksD D w q P) (k : Keeps D w w') : AsksD D w' q P := by
  obtain ⟨g, lb, e, eg, hc⟩ := h
  exact ⟨g, lb, e, eg, fun W hW => hc W (k.trans hW)⟩
theorem AsksD.wide {D D' : Nat → Prop} {w : World} {q : Value} {P : Frm.Fr → Bool} (h : AsksD D w q P) (k : ∀ b, D b → D' b) : AsksD D' w q P := by
  obtain ⟨g, lb, e, eg, hc⟩ := h
  exact ⟨g, lb, e, eg, fun W hW => hc W (hW.sub k)⟩

theorem isFree_any (x y : Int) (w : World) : Calls Try.prog 31 #[.agg #[.int .u64 x, .int .i64 y]] w fun e w' => e = .returned (.bool (Frm.isF (x, y))) ∧ Below w.heap.size w w' := by
  go_enter Try.func31, Try.ntmps31
  go_wp2
  go_ret
  exact ⟨rfl, (Below.refl _ w).alloc (Nat.le_refl _) _⟩
theorem isPage_any (p : Int) (w : World) : Calls Try.prog 29 #[.int .i64 p] w fun e w' => e = .returned (.bool (Frm.pgB p)) ∧ w' = w := by
  have hr : Hid (Frm.pgB p = (decide (0 ≤ p) && decide (p ≤ 1048576))) := rfl
  go_enter Try.func29, Try.ntmps29
  by_cases h0 : 0 ≤ p
  · by_cases h1 : p ≤ 1048576
    · go_wp2; go_ret; exact ⟨by rw [hr.out]; simp [h0, h1], rfl⟩
    · go_wp2; go_ret; exact ⟨by rw [hr.out]; simp [h0]; omega, rfl⟩
  · go_wp2; go_ret; exact ⟨by rw [hr.out]; simp; omega, rfl⟩
theorem those_any (ao : Option Addr) (n cap : Nat) (g : Nat) (lb : Array Value) (w : World) :
    Calls Try.prog 34 #[.slice ao n cap, .func (.func g) #[] lb] w fun e w' => e = .returned (.func (.func 39) #[] #[.pointer (some ⟨w.heap.size, 0, none⟩), .pointer (some ⟨w.heap.size + 1, 0, none⟩)]) ∧
      w' = (w.alloc (.cells #[.slice ao n cap] 22)).alloc (.cells #[.func (.func g) #[] lb] 54) := by
  go_enter Try.func34, Try.ntmps34
  go_wp2
  go_ret
  exact ⟨rfl, rfl⟩
theorem isWrong_any (x y : Int) (w : World) : Calls Try.prog 26 #[.agg #[.int .u64 x, .int .i64 y]] w fun e w' => e = .returned (.bool (Frm.wrB (x, y))) ∧ Below w.heap.size w w' := by
  have hr : Hid (Frm.wrB (x, y) = (!(decide (0 ≤ y) && decide (y ≤ 1048576)) || (decide (x = 0) && !decide (y = 0)))) := rfl
  have hB1 := (Below.refl w.heap.size w).alloc (Nat.le_refl _) (.cells #[.int .u64 x, .int .i64 y] 51)
  have hB2 := hB1.alloc (by simp) (.cells #[.int .u64 x, .int .i64 y] 51)
  go_enter Try.func26, Try.ntmps26
  by_cases h0 : 0 ≤ y
  · by_cases h1 : y ≤ 1048576
    · by_cases h2 : x = 0
      · subst h2
        go_wp2; go_ret; exact ⟨by rw [hr.out]; simp [h0, h1]; rfl, hB2⟩
      · go_wp2; go_ret; exact ⟨by rw [hr.out]; simp [h0, h1, h2], hB2⟩
    · have hr2 : Hid ((!(decide (0 ≤ y) && decide (y ≤ 1048576)) || (decide (x = 0) && !decide (y = 0))) = true) := by show _ = _; simp [h1]
      go_wp2; go_ret; exact ⟨by rw [hr.out, hr2.out]; rfl, hB1⟩
  · have hr2 : Hid ((!(decide (0 ≤ y) && decide (y ≤ 1048576)) || (decide (x = 0) && !decide (y = 0))) = true) := by show _ = _; simp [h0]
    go_wp2; go_ret; exact ⟨by rw [hr.out, hr2.out]; rfl, hB1⟩
theorem heldBy1_any (B : Nat) (o x y : Int) (w : World) (hB : w.cell? ⟨B, 0, none⟩ = some (.int .u64 o)) : Calls Try.prog 40 #[.agg #[.int .u64 x, .int .i64 y], .pointer (some ⟨B, 0, none⟩)] w fun e w' => e = .returned (.bool (Frm.hdB o (x, y))) ∧ Below w.heap.size w w' := by
  have hr : Hid (Frm.hdB o (x, y) = (!decide (x = 0) && decide (x = o))) := rfl
  have hB1 := (Below.refl w.heap.size w).alloc (Nat.le_refl _) (.cells #[.int .u64 x, .int .i64 y] 51)
  have hB2 := hB1.alloc (by simp) (.cells #[.int .u64 x, .int .i64 y] 51)
  have hc1 := cellLater hB (.cells #[.int .u64 x, .int .i64 y] 51)
  have hc2 := cellLater hc1 (.cells #[.int .u64 x, .int .i64 y] 51)
  go_enter Try.func40, Try.ntmps40
  by_cases h0 : x = 0
  · subst h0
    go_wp2
    go_ret
    exact ⟨by rw [hr.out]; simp, hB2⟩
  · have h0' : (x == 0) = false := by simpa using h0
    go_wp2
    go_ret
    exact ⟨by rw [hr.out]; simp [h0]; rfl, hB2⟩
theorem once1_any (x y : Int) (w : World) : Calls Try.prog 38 #[.agg #[.int .u64 x, .int .i64 y]] w fun e w' => e = .returned (.bool (Frm.nfB (x, y))) ∧ Below w.heap.size w w' := by
  have hB1 := (Below.refl w.heap.size w).alloc (Nat.le_refl _) (.cells #[.int .u64 x, .int .i64 y] 51)
  have hB2 := hB1.alloc (by simp) (.cells #[.int .u64 x, .int .i64 y] 51)
  go_enter Try.func38, Try.ntmps38
  go_wp2
  go_ret
  exact ⟨rfl, hB2⟩
theorem heldBy_any (o : Int) (w : World) : Calls Try.prog 35 #[.int .u64 o] w fun e w' => e = .returned (.func (.func 40) #[] #[.pointer (some ⟨w.heap.size, 0, none⟩)]) ∧ w' = w.alloc (.cells #[.int .u64 o] 23) := by
  go_enter Try.func35, Try.ntmps35
  go_wp2
  go_ret
  exact ⟨rfl, rfl⟩
theorem pageOf_any (o p : Int) (w : World) : Calls Try.prog 36 #[.int .u64 o, .int .i64 p] w fun e w' => e = .returned (.func (.func 41) #[] #[.pointer (some ⟨w.heap.size + 1 + 1, 0, none⟩), .pointer (some ⟨w.heap.size, 0, none⟩)]) ∧
    w' = ((w.alloc (.cells #[.int .i64 p] 3)).alloc (.cells #[.int .u64 o] 23)).alloc (.cells #[.func (.func 40) #[] #[.pointer (some ⟨w.heap.size + 1, 0, none⟩)]] 54) := by
  go_enter Try.func36, Try.ntmps36
  go_wp2_with (go_at_call 35; refine (heldBy_any _ _).mono ?_; rintro e w' ⟨rfl, rfl⟩)
  go_ret
  exact ⟨rfl, rfl⟩
theorem pageOf1_any (B Bp Bo : Nat) (o p x y : Int) (w : World) (hB : w.cell? ⟨B, 0, none⟩ = some (.func (.func 40) #[] #[.pointer (some ⟨Bo, 0, none⟩)])) (hP : w.cell? ⟨Bp, 0, none⟩ = some (.int .i64 p)) (hO : w.cell? ⟨Bo, 0, none⟩ = some (.int .u64 o)) : Calls Try.prog 41 #[.agg #[.int .u64 x, .int .i64 y], .pointer (some ⟨B, 0, none⟩), .pointer (some ⟨Bp, 0, none⟩)] w fun e w' => e = .returned (.bool (Frm.poB o p (x, y))) ∧ Below w.heap.size w w' := by
  have hr : Hid (Frm.poB o p (x, y) = (Frm.hdB o (x, y) && decide (y = p))) := rfl
  have hB1 := (Below.refl w.heap.size w).alloc (Nat.le_refl _) (.cells #[.int .u64 x, .int .i64 y] 51)
  have hc1 := cellLater hB (.cells #[.int .u64 x, .int .i64 y] 51)
  have hp1 := cellLater hP (.cells #[.int .u64 x, .int .i64 y] 51)
  have ho1 := cellLater hO (.cells #[.int .u64 x, .int .i64 y] 51)
  have hT1 := Two.new w 51 (.int .u64 x) (.int .i64 y)
  have hx := heldBy1_any Bo o x y _ ho1
  go_enter Try.func41, Try.ntmps41
  cases hh : Frm.hdB o (x, y) with
  | false =>
    rw [hh] at hx
    go_wp2_with (refine Calls.mono hx ?_; rintro e w' ⟨rfl, hb⟩)
    go_ret
    exact ⟨by rw [hr.out, hh]; rfl, hB1.trans (hb.mono hB1.size)⟩
  | true =>
    rw [hh] at hx
    go_wp2_with (refine Calls.mono hx ?_; rintro e w' ⟨rfl, hb⟩; have hp2 := (hb.cell (World.block_lt_of_cell? _ _ hp1)).trans hp1; have hy2 := (hT1.next hb).cell1)
    go_ret
    exact ⟨by rw [hr.out, hh]; rfl, hB1.trans (hb.mono hB1.size)⟩
theorem asks_free (D : Nat → Prop) (w : World) : AsksD D w (.func (.func 31) #[] #[]) Frm.isF :=
  ⟨31, #[], rfl, enters_of Try.func31 (by kernel_rfl) rfl, fun W _ x y => isFree_any x y W⟩
theorem asks_wrong (D : Nat → Prop) (w : World) : AsksD D w (.func (.func 26) #[] #[]) Frm.wrB :=
  ⟨26, #[], rfl, enters_of Try.func26 (by kernel_rfl) rfl, fun W _ x y => isWrong_any x y W⟩
theorem asks_once (D : Nat → Prop) (w : World) : AsksD D w (.func (.func 38) #[] #[]) Frm.nfB :=
  ⟨38, #[], rfl, enters_of Try.func38 (by kernel_rfl) rfl, fun W _ x y => once1_any x y W⟩
theorem asks_held {D : Nat → Prop} {w : World} {B : Nat} {o : Int} (hD : D B) (h : Boxed w B 23 (.int .u64 o)) : AsksD D w (.func (.func 40) #[] #[.pointer (some ⟨B, 0, none⟩)]) (Frm.hdB o) :=
  ⟨40, _, rfl, enters_of Try.func40 (by kernel_rfl) rfl, fun W hW x y => heldBy1_any B o x y W ((cellK hW hD).trans h.cell)⟩
theorem asks_page {D : Nat → Prop} {w : World} {B Bp Bo : Nat} {o p : Int} (hD : D B) (hDp : D Bp) (hDo : D Bo) (hB : Boxed w B 54 (.func (.func 40) #[] #[.pointer (some ⟨Bo, 0, none⟩)])) (hP : Boxed w Bp 3 (.int .i64 p)) (hO : Boxed w Bo 23 (.int .u64 o)) :
    AsksD D w (.func (.func 41) #[] #[.pointer (some ⟨B, 0, none⟩), .pointer (some ⟨Bp, 0, none⟩)]) (Frm.poB o p) :=
  ⟨41, _, rfl, enters_of Try.func41 (by kernel_rfl) rfl, fun W hW x y => pageOf1_any B Bp Bo o p x y W ((cellK hW hD).trans hB.cell) ((cellK hW hDp).trans hP.cell) ((cellK hW hDo).trans hO.cell)⟩
end Go.Proofs.Ytjdjiooblfgmlaa
