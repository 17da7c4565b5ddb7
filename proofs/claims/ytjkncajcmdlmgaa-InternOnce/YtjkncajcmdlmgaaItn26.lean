/-
  PROVED HERE: what lies in memory in the rounds of the law InternOnce: a table in a box, a row of places, a row of truths (no walk). No condition.
-/
import Derived.Test.YtjkncajcmdlmgaaItn25
import Derived.Test.YtjkncajcmdlmgaaItnBool
namespace Go.Proofs.Ytjkncajcmdlmgaa
open Go.ChangeShapes Go.WideShapes Go.ChangeAt Go.RowKit
set_option linter.unusedVariables false

theorem infoBool : (Try.prog.info? 4).map (fun i => (i.zero, i.size, i.bytes)) = some (some (.bool false), 1, 1) := by kernel_rfl

structure Mem (B : Nat) (w wr : World) (m : Nat) (A : Nat → Nat) (G : Nat → Bool) (Z : Zt) (a : Option Addr) (n c : Nat) (a' : Option Addr) (c' : Nat) : Prop where
  two : Two wr B 27 (.slice a n c) (.slice a' n c')
  tab : TabP (B + 3) wr a n c a' c' Z
  pl : wr.rowIs (B + 1) 3 m (fun i => .int .i64 (A i))
  gn : wr.rowIs (B + 2) 4 m (fun i => .bool (G i))
  bel : Below B w wr
  sz : B + 3 ≤ wr.heap.size
theorem rowIs_block {w : World} {b : Nat} {t : TypeId} {n : Nat} {f : Nat → Value} (h : w.rowIs b t n f) : ∃ cs tg, w.heap[b]? = some (Obj.cells cs t tg) := by
  obtain ⟨cs, e, _⟩ := h
  exact ⟨cs, _, e⟩
theorem mem_new (w : World) (m : Nat) (A : Nat → Nat) (hA : ∀ i, A i = 0) :
    Mem w.heap.size w (((w.alloc (.cells #[.slice none 0 0, .slice none 0 0] 27)).alloc (.cells (madeCells #[.int .i64 0] m) 3)).alloc (.cells (madeCells #[.bool false] m) 4)) m A (fun _ => false) [] none 0 0 none 0 where
  two := two_kty (two_kty (Two.new w 27 _ _) (KTy.alloc _ _ _)) (KTy.alloc _ _ _)
  tab := ⟨⟨rfl, Nat.le_refl _, ⟨by omega, fun _ => rfl⟩, fun h => absurd h (by omega)⟩, ⟨rfl, Nat.le_refl _, ⟨by omega, fun _ => rfl⟩, fun h => absurd h (by omega)⟩⟩
  pl := by
    have h := (World.rowIs_made (w.alloc (.cells #[.slice none 0 0, .slice none 0 0] 27)) (.int .i64 0) m 3).alloc (.cells (madeCells #[.bool false] m) 4)
    rw [World.size_alloc] at h
    exact h.congr (fun i _ => by rw [hA]; rfl)
  gn := by
    have h := World.rowIs_made ((w.alloc (.cells #[.slice none 0 0, .slice none 0 0] 27)).alloc (.cells (madeCells #[.int .i64 0] m) 3)) (.bool false) m 4
    rw [World.size_alloc, World.size_alloc] at h
    exact h
  bel := (((Below.refl _ w).alloc (Nat.le_refl _) _).alloc (by simp) _).alloc (by simp; omega) _
  sz := by simp
section
variable {B : Nat} {w wr : World} {m : Nat} {A : Nat → Nat} {G : Nat → Bool} {Z : Zt} {a : Option Addr} {n c : Nat} {a' : Option Addr} {c' : Nat}
theorem Mem.next (h : Mem B w wr m A G Z a n c a' c') {w' : World} (k : Below wr.heap.size wr w') : Mem B w w' m A G Z a n c a' c' where
  two := two_kty h.two (KTy.below k)
  tab := h.tab.next k
  pl := h.pl.of_block (k.block _ h.pl.lt)
  gn := h.gn.of_block (k.block _ h.gn.lt)
  bel := h.bel.trans (k.mono (Nat.le_trans (by omega) h.sz))
  sz := Nat.le_trans h.sz k.size
theorem Mem.drew (h : Mem B w wr m A G Z a n c a' c') : Mem B w wr.drew m A G Z a n c a' c' := h.next (Below.refl _ wr).drew
/-- Another table in the box. -/
theorem Mem.table (h : Mem B w wr m A G Z a n c a' c') {Z1 : Zt} {a1 : Option Addr} {n1 c1 : Nat} {a1' : Option Addr} {c1' : Nat} (hT : TabP (B + 3) wr a1 n1 c1 a1' c1' Z1) :
    Mem B w ((wr.setCell ⟨B, 0, none⟩ (.slice a1 n1 c1)).setCell ⟨B, 1, none⟩ (.slice a1' n1 c1')) m A G Z1 a1 n1 c1 a1' c1' := by
  obtain ⟨t3, k3⟩ := box_over (x := .slice a1 n1 c1) (y := .slice a1' n1 c1') h.two
  have hb : ∀ b, b ≠ B → ((wr.setCell ⟨B, 0, none⟩ (.slice a1 n1 c1)).setCell ⟨B, 1, none⟩ (.slice a1' n1 c1')).heap[b]? = wr.heap[b]? := fun b hb => by
    rw [Below.heap_setCell _ _ _ _ hb, Below.heap_setCell _ _ _ _ hb]
  exact ⟨t3, hT.kty k3, h.pl.of_block (hb _ (by omega)), h.gn.of_block (hb _ (by omega)), over_below h.bel (Nat.le_refl _), by simpa using h.sz⟩
/-- A table's box beside it is written. -/
theorem Mem.over (h : Mem B w wr m A G Z a n c a' c') {ub : Nat} {u v x y : Value} (ht : Two wr ub 27 u v) (hub : B + 3 ≤ ub) : Mem B w ((wr.setCell ⟨ub, 0, none⟩ x).setCell ⟨ub, 1, none⟩ y) m A G Z a n c a' c' := by
  obtain ⟨_, k3⟩ := box_over (x := x) (y := y) ht
  have hb : ∀ b, b ≠ ub → ((wr.setCell ⟨ub, 0, none⟩ x).setCell ⟨ub, 1, none⟩ y).heap[b]? = wr.heap[b]? := fun b hb => by
    rw [Below.heap_setCell _ _ _ _ hb, Below.heap_setCell _ _ _ _ hb]
  exact ⟨(hb _ (by omega)).trans h.two, h.tab.kty k3, h.pl.of_block (hb _ (by omega)), h.gn.of_block (hb _ (by omega)), over_below h.bel (by omega), by simpa using h.sz⟩
theorem Mem.setA (h : Mem B w wr m A G Z a n c a' c') (k p : Nat) : Mem B w (wr.setCell ⟨B + 1, k, none⟩ (.int .i64 p)) m (upd A k p) G Z a n c a' c' where
  two := (Below.heap_setCell _ _ _ _ (by show B ≠ B + 1; omega)).trans h.two
  tab := by obtain ⟨cs, tg, e⟩ := rowIs_block h.pl; exact h.tab.set e (by omega) (by decide) _
  pl := (h.pl.set k (.int .i64 p)).congr (fun i _ => by unfold upd; split <;> rfl)
  gn := h.gn.setOther (by show B + 2 ≠ B + 1; omega) _
  bel := h.bel.setCell (p := ⟨B + 1, k, none⟩) (by show B ≤ B + 1; omega) _
  sz := by simpa using h.sz
theorem Mem.setG (h : Mem B w wr m A G Z a n c a' c') (j : Nat) : Mem B w (wr.setCell ⟨B + 2, j, none⟩ (.bool true)) m A (updG G j) Z a n c a' c' where
  two := (Below.heap_setCell _ _ _ _ (by show B ≠ B + 2; omega)).trans h.two
  tab := by obtain ⟨cs, tg, e⟩ := rowIs_block h.gn; exact h.tab.set e (by omega) (by decide) _
  pl := h.pl.setOther (by show B + 1 ≠ B + 2; omega) _
  gn := (h.gn.set j (.bool true)).congr (fun i _ => by unfold updG; split <;> rfl)
  bel := h.bel.setCell (p := ⟨B + 2, j, none⟩) (by show B ≤ B + 2; omega) _
  sz := by simpa using h.sz
end
theorem gone_step (G : Nat → Bool) (j t : Nat) : updG (fun t => G t || decide (t < j)) j t = (G t || decide (t < j + 1)) := by
  unfold updG
  by_cases ht : t = j
  · subst ht; simp
  · rw [if_neg ht]
    have : decide (t < j) = decide (t < j + 1) := decide_eq_decide.2 (by omega)
    show (G t || decide (t < j)) = _; rw [this]
theorem keepB_of {L : List (Int × Int)} (h : fitB L = true) (k : L.length ≤ 16) : keepB L = true := by unfold keepB; simp [h, k]
end Go.Proofs.Ytjkncajcmdlmgaa
