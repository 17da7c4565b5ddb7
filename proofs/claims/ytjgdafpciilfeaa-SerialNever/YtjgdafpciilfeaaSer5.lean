/-
  PROVED HERE: what lies in memory in the rounds of the law SerialNever: a span in a box, a row of spans, a row of words, both of the call's own (no walk). No condition.
-/
import Derived.Test.YtjgdafpciilfeaaSer4
import Derived.OwnWalk
import Derived.Laws.AppendOwn
import Derived.Laws.OwnMore
import Derived.Maps.AppendAt
import Derived.WalkSmall
namespace Go.Proofs.Ytjgdafpciilfeaa
open Go.ChangeShapes Go.WideShapes Go.ChangeAt Go.RowKit
open Sr
set_option linter.unusedVariables false

theorem infoW : (Try.prog.info? 22).map (fun i => (i.zero, i.size, i.bytes)) = some (some (.int .u64 0), 1, 8) := by kernel_rfl
theorem infoSpan : (Try.prog.info? 24).map (fun i => (i.zero, i.size, i.bytes)) = some (some (.agg #[.int .u64 0, .int .u64 0]), 2, 16) := by kernel_rfl
theorem info_partsS {t : TypeId} {z : Value} {n m : Nat} (h : (Try.prog.info? t).map (fun i => (i.zero, i.size, i.bytes)) = some (some z, n, m)) : ∃ i, Try.prog.info? t = some i ∧ i.zero = some z ∧ i.size = n ∧ i.bytes = m := by
  obtain ⟨i, hi, e⟩ := Option.map_eq_some_iff.1 h
  simp only [Prod.mk.injEq] at e
  exact ⟨i, hi, e.1, e.2.1, e.2.2⟩
def cellsS : List Sp → List Value
  | [] => []
  | p :: r => .int .u64 (p.1 : Int) :: .int .u64 (p.2 : Int) :: cellsS r
def wordsT (T : List Nat) : List Value := T.map fun (n : Nat) => Value.int .u64 (n : Int)
theorem cellsS_append (A C : List Sp) : cellsS (A ++ C) = cellsS A ++ cellsS C := by
  induction A with
  | nil => rfl
  | cons p r ih => simp [cellsS, ih]
theorem cellsS_length (A : List Sp) : (cellsS A).length = A.length * 2 := by
  induction A with
  | nil => rfl
  | cons p r ih => simp [cellsS, ih]; omega
theorem cellsS_at (A : List Sp) : ∀ i, i < A.length → (cellsS A)[i * 2]? = some (.int .u64 ((nth A i).1 : Int)) ∧ (cellsS A)[i * 2 + 1]? = some (.int .u64 ((nth A i).2 : Int)) := by
  induction A with
  | nil => intro i hi; exact absurd hi (by simp)
  | cons p r ih =>
    intro i hi
    cases i with
    | zero => simp [cellsS]
    | succ j =>
      have h := ih j (by simpa using hi)
      have e1 : (j + 1) * 2 = j * 2 + 1 + 1 := by omega
      rw [e1]
      simpa [cellsS] using h
theorem cellsS_set (A : List Sp) (p : Sp) : ∀ i, cellsS (A.set i p) = ((cellsS A).set (i * 2) (.int .u64 (p.1 : Int))).set (i * 2 + 1) (.int .u64 (p.2 : Int)) := by
  induction A with
  | nil => intro i; rfl
  | cons q r ih =>
    intro i
    cases i with
    | zero => rfl
    | succ j =>
      have e1 : (j + 1) * 2 = j * 2 + 1 + 1 := by omega
      rw [e1]
      simp only [List.set_cons_succ, cellsS, ih j]
theorem wordsT_append (A C : List Nat) : wordsT (A ++ C) = wordsT A ++ wordsT C := by simp [wordsT]
theorem wordsT_at (T : List Nat) (i : Nat) (hi : i < T.length) : (wordsT T)[i]? = some (.int .u64 ((nthN T i : Nat) : Int)) := by
  simp [wordsT, nthN, List.getD_eq_getElem?_getD, hi]
theorem cell_two_newS (w : World) (x y : Value) (t : TypeId) : ∀ j u, [x, y][j]? = some u → (w.alloc (.cells #[x, y] t)).cell? ((⟨w.heap.size, 0, none⟩ : Addr).add j) = some u := by
  intro j u hj
  match j, hj with
  | 0, hj => simp at hj; subst hj; simp [Addr.add]
  | 1, hj => simp at hj; subst hj; simp [Addr.add]
theorem ownsRow_twoS {W : World} {base : Nat} {e : TypeId} {size : Nat} {v : Value} {k : Nat} {xs : List Value} (h : W.ownsRow base e size v (k + 1) xs) : ∃ g cap, v = .slice (some ⟨g, 0, none⟩) (k + 1) cap := by
  rcases h.2 with ⟨_, h0⟩ | ⟨g, cap, _, rfl, _⟩
  · omega
  · exact ⟨g, cap, rfl⟩
theorem row_next {w w' : World} {base : Nat} {e : TypeId} {size : Nat} {v : Value} {n : Nat} {xs : List Value} (h : w.ownsRow base e size v n xs) (k : Below w.heap.size w w') : w'.ownsRow base e size v n xs := by
  obtain ⟨h1, h2 | ⟨g, cap, cur, rfl, hb, hg, r⟩⟩ := h
  · exact ⟨h1, .inl h2⟩
  · exact ⟨h1, .inr ⟨g, cap, cur, rfl, hb, (k.block g (Array.getElem?_eq_some_iff.1 hg).1).trans hg, r⟩⟩
/-- Rows of unlike types lie apart. -/
theorem rows_apart {w : World} {b b' : Nat} {e e' : TypeId} {size size' : Nat} {v v' : Value} {n n' : Nat} {xs xs' : List Value} (h : w.ownsRow b e size v n xs) (h' : w.ownsRow b' e' size' v' n' xs') (hne : e ≠ e') : v.ownBlock = none ∨ v.ownBlock ≠ v'.ownBlock := by
  obtain ⟨_, ⟨rfl, _⟩ | ⟨g, cap, cur, rfl, _, hg, _⟩⟩ := h
  · exact .inl rfl
  · right
    obtain ⟨_, ⟨rfl, _⟩ | ⟨g', cap', cur', rfl, _, hg', _⟩⟩ := h'
    · simp [Value.ownBlock]
    · intro q
      simp only [Value.ownBlock, Option.some.injEq] at q
      rw [q, hg'] at hg
      simp only [Option.some.injEq, Obj.cells.injEq] at hg
      exact hne hg.2.1.symm
structure Nev (w : World) (x y : Nat) (wr : World) (H : List Sp) (T : List Nat) (g ch : Nat) (vt : Value) : Prop where
  box : Two wr w.heap.size 24 (.int .u64 (x : Int)) (.int .u64 (y : Int))
  hv : wr.ownsRow (w.heap.size + 1) 24 2 (.slice (some ⟨g, 0, none⟩) H.length ch) H.length (cellsS H)
  tk : wr.ownsRow (w.heap.size + 1) 22 1 vt T.length (wordsT T)
  bel : Below w.heap.size w wr
section
variable {w wr : World} {x y : Nat} {H : List Sp} {T : List Nat} {g ch : Nat} {vt : Value}
theorem Nev.sz (h : Nev w x y wr H T g ch vt) : w.heap.size + 1 ≤ wr.heap.size := h.box.lt
theorem Nev.lt (h : Nev w x y wr H T g ch vt) : w.heap.size + 1 ≤ g ∧ g < wr.heap.size := h.hv.lt g rfl
theorem Nev.next (h : Nev w x y wr H T g ch vt) {w' : World} (k : Below wr.heap.size wr w') : Nev w x y w' H T g ch vt :=
  ⟨h.box.next k, row_next h.hv k, row_next h.tk k, h.bel.trans (k.mono h.bel.size)⟩
theorem Nev.alloc (h : Nev w x y wr H T g ch vt) (o : Obj) : Nev w x y (wr.alloc o) H T g ch vt := h.next ((Below.refl _ _).alloc (Nat.le_refl _) o)
theorem Nev.cell (h : Nev w x y wr H T g ch vt) {i : Nat} (hi : i < H.length) : wr.cell? ⟨g, i * 2, none⟩ = some (.int .u64 ((nth H i).1 : Int)) ∧ wr.cell? ⟨g, i * 2 + 1, none⟩ = some (.int .u64 ((nth H i).2 : Int)) :=
  ⟨(h.hv.cellAt (i * 2) (by omega)).trans (cellsS_at H i hi).1, (h.hv.cellAt (i * 2 + 1) (by omega)).trans (cellsS_at H i hi).2⟩
theorem Nev.frozen (h : Nev w x y wr H T g ch vt) (j : Nat) : wr.frozen? ⟨g, j, none⟩ = false := h.hv.frozenAt j
theorem Nev.cap (h : Nev w x y wr H T g ch vt) : H.length ≤ ch ∧ ch ≤ 9223372036854775807 := by
  obtain ⟨_, ⟨e, _⟩ | ⟨g', cap', cur, e, _, _, h1, h2, _⟩⟩ := h.hv
  · simp at e
  · simp only [Value.slice.injEq, Option.some.injEq, Addr.mk.injEq, and_true, true_and] at e
    obtain ⟨rfl, rfl⟩ := e
    exact ⟨h1, by unfold maxLen at h2; omega⟩
theorem Nev.set (h : Nev w x y wr H T g ch vt) (i : Nat) (p q : Nat) : Nev w x y ((wr.setCell ⟨g, i * 2, none⟩ (.int .u64 (p : Int))).setCell ⟨g, i * 2 + 1, none⟩ (.int .u64 (q : Int))) (H.set i (p, q)) T g ch vt := by
  obtain ⟨s1, k1⟩ := h.hv.stored (i * 2) (.int .u64 (p : Int))
  obtain ⟨s2, k2⟩ := s1.stored (i * 2 + 1) (.int .u64 (q : Int))
  have hlt := h.lt
  have ap := rows_apart h.tk h.hv (by decide)
  refine ⟨two_other (two_other h.box (by omega)) (by omega), ?_, (h.tk.kept k1 ap).kept k2 ap, (h.bel.setCell (p := ⟨g, i * 2, none⟩) (by show w.heap.size ≤ g; omega) _).setCell (p := ⟨g, i * 2 + 1, none⟩) (by show w.heap.size ≤ g; omega) _⟩
  rw [cellsS_set, List.length_set]
  exact s2
theorem Nev.pushT (h : Nev w x y wr H T g ch vt) {o : Obj} {w1 : World} {v1 : Value} {n : Nat} (hown : w1.ownsRow (w.heap.size + 1) 22 1 v1 (T.length + 1) (wordsT T ++ [.int .u64 (n : Int)])) (hg : (wr.alloc o).grownBy w1 vt.ownBlock) : Nev w x y w1 H (T ++ [n]) g ch v1 := by
  have ha := h.alloc o
  have hs := h.sz
  have ap := rows_apart ha.hv ha.tk (by decide)
  refine ⟨ha.box.kept hg (fun e => ?_), ha.hv.kept hg ap, ?_, ha.bel.grown hg (by simp; omega) (fun k e => by have := (ha.tk.lt k e).1; omega)⟩
  · have := (ha.tk.lt w.heap.size e.symm).1; omega
  · rw [List.length_append, List.length_singleton, wordsT_append]; exact hown
theorem Nev.pushH (h : Nev w x y wr H T g ch vt) {o : Obj} {w1 : World} {g1 c1 : Nat} {p q : Nat} (hown : w1.ownsRow (w.heap.size + 1) 24 2 (.slice (some ⟨g1, 0, none⟩) (H.length + 1) c1) (H.length + 1) (cellsS H ++ [.int .u64 (p : Int), .int .u64 (q : Int)])) (hg : (wr.alloc o).grownBy w1 (Value.slice (some ⟨g, 0, none⟩) H.length ch).ownBlock) : Nev w x y w1 (H ++ [(p, q)]) T g1 c1 vt := by
  have ha := h.alloc o
  have hs := h.sz
  have ap := rows_apart ha.tk ha.hv (by decide)
  refine ⟨ha.box.kept hg (fun e => ?_), ?_, ha.tk.kept hg ap, ha.bel.grown hg (by simp; omega) (fun k e => by have := (ha.hv.lt k e).1; omega)⟩
  · have := (ha.hv.lt w.heap.size e.symm).1; omega
  · rw [List.length_append, List.length_singleton, cellsS_append]; exact hown
theorem Nev.form (h : Nev w x y wr H T g ch vt) : ∃ ao ct, vt = .slice ao T.length ct ∧ T.length ≤ ct ∧ ct ≤ 9223372036854775807 ∧ ∀ q, q < T.length → ∃ gt, ao = some ⟨gt, 0, none⟩ := by
  obtain ⟨_, ⟨rfl, e⟩ | ⟨gt, cap', cur, rfl, _, _, h1, h2, _⟩⟩ := h.tk
  · exact ⟨none, 0, by rw [e], by omega, by omega, fun q hq => by omega⟩
  · exact ⟨some ⟨gt, 0, none⟩, cap', rfl, h1, by unfold maxLen at h2; omega, fun q _ => ⟨gt, rfl⟩⟩
theorem Nev.word {gt ct : Nat} (h : Nev w x y wr H T g ch (.slice (some ⟨gt, 0, none⟩) T.length ct)) {q : Nat} (hq : q < T.length) : wr.cell? ⟨gt, q, none⟩ = some (.int .u64 ((nthN T q : Nat) : Int)) :=
  (h.tk.cellAt q (by omega)).trans (wordsT_at T q hq)
end
theorem hasK_name {k a b n : Nat} (h : n < 2305843009213693952) : hasK k a b (Pm.nameN k n) = hasB a b n := by
  unfold hasK
  rw [Pm.num_name, Nat.mod_eq_of_lt h, decide_eq_true (Pm.name_lo k n), decide_eq_true (Pm.name_hi k n)]
  rfl
theorem apart_true {a b c d : Nat} (h : min b d ≤ max a c) : apartB a b c d = true := by
  unfold apartB ltB mxN mnN
  simp only [Bool.not_eq_true', decide_eq_false_iff_not]
  omega
end Go.Proofs.Ytjgdafpciilfeaa
