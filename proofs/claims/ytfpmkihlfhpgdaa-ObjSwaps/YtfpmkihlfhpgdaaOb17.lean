/-
  PROVED HERE: rows of cells in general, and what package obj's copied (of labels, of words, of maps) returns when it is called: the same in memory of its own (contracts over this translation). Rows are shorter than 2^32.
-/
import Derived.Test.YtfpmkihlfhpgdaaOb16
import Derived.Laws.AppendOwn
import Derived.Laws.OwnMore
import Derived.Laws.AppendOwnNone
import Derived.Maps.AppendAt
namespace Go.Proofs.Ytfpmkihlfhpgdaa
open Go.RowKit Go.Shelf
set_option linter.unusedVariables false
attribute [local go_sem] Oper.semAt_some

/-- The slice of n elements of k cells each at ao holds the cells cs in w, in a block of which D holds. -/
def RowC (k : Nat) (D : Nat → Prop) (w : World) (ao : Option Addr) (n cap : Nat) (cs : List Value) : Prop :=
  cs.length = n * k ∧ n ≤ cap ∧ (cap ≤ 9223372036854775807 ∧ (ao = none → cap = 0)) ∧ (0 < n → ∃ b off, ao = some ⟨b, off, none⟩ ∧ D b ∧ w.rangeAt b off cs)
theorem RowC.cells {k : Nat} {D : Nat → Prop} {w : World} {ad : Addr} {n cap : Nat} {cs : List Value} (h : RowC k D w (some ad) n cap cs) : ∀ j u, cs[j]? = some u → w.cell? (ad.add j) = some u := by
  intro j u hj
  have hl := (List.getElem?_eq_some_iff.1 hj).1
  have hn : 0 < n := by
    rcases Nat.eq_zero_or_pos n with h0 | h0
    · have := h.1; rw [h0] at this; omega
    · exact h0
  obtain ⟨b, off, e, _, hr⟩ := h.2.2.2 hn
  cases e
  rw [Addr.add_mid]
  exact hr j u hj
theorem RowC.of_owns {k base : Nat} {w : World} {e : TypeId} {v : Value} {n : Nat} {cs : List Value} (h : w.ownsRow base e k v n cs) : ∃ ao cap, v = .slice ao n cap ∧ RowC k (fun b => base ≤ b ∧ b < w.heap.size) w ao n cap cs := by
  have hl := h
  rcases h.2 with ⟨rfl, h0⟩ | ⟨g, c, cur, rfl, hb, hg, hkc, hcm, hcs, htk⟩
  · subst h0
    exact ⟨none, 0, rfl, h.1, Nat.le_refl _, ⟨by omega, fun _ => rfl⟩, fun hn => absurd hn (by omega)⟩
  · refine ⟨some ⟨g, 0, none⟩, c, rfl, h.1, hkc, ⟨by unfold maxLen at hcm; omega, fun e => by cases e⟩, fun hn => ⟨g, 0, rfl, ⟨hb, (Array.getElem?_eq_some_iff.1 hg).1⟩, fun j u hj => ?_⟩⟩
    have := hl.cells (g := g) rfl j u hj
    rw [Addr.add_mid] at this
    exact this
section
variable {D : Nat → Prop} {w : World} {ao : Option Addr} {n cap : Nat}
theorem cellsO_len (L : Lb) : (cellsOf L).length = L.length * 2 := by
  induction L with
  | nil => rfl
  | cons p r ih => simp [cellsOf, ih]; omega
theorem cellsO_at {L : Lb} : ∀ {i : Nat}, i < L.length → (cellsOf L)[i * 2]? = some (.int .u64 (L.getD i (0, 0)).1) ∧ (cellsOf L)[i * 2 + 1]? = some (.int .i64 (L.getD i (0, 0)).2) := by
  induction L with
  | nil => intro i hi; simp at hi
  | cons p r ih =>
    intro i hi
    cases i with
    | zero => exact ⟨rfl, rfl⟩
    | succ i =>
      have := ih (i := i) (by simpa using hi)
      rw [show (i + 1) * 2 = i * 2 + 1 + 1 by omega]
      exact ⟨this.1, this.2⟩
theorem LabD.row {L : Lb} (h : LabD D w ao n cap L) : RowC 2 D w ao n cap (cellsOf L) := by
  refine ⟨by rw [cellsO_len, h.1], h.2.1, h.2.2.1, fun hn => ?_⟩
  obtain ⟨b, off, e, hb, hc⟩ := h.2.2.2 hn
  refine ⟨b, off, e, hb, fun j u hj => ?_⟩
  have hl : j < L.length * 2 := by rw [← cellsO_len]; exact (List.getElem?_eq_some_iff.1 hj).1
  have hi : j / 2 < L.length := by omega
  have c := cellsO_at hi
  have q := hc (j / 2) (by rw [← h.1]; exact hi)
  rcases Nat.mod_two_eq_zero_or_one j with h0 | h1
  · rw [show j / 2 * 2 = j by omega] at c q
    rw [hj] at c
    cases c.1
    exact q.1
  · have e1 : j / 2 * 2 + 1 = j := by omega
    have q2 := q.2
    rw [show off + j / 2 * 2 + 1 = off + j by omega] at q2
    rw [e1, hj] at c
    cases c.2
    exact q2
theorem RowC.lab {L : Lb} (h : RowC 2 D w ao n cap (cellsOf L)) : LabD D w ao n cap L := by
  have hl := h.1
  rw [cellsO_len] at hl
  refine ⟨by omega, h.2.1, h.2.2.1, fun hn => ?_⟩
  obtain ⟨b, off, e, hb, hc⟩ := h.2.2.2 hn
  refine ⟨b, off, e, hb, fun i hi => ?_⟩
  have c := cellsO_at (L := L) (i := i) (by omega)
  exact ⟨hc _ _ c.1, hc _ _ c.2⟩
def wordsC (L : List Int) : List Value := L.map (Value.int .u64)
theorem CtD.row {L : List Int} (h : CtD D w ao n cap L) : RowC 1 D w ao n cap (wordsC L) := by
  refine ⟨by simp [wordsC, h.1], h.2.1, h.2.2.1, fun hn => ?_⟩
  obtain ⟨b, off, e, hb, hc⟩ := h.2.2.2 hn
  refine ⟨b, off, e, hb, fun j u hj => ?_⟩
  have hl : j < L.length := by have := (List.getElem?_eq_some_iff.1 hj).1; simpa [wordsC] using this
  rw [hc j (by rw [← h.1]; exact hl), ← hj]
  simp [wordsC, List.getD_eq_getElem?_getD, List.getElem?_eq_getElem hl]
theorem RowC.ct {L : List Int} (h : RowC 1 D w ao n cap (wordsC L)) : CtD D w ao n cap L := by
  have hl := h.1
  simp [wordsC] at hl
  refine ⟨hl, h.2.1, h.2.2.1, fun hn => ?_⟩
  obtain ⟨b, off, e, hb, hc⟩ := h.2.2.2 hn
  refine ⟨b, off, e, hb, fun i hi => hc i _ ?_⟩
  have hi' : i < L.length := by omega
  simp [wordsC, List.getD_eq_getElem?_getD, List.getElem?_eq_getElem hi']
theorem MpD.row {L : List PgM.Pg.Mp} (h : MpD D w ao n cap L) : RowC 6 D w ao n cap (PgM.mpC L) := by
  refine ⟨by rw [PgM.mpC_len, h.1], h.2.1, h.2.2.1, fun hn => ?_⟩
  obtain ⟨b, off, e, hb, hc⟩ := h.2.2.2 hn
  refine ⟨b, off, e, hb, fun j u hj => ?_⟩
  obtain ⟨h1, h2⟩ := PgM.mpC_back hj
  have := hc (j / 6) (by rw [← h.1]; exact h1) (j % 6) u h2
  rwa [show off + j / 6 * 6 + j % 6 = off + j by omega] at this
theorem RowC.mp {L : List PgM.Pg.Mp} (h : RowC 6 D w ao n cap (PgM.mpC L)) : MpD D w ao n cap L := by
  have hl := h.1
  rw [PgM.mpC_len] at hl
  refine ⟨by omega, h.2.1, h.2.2.1, fun hn => ?_⟩
  obtain ⟨b, off, e, hb, hc⟩ := h.2.2.2 hn
  refine ⟨b, off, e, hb, fun i hi j v hv => ?_⟩
  have := hc (i * 6 + j) v (PgM.mpC_at (by omega) hv)
  rwa [show off + (i * 6 + j) = off + i * 6 + j by omega] at this
end
section
variable {ops : Array Oper} {rest : List Oper} {o : Oper} {a : Act} {Q : Exit → Act → World → Prop} {w : World}
theorem wpList_append_row {t e : TypeId} {z : Value} {k by_ : Nat} (hinfo : (Try.prog.info? e).map (fun i => (i.zero, i.size, i.bytes)) = some (some z, k, by_)) (ht : Try.prog.underlying t = some (.slice e)) (hzs : z.cells.size = k) (hk : 0 < k) (hgd : o.guard = none) (s x : Operand) (ho : o.op = .call { callee := .builtin .append, args := #[s, x], argTypes := #[t, t] })
    (base : Nat) (v : Value) (m : Nat) (cs' : List Value) (hs : a.eval s = v) (hown : w.ownsRow base e k v m cs') (D : Nat → Prop) (ao : Option Addr) (n cap : Nat) (cs : List Value) (hx : a.eval x = .slice ao n cap) (hL : RowC k D w ao n cap cs) (h1 : ∀ u ∈ cs, u.oneCell' = true) (h63 : m + n ≤ maxLen) (hby : (m + n) * by_ ≤ 140737488355328) (hbase : base ≤ w.heap.size)
    (h : ∀ v' w', w'.ownsRow base e k v' (m + n) (cs' ++ cs) → w.grownBy w' v.ownBlock → wpList Try.prog ops Q rest (a.put o.dst v') w') : wpList Try.prog ops Q (o :: rest) a w := by
  obtain ⟨i0, hi, hz0, hz1, hz2⟩ := info_parts hinfo
  cases ao with
  | none =>
    have h0 := hL.2.2.1.2 rfl
    have hn0 : n = 0 := by have := hL.2.1; omega
    subst hn0
    have hl : cs = [] := List.eq_nil_of_length_eq_zero (by have := hL.1; omega)
    subst hl
    subst h0
    refine wpList_append_own_none hgd s x t ho base e i0 k ht hi v _ _ hs hown hx ?_
    exact h v w (by simpa using hown) (PgM.grownBy_refl _ _)
  | some ad =>
    refine wpList_append_own w hgd s x t ho base e i0 z k by_ ht hi hz0 hz1 hz2 hzs hk v _ _ hs hown ad n cap cs hx hL.1 hL.cells h1 h63 hby hbase ?_
    intro v' w' h2 h3 _
    exact h v' w' h2 h3
end
theorem infoW : (Try.prog.info? 22).map (fun i => (i.zero, i.size, i.bytes)) = some (some (.int .u64 0), 1, 8) := by kernel_rfl
theorem infoP : (Try.prog.info? 61).map (fun i => (i.zero, i.size, i.bytes)) = some (some (.agg #[.int .u64 0, .int .i64 0]), 2, 16) := by kernel_rfl
theorem infoM : (Try.prog.info? 90).map (fun i => (i.zero, i.size, i.bytes)) = some (some (.agg #[.int .i64 0, .int .i64 0, .int .u64 0, .int .u64 0, .int .i64 0, .bool false]), 6, 48) := by kernel_rfl
theorem cellsO_one (L : Lb) : ∀ u ∈ cellsOf L, u.oneCell' = true := by
  induction L with
  | nil => intro u hu; cases hu
  | cons p r ih =>
    intro u hu
    simp [cellsOf] at hu
    rcases hu with rfl | rfl | hu
    · rfl
    · rfl
    · exact ih u hu
theorem wordsC_one (L : List Int) : ∀ u ∈ wordsC L, u.oneCell' = true := by
  intro u hu
  simp [wordsC] at hu
  obtain ⟨x, _, rfl⟩ := hu
  rfl
/-- Between two worlds. -/
abbrev New (w w' : World) : Nat → Prop := fun b => w.heap.size ≤ b ∧ b < w'.heap.size
theorem grown_below {w w' : World} (h : w.grownBy w' (Value.ownBlock (.slice none 0 0))) : Below w.heap.size w w' := (Below.refl _ _).grown h (Nat.le_refl _) (fun j e => by have e' : none = some j := e; cases e')
theorem copyL {w0 w : World} {ao : Option Addr} {n cap : Nat} {L : Lb} (h : LabD (LtN w0) w0 ao n cap L) (hk : Below w0.heap.size w0 w) (hn : n < 4294967296) :
    Calls Try.prog 58 #[.slice ao n cap] w fun e w' => ∃ ao1 cap1, e = .returned (.slice ao1 n cap1) ∧ LabD (New w w') w' ao1 n cap1 L ∧ Below w.heap.size w w' := by
  have hL := (lab_eq h hk).row
  go_enter Try.func58, Try.ntmps58
  go_wp2_with (at_builtin; refine wpList_append_row infoP Try.underlying24 rfl (by omega) rfl _ _ rfl w.heap.size _ 0 [] rfl (World.ownsRow_nil _ _ _ _) _ _ _ _ (cellsOf L) rfl hL (cellsO_one L) (by unfold maxLen; omega) (by omega) (Nat.le_refl _) ?_; intro v' w1 hown hgrow)
  go_ret
  rw [Nat.zero_add, List.nil_append] at hown
  obtain ⟨ao1, cap1, rfl, hr⟩ := RowC.of_owns hown
  exact ⟨ao1, cap1, rfl, hr.lab, grown_below hgrow⟩
theorem copyU {w0 w : World} {ao : Option Addr} {n cap : Nat} {L : List Int} (h : CtD (LtN w0) w0 ao n cap L) (hk : Below w0.heap.size w0 w) (hn : n < 4294967296) :
    Calls Try.prog 83 #[.slice ao n cap] w fun e w' => ∃ ao1 cap1, e = .returned (.slice ao1 n cap1) ∧ CtD (New w w') w' ao1 n cap1 L ∧ Below w.heap.size w w' := by
  have hL := (h.ct' hk).row
  go_enter Try.func83, Try.ntmps83
  go_wp2_with (at_builtin; refine wpList_append_row infoW Try.underlying25 rfl (by omega) rfl _ _ rfl w.heap.size _ 0 [] rfl (World.ownsRow_nil _ _ _ _) _ _ _ _ (wordsC L) rfl hL (wordsC_one L) (by unfold maxLen; omega) (by omega) (Nat.le_refl _) ?_; intro v' w1 hown hgrow)
  go_ret
  rw [Nat.zero_add, List.nil_append] at hown
  obtain ⟨ao1, cap1, rfl, hr⟩ := RowC.of_owns hown
  exact ⟨ao1, cap1, rfl, hr.ct, grown_below hgrow⟩
theorem copyM {w0 w : World} {ao : Option Addr} {n cap : Nat} {L : List PgM.Pg.Mp} (h : MpD (LtN w0) w0 ao n cap L) (hk : Below w0.heap.size w0 w) (hn : n < 4294967296) :
    Calls Try.prog 84 #[.slice ao n cap] w fun e w' => ∃ ao1 cap1, e = .returned (.slice ao1 n cap1) ∧ MpD (New w w') w' ao1 n cap1 L ∧ Below w.heap.size w w' := by
  have hL := MpD.row (MpD.mp' h hk)
  go_enter Try.func84, Try.ntmps84
  go_wp2_with (at_builtin; refine wpList_append_row infoM Try.underlying26 rfl (by omega) rfl _ _ rfl w.heap.size _ 0 [] rfl (World.ownsRow_nil _ _ _ _) _ _ _ _ (PgM.mpC L) rfl hL (PgM.mpC_one L) (by unfold maxLen; omega) (by omega) (Nat.le_refl _) ?_; intro v' w1 hown hgrow)
  go_ret
  rw [Nat.zero_add, List.nil_append] at hown
  obtain ⟨ao1, cap1, rfl, hr⟩ := RowC.of_owns hown
  exact ⟨ao1, cap1, rfl, hr.mp, grown_below hgrow⟩
end Go.Proofs.Ytfpmkihlfhpgdaa
