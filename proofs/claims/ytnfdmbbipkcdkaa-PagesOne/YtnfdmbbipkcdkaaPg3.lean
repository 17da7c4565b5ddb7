/-
  PROVED HERE: what package pages' copied, seek and place return when they are called (contracts over this translation). Maps are fewer than 2^38.
-/
import Derived.Test.YtnfdmbbipkcdkaaPg2
import Derived.Laws.AppendOwn
import Derived.Laws.OwnMore
import Derived.Laws.AppendOwnNone
import Derived.Maps.AppendAt
import Derived.Deep.RegionHeld3
namespace Go.Proofs.Ytnfdmbbipkcdkaa
open Go.RowKit Go.Shelf
set_option linter.unusedVariables false
attribute [local go_sem] Oper.semAt_some
open Pg

theorem ownsRow_base {W : World} {b b' : Nat} {e : TypeId} {size : Nat} {v : Value} {k : Nat} {xs : List Value} (hb : b' ≤ b) (h : W.ownsRow b e size v k xs) : W.ownsRow b' e size v k xs := by
  obtain ⟨h2, h3⟩ := h
  refine ⟨h2, ?_⟩
  rcases h3 with h3 | ⟨g, c, cur, e, q, r⟩
  · exact .inl h3
  · exact .inr ⟨g, c, cur, e, Nat.le_trans hb q, r⟩
theorem below_grown {w w' : World} (h : Below w.heap.size w w') : w.grownBy w' none := ⟨h.os, h.tape, h.output, h.size, fun k hk _ => h.block k hk⟩
theorem row_next {W W' : World} {b : Nat} {e : TypeId} {size : Nat} {v : Value} {k : Nat} {xs : List Value} (h : W.ownsRow b e size v k xs) (hb : Below W.heap.size W W') : W'.ownsRow b e size v k xs := by
  refine h.kept (below_grown hb) ?_
  cases ho : v.ownBlock with
  | none => exact .inl rfl
  | some a => exact .inr (by simp)
theorem row_below {W W' : World} {b : Nat} {e : TypeId} {size : Nat} {v : Value} {k : Nat} {xs : List Value} (h : W.ownsRow b e size v k xs) {B : Nat} {w : World} (hb : Below B w W) (hs : B ≤ W.heap.size) (hB : B ≤ b) (hg : W.grownBy W' v.ownBlock) : Below B w W' := by
  refine hb.grown hg hs ?_
  intro j ej
  rcases h.2 with ⟨rfl, h0⟩ | ⟨g, c, cur, rfl, hbg, hgg, _⟩
  · cases ej
  · cases ej; exact Nat.le_trans hB hbg
/-- Maps as cells. -/
def mpC (l : List Mp) : List Value := l.flatMap fun x => (mpV x).toList
theorem mpC_len (l : List Mp) : (mpC l).length = l.length * 6 := by
  induction l with
  | nil => rfl
  | cons x l ih => show ((mpV x).toList ++ mpC l).length = _; rw [List.length_append, ih]; show 6 + _ = _; simp; omega
theorem mpC_app (l m : List Mp) : mpC (l ++ m) = mpC l ++ mpC m := by unfold mpC; rw [List.flatMap_append]
theorem mpC_snoc (l : List Mp) (x : Mp) : mpC (l ++ [x]) = mpC l ++ (mpV x).toList := by unfold mpC; rw [List.flatMap_append]; simp
theorem mpC_at {l : List Mp} : ∀ {i j : Nat} {v : Value}, i < l.length → (mpV (mat l i))[j]? = some v → (mpC l)[i * 6 + j]? = some v := by
  induction l with
  | nil => intro i j v hi; simp at hi
  | cons x l ih =>
    intro i j v hi hv
    have hs : (mpV x).toList.length = 6 := rfl
    show ((mpV x).toList ++ mpC l)[i * 6 + j]? = some v
    cases i with
    | zero =>
      have hj : j < 6 := (Array.getElem?_eq_some_iff.1 hv).1
      rw [List.getElem?_append_left (by omega)]
      simpa [mat] using hv
    | succ i =>
      rw [List.getElem?_append_right (by omega), hs, show (i + 1) * 6 + j - 6 = i * 6 + j by omega]
      exact ih (by simpa using hi) (by simpa [mat] using hv)
theorem mpC_back {l : List Mp} : ∀ {j : Nat} {v : Value}, (mpC l)[j]? = some v → j / 6 < l.length ∧ (mpV (mat l (j / 6)))[j % 6]? = some v := by
  intro j v h
  have hj : j < l.length * 6 := by rw [← mpC_len]; exact (List.getElem?_eq_some_iff.1 h).1
  have hl : j / 6 < l.length := by omega
  have hm : j % 6 < (mpV (mat l (j / 6))).size := by show _ < 6; omega
  refine ⟨hl, ?_⟩
  have := mpC_at hl (Array.getElem?_eq_getElem hm)
  rw [show j / 6 * 6 + j % 6 = j by omega, h] at this
  rw [Array.getElem?_eq_getElem hm, ← this]
theorem mpC_one (l : List Mp) : ∀ u ∈ mpC l, u.oneCell' = true := by
  intro u hu
  obtain ⟨x, _, hx⟩ := List.mem_flatMap.1 hu
  simp [mpV] at hx
  rcases hx with rfl | rfl | rfl | rfl | rfl | rfl <;> rfl
theorem mps_of_row {w : World} {v : Value} {C : Nat} {l : List Mp} (h : w.ownsRow C 25 6 v l.length (mpC l)) : ∃ ao cap, v = .slice ao l.length cap ∧ Mps w.heap.size w ao l.length cap l := by
  have hl := h
  rcases h.2 with ⟨rfl, h0⟩ | ⟨g, c, cur, rfl, hb, hg, hkc, hcm, hcs, htk⟩
  · refine ⟨none, 0, by rw [h0], rfl, by omega, ⟨by omega, fun _ => rfl⟩, fun hn => by omega⟩
  · refine ⟨some ⟨g, 0, none⟩, c, rfl, rfl, hkc, ⟨by unfold maxLen at hcm; omega, fun e => by cases e⟩, fun hn => ⟨g, 0, rfl, (Array.getElem?_eq_some_iff.1 hg).1, fun i hi j u hu => ?_⟩⟩
    have := hl.cells (g := g) rfl (i * 6 + j) u (mpC_at hi hu)
    have e : (⟨g, 0, none⟩ : Addr).add (i * 6 + j) = ⟨g, 0 + i * 6 + j, none⟩ := by simp [Addr.add]; omega
    rw [e] at this
    exact this
theorem infoMap : (Try.prog.info? 25).map (fun i => (i.zero, i.size, i.bytes)) = some (some (.agg #[.int .i64 0, .int .i64 0, .int .u64 0, .int .u64 0, .int .i64 0, .bool false]), 6, 48) := by kernel_rfl
theorem MpsD.cells {D : Nat → Prop} {w : World} {ad : Addr} {n cap : Nat} {l : List Mp} (h : MpsD D w (some ad) n cap l) : ∀ j u, (mpC l)[j]? = some u → w.cell? (ad.add j) = some u := by
  intro j u hj
  obtain ⟨h1, h2⟩ := mpC_back hj
  obtain ⟨e1, _, _, e4⟩ := h
  obtain ⟨b, off, e, hb, hc⟩ := e4 (by omega)
  cases e
  have := hc (j / 6) (by omega) (j % 6) u h2
  have ea : (⟨b, off, none⟩ : Addr).add j = ⟨b, off + j / 6 * 6 + j % 6, none⟩ := by
    unfold Addr.add
    split
    · rename_i h0; subst h0; rfl
    · rw [show off + j / 6 * 6 + j % 6 = off + j by omega]
  rw [ea]
  exact this
theorem grownBy_refl (w : World) (r : Option Nat) : w.grownBy w r := ⟨rfl, rfl, rfl, Nat.le_refl _, fun _ _ _ => rfl⟩
section
variable {ops : Array Oper} {rest : List Oper} {o : Oper} {a : Act} {Q : Exit → Act → World → Prop} {w : World}
theorem wpList_append_mps (hgd : o.guard = none) (s x : Operand) (ho : o.op = .call { callee := .builtin .append, args := #[s, x], argTypes := #[22, 22] })
    (base : Nat) (v : Value) (l' : List Mp) (hs : a.eval s = v) (hown : w.ownsRow base 25 6 v l'.length (mpC l')) (B : Nat) (ao : Option Addr) (n cap : Nat) (l : List Mp) (hx : a.eval x = .slice ao n cap) (hL : Mps B w ao n cap l) (hb : l'.length + n < 68719476736) (hbase : base ≤ w.heap.size)
    (h : ∀ v' w', w'.ownsRow base 25 6 v' (l' ++ l).length (mpC (l' ++ l)) → w.grownBy w' v.ownBlock → wpList Try.prog ops Q rest (a.put o.dst v') w') : wpList Try.prog ops Q (o :: rest) a w := by
  obtain ⟨i0, hi, hz0, hz1, hz2⟩ := info_parts infoMap
  have hlen := hL.1
  cases ao with
  | none =>
    have h0 := hL.2.2.1.2 rfl
    have hn0 : n = 0 := by have := hL.2.1; omega
    subst hn0
    have hl : l = [] := List.eq_nil_of_length_eq_zero hlen
    subst hl
    subst h0
    refine wpList_append_own_none hgd s x 22 ho base 25 i0 6 Try.underlying22 hi v _ _ hs hown hx ?_
    exact h v w (by simpa using hown) (grownBy_refl _ _)
  | some ad =>
    refine wpList_append_own w hgd s x 22 ho base 25 i0 (.agg #[.int .i64 0, .int .i64 0, .int .u64 0, .int .u64 0, .int .i64 0, .bool false]) 6 48 Try.underlying22 hi hz0 hz1 hz2 rfl (by decide) v _ _ hs hown ad n cap (mpC l) hx (by rw [mpC_len, hlen]) hL.cells (mpC_one l) (by unfold maxLen; omega) (by omega) hbase ?_
    intro v' w' h1 h2 _
    exact h v' w' (by rw [List.length_append, mpC_app, hlen]; exact h1) h2
theorem step_append_mps {E : Prop} {K : Act → World → Prop} (hgd : o.guard = none) (s x : Operand) (ho : o.op = .call { callee := .builtin .append, args := #[s, x], argTypes := #[22, 22] })
    (base : Nat) (v : Value) (l' : List Mp) (hs : a.eval s = v) (hown : w.ownsRow base 25 6 v l'.length (mpC l')) (B : Nat) (ao : Option Addr) (n cap : Nat) (l : List Mp) (hx : a.eval x = .slice ao n cap) (hL : Mps B w ao n cap l) (hb : l'.length + n < 68719476736) (hbase : base ≤ w.heap.size)
    (h : ∀ v' w', w'.ownsRow base 25 6 v' (l' ++ l).length (mpC (l' ++ l)) → w.grownBy w' v.ownBlock → K (a.put o.dst v') w') : if Region.wanted o (yielded ops a.tmps) = true then Oper.wp Try.prog o a w K Q else E := by
  have hw : Region.wanted o (yielded ops a.tmps) = true := by simp [Region.wanted, hgd]
  rw [if_pos hw]
  obtain ⟨i0, hi, hz0, hz1, hz2⟩ := info_parts infoMap
  have hlen := hL.1
  cases ao with
  | none =>
    have h0 := hL.2.2.1.2 rfl
    have hn0 : n = 0 := by have := hL.2.1; omega
    subst hn0
    have hl : l = [] := List.eq_nil_of_length_eq_zero hlen
    subst hl
    subst h0
    have hrun := run_append_owned_none (P := Try.prog) (w := w) base 22 o.type 25 i0 6 Try.underlying22 hi v _ _ hown
    unfold Oper.wp
    simp [execOp, ho, resolve, invoke, builtin, hs, hx, hrun, Result.andThen]
    exact h v w (by simpa using hown) (grownBy_refl _ _)
  | some ad =>
    refine wp_append_own w s x 22 ho base 25 i0 (.agg #[.int .i64 0, .int .i64 0, .int .u64 0, .int .u64 0, .int .i64 0, .bool false]) 6 48 Try.underlying22 hi hz0 hz1 hz2 rfl (by decide) v _ _ hs hown ad n cap (mpC l) hx (by rw [mpC_len, hlen]) hL.cells (mpC_one l) (by unfold maxLen; omega) (by omega) hbase ?_
    intro v' w' h1 h2 _
    exact h v' w' (by rw [List.length_append, mpC_app, hlen]; exact h1) h2
end
theorem mat_take {l : List Mp} {k i : Nat} (h : i < k) : mat (l.take k) i = mat l i := by
  unfold mat; rw [List.getD_eq_getElem?_getD, List.getElem?_take, if_pos h, List.getD_eq_getElem?_getD]
theorem mat_drop {l : List Mp} {k i : Nat} : mat (l.drop k) i = mat l (k + i) := by
  unfold mat; rw [List.getD_eq_getElem?_getD, List.getElem?_drop, List.getD_eq_getElem?_getD]
theorem MpsD.take {D : Nat → Prop} {w : World} {ao : Option Addr} {n cap k : Nat} {l : List Mp} (h : MpsD D w ao n cap l) (hk : k ≤ n) : MpsD D w ao k cap (l.take k) := by
  obtain ⟨h1, h2, h3, h4⟩ := h
  refine ⟨by rw [List.length_take]; omega, by omega, h3, fun hn => ?_⟩
  obtain ⟨b, off, e, hb, hc⟩ := h4 (by omega)
  exact ⟨b, off, e, hb, fun i hi => by rw [mat_take hi]; exact hc i (by omega)⟩
theorem MpsD.drop {D : Nat → Prop} {w : World} {b off : Nat} {ao : Option Addr} {n cap k : Nat} {l : List Mp} (h : MpsD D w (some ⟨b, off, none⟩) n cap l) (hk : k ≤ n) (ha : ao = some ⟨b, off + k * 6, none⟩ ∨ (ao = some ⟨b, off, none⟩ ∧ k = n)) : MpsD D w ao (n - k) (cap - k) (l.drop k) := by
  obtain ⟨h1, h2, h3, h4⟩ := h
  refine ⟨by rw [List.length_drop]; omega, by omega, ⟨by omega, fun hz => by rcases ha with ha | ha; rw [ha] at hz; cases hz; rw [ha.1] at hz; cases hz⟩, fun hn => ?_⟩
  obtain ⟨b', off', e, hb, hc⟩ := h4 (by omega)
  cases e
  refine ⟨b, off + k * 6, by rcases ha with ha | ha; exact ha; omega, hb, fun i hi j v hv => ?_⟩
  rw [mat_drop] at hv
  have := hc (k + i) (by omega) j v hv
  rw [show off + (k + i) * 6 + j = off + k * 6 + i * 6 + j by omega] at this
  exact this
theorem slice_to {ao : Option Addr} {n cap k : Nat} (hk : k ≤ n) (hn : n ≤ cap) (W : World) : (Instr.sliceAt 22 (.slice ao n cap) none (some (.int .i64 (k : Int))) none).run Try.prog W = .ok (.slice ao k cap) W := by
  have h2 : k ≤ cap := by omega
  unfold Instr.sliceAt Instr.slice Instr.sliceBounds
  simp [go_sem, run_underlying Try.underlying22, Result.andThen, h2]
theorem slice_from {D : Nat → Prop} {w : World} {ao : Option Addr} {n cap k : Nat} {l : List Mp} (h : MpsD D w ao n cap l) (hk : k ≤ n) : ∃ a', MpsD D w a' (n - k) (cap - k) (l.drop k) ∧ (∀ W, (Instr.sliceAt 22 (.slice ao n cap) (some (.int .i64 (k : Int))) none none).run Try.prog W = .ok (.slice a' (n - k) (cap - k)) W) ∧ ∀ {D' : Nat → Prop} {w' : World}, MpsD D' w' ao n cap l → MpsD D' w' a' (n - k) (cap - k) (l.drop k) := by
  cases ao with
  | none =>
    have h0 := h.2.2.1.2 rfl
    have hn := h.2.1
    obtain rfl : n = 0 := by omega
    obtain rfl : k = 0 := by omega
    subst h0
    refine ⟨none, by simpa using h, fun W => ?_, fun h => by simpa using h⟩
    unfold Instr.sliceAt Instr.slice Instr.sliceBounds
    simp [go_sem, run_underlying Try.underlying22, Result.andThen]
  | some a =>
    have hn := h.2.1
    by_cases hc : cap = k
    · have hkn : k = n := by omega
      have key : ∀ {D' : Nat → Prop} {w' : World}, MpsD D' w' (some a) n cap l → MpsD D' w' (some a) (n - k) (cap - k) (l.drop k) := fun h' => by
        obtain ⟨h1, h2, h3, h4⟩ := h'
        exact ⟨by rw [List.length_drop]; omega, by omega, ⟨by omega, fun e => by cases e⟩, fun hz => by omega⟩
      refine ⟨some a, key h, fun W => ?_, fun h => key h⟩
      subst hc
      unfold Instr.sliceAt Instr.slice Instr.sliceBounds
      simp [go_sem, run_underlying Try.underlying22, Result.andThen, hk]
    · have key : ∀ {D' : Nat → Prop} {w' : World}, MpsD D' w' (some a) n cap l → MpsD D' w' (some (a.add (k * 6))) (n - k) (cap - k) (l.drop k) := fun h' => by
        by_cases hkn : k = n
        · obtain ⟨h1, h2, h3, h4⟩ := h'
          exact ⟨by rw [List.length_drop]; omega, by omega, ⟨by omega, fun e => by cases e⟩, fun hz => by omega⟩
        · obtain ⟨b, off, e, _⟩ := h'.2.2.2 (by omega)
          cases e
          refine h'.drop hk (.inl ?_)
          unfold Addr.add
          split
          · rename_i h0; rw [h0]; rfl
          · rfl
      refine ⟨some (a.add (k * 6)), key h, fun W => ?_, fun h => key h⟩
      unfold Instr.sliceAt Instr.slice Instr.sliceBounds
      simp [go_sem, run_underlying Try.underlying22, Result.andThen, hk, hc]
set_option maxHeartbeats 1000000 in
theorem copied_any {w : World} {ao : Option Addr} {n cap : Nat} {L : List Mp} (hL : Mps w.heap.size w ao n cap L) (hn : n < 68719476736) :
    Calls Try.prog 24 #[.slice ao n cap] w fun e w' => ∃ v, e = .returned v ∧ w'.ownsRow w.heap.size 25 6 v L.length (mpC L) ∧ Below w.heap.size w w' := by
  go_enter Try.func24, Try.ntmps24
  go_wp2_with (at_builtin; refine wpList_append_mps rfl _ _ rfl w.heap.size _ [] rfl (World.ownsRow_nil _ _ _ _) w.heap.size _ _ _ L rfl hL (by simpa using hn) (Nat.le_refl _) ?_; intro v' w1 hown' hgrow)
  go_ret
  exact ⟨_, rfl, by simpa using hown', (Below.refl _ _).grown hgrow (Nat.le_refl _) (fun j e => by have e' : none = some j := e; cases e')⟩
/-- The function value q answers P of every fit map, in w and in every world that keeps the blocks of D. -/
def AsksM (D : Nat → Prop) (w : World) (q : Value) (P : Mp → Bool) : Prop := ∃ (g : Nat) (lb : Array Value), q = .func (.func g) #[] lb ∧ (∀ args w, (callFunc g args).run Try.prog w = .ok (.enter g args) w) ∧
  ∀ W, Keeps D w W → ∀ (va nn cont seg of : Int) (wr : Bool), oneB ⟨va, nn, cont, seg, of, wr⟩ = true → Calls Try.prog g (#[.agg #[.int .i64 va, .int .i64 nn, .int .u64 cont, .int .u64 seg, .int .i64 of, .bool wr]] ++ lb) W fun e W' => e = .returned (.bool (P ⟨va, nn, cont, seg, of, wr⟩)) ∧ Below W.heap.size W W'
set_option maxHeartbeats 1000000 in
theorem seek_any {w : World} {ao : Option Addr} {n cap : Nat} {L : List Mp} (hL : Mps w.heap.size w ao n cap L) (hF : Fit L) {q : Value} {P : Mp → Bool} (hP : Falls P L) (hq : AsksM (fun b => b < w.heap.size) w q P) :
    Calls Try.prog 30 #[.slice ao n cap, q] w fun e w' => e = .returned (.int .i64 (ps P L : Nat)) ∧ Below w.heap.size w w' := by
  obtain ⟨g, lb, rfl, eg, hc⟩ := hq
  have hln : Hid (L.length = n) := hL.1
  have hn16 : n ≤ 16 := by rw [← hln.out]; exact hF.1
  have hF' : Hid (Fit L) := hF
  have hP' : Hid (Falls P L) := hP
  clear hF hP
  go_enter Try.func30, Try.ntmps30
  go_wp2
  go_loopw [5, 6] (fun vl vh wr => ∃ lo hi : Nat, lo ≤ hi ∧ hi ≤ n ∧ vl = .int .i64 lo ∧ vh = .int .i64 hi ∧ Hid (∀ i, i < lo → P (mat L i) = true) ∧ Hid (∀ i, hi ≤ i → i < n → P (mat L i) = false) ∧ Below w.heap.size w wr) (fun vl vh _ => (intOf vh).toNat - (intOf vl).toNat)
  case atStart => exact ⟨0, n, Nat.zero_le _, Nat.le_refl _, rfl, rfl, fun i hi => absurd hi (by omega), fun i h1 h2 => absurd h2 (by omega), Below.refl _ _⟩
  case round =>
    obtain ⟨lo, hi, hlh, hhn, rfl, rfl, hlo, hhi, hb⟩ := hrel
    by_cases hlt : lo < hi
    · obtain ⟨d, hd⟩ : ∃ d : Nat, d = (hi - lo) / 2 := ⟨_, rfl⟩
      have hdi : ((hi : Int) - lo) / 2 = d := by omega
      obtain ⟨m, hm⟩ : ∃ m : Nat, m = lo + d := ⟨_, rfl⟩
      have hmi : (lo : Int) + d = m := by omega
      have hmn : m < n := by omega
      have hm1 : lo ≤ m := by omega
      have hm2 : m < hi := by omega
      obtain ⟨b, off, va, nn, cont, seg, of, wrt, rfl, hbb, hx, c0, c1, c2, c3, c4, c5⟩ := MpsD.at (hL.later hb) hmn
      have h1 : oneB ⟨va, nn, cont, seg, of, wrt⟩ = true := by rw [← hx.out]; exact hF'.out.2.1 _ (mat_mem (by rw [hln.out]; exact hmn))
      have hcall := hc wr (Keeps.of_below (fun b hb' => hb') hb) va nn cont seg of wrt h1
      clear hd hm
      cases hPm : P ⟨va, nn, cont, seg, of, wrt⟩ with
      | true =>
        rw [hPm] at hcall
        have hlo2 : Hid (∀ i, i < m + 1 → P (mat L i) = true) := fun i hi => by
          by_cases e : i = m
          · rw [e, hx.out]; exact hPm
          · exact hP'.out i m (by omega) (by rw [hln.out]; exact hmn) (by rw [hx.out]; exact hPm)
        clear hPm
        go_wp2_with (refine Calls.mono hcall ?_; rintro e w1 ⟨rfl, hb1⟩)
        go_roundw
        case rel => exact ⟨m + 1, hi, by omega, hhn, by simp, rfl, hlo2, hhi, hb.trans (hb1.mono hb.size)⟩
        case measure => simp [intOf]; omega
      | false =>
        rw [hPm] at hcall
        have hhi2 : Hid (∀ i, m ≤ i → i < n → P (mat L i) = false) := fun i hi hin => by
          by_cases e : i = m
          · rw [e, hx.out]; exact hPm
          · cases hq : P (mat L i) with
            | false => rfl
            | true => have := hP'.out m i (by omega) (by rw [hln.out]; exact hin) hq; rw [hx.out, hPm] at this; cases this
        clear hPm
        go_wp2_with (refine Calls.mono hcall ?_; rintro e w1 ⟨rfl, hb1⟩)
        go_roundw
        case rel => exact ⟨lo, m, by omega, by omega, rfl, rfl, hlo, hhi2, hb.trans (hb1.mono hb.size)⟩
        case measure => simp [intOf]; omega
    · obtain rfl : lo = hi := by omega
      have hr : Hid (ps P L = lo) := ps_spec (by rw [hln.out]; exact hhn) hlo.out (fun h => hhi.out lo (Nat.le_refl _) (by rw [← hln.out]; exact h))
      go_wp2
      go_ret
      exact ⟨by rw [hr.out]; rfl, hb⟩
/-- Function g answers Q of every fit interval and every page. -/
def AsksI (g : Nat) (Q : Int → Int → Int → Bool) : Prop := (∀ args w, (callFunc g args).run Try.prog w = .ok (.enter g args) w) ∧
  ∀ (W : World) (f n p : Int), 0 ≤ f → 0 ≤ n → f + n ≤ 1048576 → Calls Try.prog g #[.agg #[.int .i64 f, .int .i64 n], .int .i64 p] W fun e W' => e = .returned (.bool (Q f n p)) ∧ Below W.heap.size W W'
theorem asks_ends : AsksI 21 (fun f n p => decide (f + n ≤ p)) :=
  ⟨enters_of Try.func21 (by kernel_rfl) rfl, fun W f n p h0 h1 h2 => ends_any f n p h0 h1 h2 W⟩
theorem asks_begins : AsksI 26 (fun f n p => decide (f < p)) :=
  ⟨enters_of Try.func26 (by kernel_rfl) rfl, fun W f n p h0 h1 h2 => begins_any f n p W⟩
/-- What lies in memory while place's question is asked. -/
def Pl (w : World) (A B Bp g : Nat) (p : Int) (x : Mp) (W : World) : Prop := W.cell? ⟨B, 0, none⟩ = some (.func (.func g) #[] #[]) ∧ W.cell? ⟨Bp, 0, none⟩ = some (.int .i64 p) ∧ Mb W A x ∧ Below w.heap.size w W
def PlS (w : World) (A B Bp g : Nat) (p va nn cont seg of : Int) (wr : Bool) (W : World) : Prop :=
  W.cell? ⟨A, 0, none⟩ = some (.int .i64 va) ∧ W.cell? ⟨A, 1, none⟩ = some (.int .i64 nn) ∧ W.cell? ⟨A, 2, none⟩ = some (.int .u64 cont) ∧ W.cell? ⟨A, 3, none⟩ = some (.int .u64 seg) ∧ W.cell? ⟨A, 4, none⟩ = some (.int .i64 of) ∧ W.cell? ⟨A, 5, none⟩ = some (.bool wr) ∧
  W.cell? ⟨B, 0, none⟩ = some (.func (.func g) #[] #[]) ∧ W.cell? ⟨Bp, 0, none⟩ = some (.int .i64 p) ∧ Pl w A B Bp g p ⟨va, nn, cont, seg, of, wr⟩ W
section
variable {w X Y : World} {A B Bp g : Nat} {p va nn cont seg of : Int} {wr : Bool}
theorem Pl.mem (h : Pl w A B Bp g p ⟨va, nn, cont, seg, of, wr⟩ X) : PlS w A B Bp g p va nn cont seg of wr X := by
  obtain ⟨c0, c1, c2, c3, c4, c5⟩ := h.2.2.1.cells
  exact ⟨c0, c1, c2, c3, c4, c5, h.1, h.2.1, h⟩
theorem PlS.pl (h : PlS w A B Bp g p va nn cont seg of wr X) : Pl w A B Bp g p ⟨va, nn, cont, seg, of, wr⟩ X := h.2.2.2.2.2.2.2.2
theorem Pl.next {x : Mp} (h : Pl w A B Bp g p x X) (hb : Below X.heap.size X Y) : Pl w A B Bp g p x Y :=
  ⟨(hb.cell (World.block_lt_of_cell? _ _ h.1)).trans h.1, (hb.cell (World.block_lt_of_cell? _ _ h.2.1)).trans h.2.1, h.2.2.1.next hb, h.2.2.2.trans (hb.mono h.2.2.2.size)⟩
theorem PlS.next (h : PlS w A B Bp g p va nn cont seg of wr X) (hb : Below X.heap.size X Y) : PlS w A B Bp g p va nn cont seg of wr Y := (h.pl.next hb).mem
end
set_option maxHeartbeats 1000000 in
theorem place1_any {g : Nat} {Q : Int → Int → Int → Bool} (hg : AsksI g Q) {B Bp : Nat} {p : Int} {w : World} (hB : w.cell? ⟨B, 0, none⟩ = some (.func (.func g) #[] #[])) (hP : w.cell? ⟨Bp, 0, none⟩ = some (.int .i64 p)) (va nn cont seg of : Int) (wr : Bool) (h1 : oneB ⟨va, nn, cont, seg, of, wr⟩ = true) :
    Calls Try.prog 31 #[.agg #[.int .i64 va, .int .i64 nn, .int .u64 cont, .int .u64 seg, .int .i64 of, .bool wr], .pointer (some ⟨B, 0, none⟩), .pointer (some ⟨Bp, 0, none⟩)] w fun e w' => e = .returned (.bool (Q va nn p)) ∧ Below w.heap.size w w' := by
  obtain ⟨eg, hc⟩ := hg
  have h1' := oneB_iff.1 h1
  simp only at h1'
  have hq : ∀ W, Calls Try.prog g #[.agg #[.int .i64 va, .int .i64 nn], .int .i64 p] W fun e W' => e = .returned (.bool (Q va nn p)) ∧ Below W.heap.size W W' := fun W => hc W va nn p (by omega) (by omega) (by omega)
  clear h1 h1' hc
  have hB1 := (Below.refl w.heap.size w).alloc (Nat.le_refl _) (.cells #[.int .i64 va, .int .i64 nn, .int .u64 cont, .int .u64 seg, .int .i64 of, .bool wr] 25)
  have hc1 := cellLater hB (.cells #[.int .i64 va, .int .i64 nn, .int .u64 cont, .int .u64 seg, .int .i64 of, .bool wr] 25)
  have hp1 := cellLater hP (.cells #[.int .i64 va, .int .i64 nn, .int .u64 cont, .int .u64 seg, .int .i64 of, .bool wr] 25)
  have hM := Mb.new w ⟨va, nn, cont, seg, of, wr⟩
  have HS : PlS w w.heap.size B Bp g p va nn cont seg of wr (w.alloc (.cells #[.int .i64 va, .int .i64 nn, .int .u64 cont, .int .u64 seg, .int .i64 of, .bool wr] 25)).drew := (Pl.next ⟨hc1, hp1, hM, hB1⟩ (Below.refl _ _).drew).mem
  clear hB1 hc1 hp1 hM hB hP
  go_enter Try.func31, Try.ntmps31
  go_wp2
  go_region_held3 (fun W => W.cell? ⟨w.heap.size, 0, none⟩ = some (.int .i64 va) ∧ W.cell? ⟨w.heap.size, 1, none⟩ = some (.int .i64 nn) ∧ W.cell? ⟨w.heap.size, 2, none⟩ = some (.int .u64 cont) ∧ W.cell? ⟨w.heap.size, 3, none⟩ = some (.int .u64 seg) ∧ W.cell? ⟨w.heap.size, 4, none⟩ = some (.int .i64 of) ∧ W.cell? ⟨w.heap.size, 5, none⟩ = some (.bool wr) ∧ W.cell? ⟨B, 0, none⟩ = some (.func (.func g) #[] #[]) ∧ W.cell? ⟨Bp, 0, none⟩ = some (.int .i64 p) ∧ Pl w w.heap.size B Bp g p ⟨va, nn, cont, seg, of, wr⟩ W) (first | exact HS | exact PlS.next (by assumption) hb | go_keep) (first | (go_at_call 20; (with_reducible refine (stands_any va nn cont seg of wr _).mono ?_); rintro e w' ⟨rfl, hb⟩) | (go_at_fn g; (with_reducible refine (hq _).mono ?_); rintro e w' ⟨rfl, hb⟩))
  have hfin : Below w.heap.size w w' := (PlS.pl (by assumption : PlS w w.heap.size B Bp g p va nn cont seg of wr w')).2.2.2
  go_wp2
  go_ret
  exact ⟨rfl, hfin⟩
set_option maxHeartbeats 1000000 in
theorem place_any {w : World} {ao : Option Addr} {n cap : Nat} {L : List Mp} (hL : Mps w.heap.size w ao n cap L) (hF : Fit L) {g : Nat} {Q : Int → Int → Int → Bool} (hg : AsksI g Q) {p : Int} {P : Mp → Bool} (hQ : ∀ x, P x = Q x.va x.n p) (hP : Falls P L) :
    Calls Try.prog 25 #[.slice ao n cap, .func (.func g) #[] #[], .int .i64 p] w fun e w' => e = .returned (.int .i64 (ps P L : Nat)) ∧ Below w.heap.size w w' := by
  obtain ⟨W1, hW1⟩ : ∃ W1, W1 = w.alloc (.cells #[.func (.func g) #[] #[]] 50) := ⟨_, rfl⟩
  obtain ⟨W2, hW2⟩ : ∃ W2, W2 = W1.alloc (.cells #[.int .i64 p] 3) := ⟨_, rfl⟩
  have s1 : W1.heap.size = w.heap.size + 1 := by rw [hW1]; simp
  have s2 : W2.heap.size = w.heap.size + 2 := by rw [hW2]; simp [s1]
  have b1 : Below w.heap.size w W1 := by rw [hW1]; exact (Below.refl _ w).alloc (Nat.le_refl _) _
  have b12 : Below W1.heap.size W1 W2 := by rw [hW2]; exact (Below.refl _ W1).alloc (Nat.le_refl _) _
  have b2 : Below w.heap.size w W2 := b1.trans (b12.mono b1.size)
  have c1 : W1.cell? ⟨w.heap.size, 0, none⟩ = some (.func (.func g) #[] #[]) := by rw [hW1]; simp
  have c1' : W2.cell? ⟨w.heap.size, 0, none⟩ = some (.func (.func g) #[] #[]) := (b12.cell (World.block_lt_of_cell? _ _ c1)).trans c1
  have c2 : W2.cell? ⟨w.heap.size + 1, 0, none⟩ = some (.int .i64 p) := by rw [hW2, ← s1]; simp
  have hq : AsksM (fun b => b < W2.heap.size) W2 (.func (.func 31) #[] #[.pointer (some ⟨w.heap.size, 0, none⟩), .pointer (some ⟨w.heap.size + 1, 0, none⟩)]) P :=
    ⟨31, _, rfl, enters_of Try.func31 (by kernel_rfl) rfl, fun W hW va nn cont seg of wr h1 => by
      rw [hQ]
      exact place1_any hg ((cellK hW (by show w.heap.size < _; omega)).trans c1') ((cellK hW (by show w.heap.size + 1 < _; omega)).trans c2) va nn cont seg of wr h1⟩
  have hc := seek_any (hL.next b2) hF hP hq
  rw [hW2, hW1] at hc
  go_enter Try.func25, Try.ntmps25
  go_wp2_with (go_at_call 30; refine hc.mono ?_; rintro e w' ⟨rfl, hb⟩)
  go_ret
  refine ⟨rfl, ?_⟩
  rw [← hW1, ← hW2] at hb
  exact b2.trans (hb.mono b2.size)
theorem place_e {w : World} {ao : Option Addr} {n cap : Nat} {L : List Mp} (hL : Mps w.heap.size w ao n cap L) (hF : Fit L) (p : Int) :
    Calls Try.prog 25 #[.slice ao n cap, .func (.func 21) #[] #[], .int .i64 p] w fun e w' => e = .returned (.int .i64 (ps (eP p) L : Nat)) ∧ Below w.heap.size w w' :=
  place_any hL hF asks_ends (fun x => rfl) (falls_e hF)
theorem place_b {w : World} {ao : Option Addr} {n cap : Nat} {L : List Mp} (hL : Mps w.heap.size w ao n cap L) (hF : Fit L) (p : Int) :
    Calls Try.prog 25 #[.slice ao n cap, .func (.func 26) #[] #[], .int .i64 p] w fun e w' => e = .returned (.int .i64 (ps (bP p) L : Nat)) ∧ Below w.heap.size w w' :=
  place_any hL hF asks_begins (fun x => rfl) (falls_b hF)
end Go.Proofs.Ytnfdmbbipkcdkaa
