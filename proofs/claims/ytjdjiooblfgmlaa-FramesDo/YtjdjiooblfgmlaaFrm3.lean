/-
  PROVED HERE: what package frames' iterator over the frames that something is true of hands out, for every loop body (a contract over this translation). No condition.
-/
import Derived.Test.YtjdjiooblfgmlaaFrm2
namespace Go.Proofs.Ytjdjiooblfgmlaa
open Go.RowKit Go.Shelf
set_option linter.unusedVariables false
attribute [local go_sem] Oper.semAt_some

/-- A number as a place of a list. -/
def Frm.ix (L : List Frm.Fr) (i : Nat) : Nat := if i < L.length then i else 0
theorem Frm.ix_lt {L : List Frm.Fr} {i : Nat} (h : i < L.length) : Frm.ix L i = i := if_pos h
theorem Frm.ix_in {L : List Frm.Fr} (i : Nat) (h : 0 < L.length) : Frm.ix L i < L.length := by unfold Frm.ix; split <;> assumption
theorem Frm.ix_map {L : List Frm.Fr} {ks : List Nat} (h : ∀ k ∈ ks, k < L.length) : ks.map (Frm.ix L) = ks := by
  induction ks with
  | nil => rfl
  | cons k r ih => rw [List.map_cons, Frm.ix_lt (h k (by simp)), ih (fun j hj => h j (by simp [hj]))]
def encF (L : List Frm.Fr) (i : Nat) : Array Value := #[.int .i64 (Frm.ix L i : Nat), .agg #[.int .u64 (Frm.fat L (Frm.ix L i)).1, .int .i64 (Frm.fat L (Frm.ix L i)).2]]

set_option maxRecDepth 100000 in
set_option maxHeartbeats 1000000 in
theorem those1_in (N : Nat) (hn : 1 ≤ N) (l Bl Bi : Nat) (D : Nat → Prop) {ao : Option Addr} {n cap : Nat} {L : List Frm.Fr} {q : Value} {P : Frm.Fr → Bool} (J Jx : List Nat → World → Prop)
    (hY : ∀ pre x W, J pre W → pre.length < (Frm.hits P L).length → YieldAt Fence.wide (N - 1) Try.prog l (encF L x) W fun e W' =>
      (e = .returned (.bool true) ∧ J (pre ++ [x]) W' ∧ Keeps D W W') ∨ (e = .returned (.bool false) ∧ Jx (pre ++ [x]) W'))
    (W : World) (hJ : AbidesFrom W.heap.size J) (hD : ∀ b, D b → b < W.heap.size) (hDi : D Bi) (hBl : W.cell? ⟨Bl, 0, none⟩ = some (.slice ao n cap)) (hBi : W.cell? ⟨Bi, 0, none⟩ = some q)
    (hL : LabD D W ao n cap L) (hq : AsksD D W q P) (h0 : J [] W) :
    CallsIn Fence.wide N Try.prog 39 #[.func (.yield l) #[] #[], .pointer (some ⟨Bl, 0, none⟩), .pointer (some ⟨Bi, 0, none⟩)] W fun e W' => (∃ v, e = .returned v) ∧
      ((∃ ys, ys = Frm.hits P L ∧ J ys W') ∨ (∃ pre, pre <+: Frm.hits P L ∧ Jx pre W')) := by
  have hln : Hid (L.length = n) := hL.1
  have hcm := hL.2.2.1.1
  have hnc := hL.2.1
  obtain ⟨g, lb, rfl, eg, hcall⟩ := hq
  refine callsIn_of_wp Try.func39 rfl trivial ?_ rfl
  simp only [Try.ntmps39, List.size_toArray, List.length_cons, List.length_nil, Nat.reduceAdd, Nat.reduceSub, Array.replicate_succ, Array.replicate_zero, List.push_toArray, List.append_toArray, List.nil_append, List.cons_append]
  gi_wp2
  gi_loopw [8] (fun i wr => ∃ k : Nat, k ≤ n ∧ i = .int .i64 k ∧ Keeps D W wr ∧ J (Frm.hitK P L k) wr) (fun i _ => n - (intOf i).toNat)
  case atStart => exact ⟨0, Nat.zero_le _, rfl, Keeps.refl _ _, h0⟩
  case round =>
    obtain ⟨k, hk, rfl, hkp, hJk⟩ := hrel
    by_cases hkn : k < n
    · obtain ⟨b, off, x, y, rfl, hB, q0, q1, hxy⟩ := LabD.at (hL.later hkp) hkn
      have hxf : Hid (Frm.fat L k = (x, y)) := hxy.out
      have hix : Hid (Frm.ix L k = k) := Frm.ix_lt (by rw [hln.out]; exact hkn)
      have d1 := (cellK (off := 0) hkp hDi).trans hBi
      have hkn' : (k : Int) < n := by omega
      have hDr : ∀ b, D b → b < wr.heap.size := fun b hb => Nat.lt_of_lt_of_le (hD b hb) hkp.1
      have d2 := cellLater d1 (.cells #[.int .u64 x, .int .i64 y] 51)
      have hka : Keeps D wr (wr.alloc (.cells #[.int .u64 x, .int .i64 y] 51)) := Keeps.of_below hDr ((Below.refl _ wr).alloc (Nat.le_refl _) _)
      have hT := Two.new wr 51 (.int .u64 x) (.int .i64 y)
      have e0 := hT.cell0
      have e1 := hT.cell1
      gi_wp2
      refine ⟨trivial, ?_⟩
      refine (callsIn_wide.2 (hcall _ (hkp.trans hka) x y)).mono ?_
      rintro e w1 ⟨rfl, hb1⟩
      have hT2 := hT.next hb1
      have f0 := hT2.cell0
      have f1 := hT2.cell1
      have hk1 : Keeps D wr w1 := hka.trans (Keeps.of_below (fun b hb => Nat.lt_of_lt_of_le (hDr b hb) hka.1) hb1)
      have hJ1 : J (Frm.hitK P L k) w1 := hJ _ _ _ none (hJ _ wr _ none hJk (World.grownBy_alloc wr (.cells #[.int .u64 x, .int .i64 y] 51) none) (fun r e => by cases e)) (below_grown hb1) (fun r e => by cases e)
      clear hJk hcall
      cases hp : P (x, y) with
      | false =>
        have hm : Hid (Frm.hitK P L (k + 1) = Frm.hitK P L k) := Frm.hitK_miss (by rw [hxf.out]; exact hp)
        gi_wp2
        refine ⟨fun f e => (by cases e), ?_⟩
        gi_wp2
        go_roundw
        case rel => exact ⟨k + 1, by omega, by go_num, hkp.trans hk1, by rw [hm.out]; exact hJ1⟩
        case measure => simp [intOf]; omega
      | true =>
        have hm : Hid (Frm.hitK P L (k + 1) = Frm.hitK P L k ++ [k]) := Frm.hitK_hit (by rw [hxf.out]; exact hp)
        have hpre : Hid (Frm.hitK P L (k + 1) <+: Frm.hits P L) := Frm.hitK_pre (by rw [hln.out]; omega)
        gi_wp2
        obtain ⟨fn, tmps, assign, body, hyy, hR⟩ := hY (Frm.hitK P L k) k w1 hJ1 (by have := hpre.out.length_le; rw [hm.out] at this; simp at this; omega)
        dsimp only [encF] at hyy
        rw [hix.out, hxf.out] at hyy
        rw [hyy]
        gi_wp2
        refine hR.mono ?_
        rintro e W3 (⟨rfl, hJ3, hk3⟩ | ⟨rfl, hJx3⟩)
        · gi_wp2
          go_roundw
          case rel => exact ⟨k + 1, by omega, by go_num, (hkp.trans hk1).trans hk3, by rw [hm.out]; exact hJ3⟩
          case measure => simp [intOf]; omega
        · gi_wp2
          refine bodyPost_ret (results_none rfl _ _ _) rfl ?_
          exact ⟨⟨_, rfl⟩, .inr ⟨_, by have h1 := hpre.out; rw [hm.out] at h1; exact h1, hJx3⟩⟩
    · obtain rfl : k = n := by omega
      gi_wp2
      go_end0
      exact ⟨⟨_, rfl⟩, .inl ⟨_, rfl, by unfold Frm.hits; rw [hln.out]; exact hJk⟩⟩
theorem those_stops (N : Nat) (hn : 1 ≤ N) (Bl Bi : Nat) (D : Nat → Prop) {ao : Option Addr} {n cap : Nat} {L : List Frm.Fr} {q : Value} {P : Frm.Fr → Bool} (w : World) (hD : ∀ b, D b → b < w.heap.size) (hDl : D Bl) (hDi : D Bi) (hBl : w.cell? ⟨Bl, 0, none⟩ = some (.slice ao n cap)) (hBi : w.cell? ⟨Bi, 0, none⟩ = some q)
    (hL : LabD D w ao n cap L) (hq : AsksD D w q P) :
    SeqStopsK Fence.wide N Try.prog 39 #[.pointer (some ⟨Bl, 0, none⟩), .pointer (some ⟨Bi, 0, none⟩)] (encF L) (Keeps D) (fun ys => ys = Frm.hits P L) (fun pre => pre <+: Frm.hits P L) (Frm.hits P L).length w := fun l J Jx W hW hJ _ hY h0 =>
  have hk : Keeps D w W := ⟨hW.size, fun b hb => hW.block b (hD b hb)⟩
  those1_in N hn l Bl Bi D J Jx hY W hJ (fun b hb => Nat.lt_of_lt_of_le (hD b hb) hW.size) hDi ((cellK hk hDl).trans hBl) ((cellK hk hDi).trans hBi) (hL.later hk) (hq.later hk) h0
end Go.Proofs.Ytjdjiooblfgmlaa
