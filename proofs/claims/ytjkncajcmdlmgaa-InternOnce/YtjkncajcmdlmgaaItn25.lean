/-
  PROVED HERE: what same of layer 5's laws returns when it is called: true of a table in which all labels that are asked for are at their places (a contract over this translation).
-/
import Derived.Test.YtjkncajcmdlmgaaItn24
import Derived.Test.YtjkncajcmdlmgaaItn15
import Derived.Deep.RegionHeld3
import Derived.Deep.RegionWith
namespace Go.Proofs.Ytjkncajcmdlmgaa
open Go.ChangeShapes Go.WideShapes Go.ChangeAt Go.RowKit
set_option linter.unusedVariables false

theorem RowD.at {D : Nat → Prop} {w : World} {ao : Option Addr} {n cap : Nat} {R : List (List (Int × Int))} (h : RowD D w ao n cap R) {i : Nat} (hi : i < n) :
    ∃ b off a k c, ao = some ⟨b, off, none⟩ ∧ D b ∧ w.cell? ⟨b, off + i, none⟩ = some (.slice a k c) ∧ LabD D w a k c (R.getD i []) := by
  obtain ⟨b, off, e, hb, hc⟩ := h.2.2.2 (by omega)
  obtain ⟨a, k, c, q1, q2⟩ := hc i hi
  exact ⟨b, off, a, k, c, e, hb, q1, q2⟩
theorem LabD.toLab {w : World} {a : Option Addr} {k c : Nat} {L : List (Int × Int)} (h : LabD (fun b => b < w.heap.size) w a k c L) : Lab w.heap.size w a k c L := LabD.lab h (fun b hb => hb)

set_option maxRecDepth 100000 in
set_option maxHeartbeats 2000000 in
theorem lsame_any {w : World} {a a' ao : Option Addr} {n c c' m cap ga gg : Nat} {Z : Zt} {R : List (List (Int × Int))} {A : Nat → Nat} {G : Nat → Bool} {k : Nat}
    (hT : Tab w a n c a' c' Z) (hI : Inv (fun i => R.getD i []) A G (k + 1) Z) (hk : k < m) (hm : m ≤ 60) (hA : w.rowIs ga 3 m (fun i => .int .i64 (A i))) (hG : w.rowIs gg 4 m (fun i => .bool (G i))) (hR : RowD (fun b => b < w.heap.size) w ao m cap R) :
    Calls Try.prog 8 #[.agg #[.slice a n c, .slice a' n c'], .slice (some ⟨ga, 0, none⟩) m m, .slice (some ⟨gg, 0, none⟩) m m, .slice ao m cap, .int .i64 k] w fun e w' => e = .returned (.bool true) ∧ Below w.heap.size w w' := by
  have hs := fit_few hI.fit
  have hcap := hR.2.2.1.1
  have hmc := hR.2.1
  have t0 := Two.new w 27 (.slice a n c) (.slice a' n c')
  have hb0 : Below w.heap.size w (w.alloc (.cells #[.slice a n c, .slice a' n c'] 27)) := (Below.refl _ w).alloc (Nat.le_refl _) _
  go_enter Try.func8, Try.ntmps8
  go_wp2
  go_loopw [11] (fun i wr => ∃ j : Nat, j ≤ k + 1 ∧ i = .int .i64 j ∧ Two wr w.heap.size 27 (.slice a n c) (.slice a' n c') ∧ Below w.heap.size w wr) (fun i _ => k + 1 - (intOf i).toNat)
  case atStart => exact ⟨0, by omega, rfl, t0, hb0⟩
  case round =>
    obtain ⟨j, hj, rfl, hTw, hB⟩ := hrel
    by_cases hjk : j ≤ k
    · have hjk' : (j : Int) ≤ (k : Int) := by omega
      have hjm : j < m := by omega
      have hjm' : (j : Int) < (m : Int) := by omega
      have g0 := (hG.of_block (hB.block gg hG.lt)).cell hjm
      have a0 := (hA.of_block (hB.block ga hA.lt)).cell hjm
      have d0 := hTw.cell0
      have d1 := hTw.cell1
      cases hgj : G j with
      | true =>
        rw [hgj] at g0
        go_wp2
        go_roundw
        case rel => exact ⟨j + 1, by omega, by go_num, hTw, hB⟩
        case measure => simp [intOf]; omega
      | false =>
        rw [hgj] at g0
        have hgets := hI.gets (i := j) (by omega) hgj
        have hfound := hI.found (i := j) (by omega) hgj
        obtain ⟨b, off, al, kl, cl, rfl, hbb, q1, q2⟩ := hR.at hjm
        have qL := q2.toLab
        have hGet : ∀ W, Below w.heap.size w W → Calls Try.prog 14 #[.agg #[.slice a n c, .slice a' n c'], .int .i64 (A j)] W fun e w' => ∃ ao k cap, e = .returned (.tuple #[.slice ao k cap, .int .i64 0]) ∧ Lab w'.heap.size w' ao k cap (R.getD j []) ∧ Below W.heap.size W w' := by
          intro W hW
          have := tget_any (A j) (hT.next hW) hs
          rw [hgets] at this
          exact this
        have hFind : ∀ W, Below w.heap.size w W → Calls Try.prog 15 #[.agg #[.slice a n c, .slice a' n c'], .slice al kl cl] W fun e w' => e = .returned (.tuple #[.int .i64 (A j), .bool true]) ∧ Below W.heap.size W w' := by
          intro W hW
          have := find_any (hT.next hW) (qL.next hW)
          unfold fN fF at this
          rw [hfound] at this
          exact this
        have e1 := (hB.cell (p := ⟨b, off + j, none⟩) hbb).trans q1
        have hs1 := hTw.lt
        have hga := Nat.lt_of_lt_of_le hA.lt hB.size
        have hbw := Nat.lt_of_lt_of_le hbb hB.size
        clear hI hgets hfound hT hs
        go_wp2
        go_region_held3 (fun w' => w'.cell? ⟨w.heap.size, 0, none⟩ = some (.slice a n c) ∧ w'.cell? ⟨w.heap.size, 1, none⟩ = some (.slice a' n c') ∧ w'.cell? ⟨ga, j, none⟩ = some (.int .i64 (A j))) (go_keep) (first | (go_at_call 14; refine (hGet _ hB.drew).mono ?_; rintro e w1 ⟨ag, kg, cg, rfl, hLg, hb1'⟩; have hb1 : Below wr.heap.size wr w1 := (Below.refl _ wr).drew.trans hb1'; have f0 := (hb1.cell (p := ⟨w.heap.size, 0, none⟩) hs1).trans d0; have f1 := (hb1.cell (p := ⟨w.heap.size, 1, none⟩) hs1).trans d1; have f2 := (hb1.cell (p := ⟨ga, j, none⟩) hga).trans a0))
        have hB1 : Below w.heap.size w w1 := hB.trans (hb1.mono hB.size)
        have hTw1 : Two w1 w.heap.size 27 (.slice a n c) (.slice a' n c') := (hb1.block _ hs1).trans hTw
        have hs2 := hTw1.lt
        have f3 := (hb1.cell (p := ⟨b, off + j, none⟩) hbw).trans e1
        have hbw1 := Nat.lt_of_lt_of_le hbw hb1.size
        have hga1 := Nat.lt_of_lt_of_le hga hb1.size
        clear g0 a0 d0 d1 e1
        go_wp2
        go_region_held3 (fun w' => w'.cell? ⟨w.heap.size, 0, none⟩ = some (.slice a n c) ∧ w'.cell? ⟨w.heap.size, 1, none⟩ = some (.slice a' n c') ∧ w'.cell? ⟨b, off + j, none⟩ = some (.slice al kl cl)) (go_keep) (first | (go_at_call 15; refine (hFind _ hB1.drew).mono ?_; rintro e w2 ⟨rfl, hb2'⟩; have hb2 : Below w1.heap.size w1 w2 := (Below.refl _ w1).drew.trans hb2'; have i0 := (hb2.cell (p := ⟨w.heap.size, 0, none⟩) hs2).trans f0; have i1 := (hb2.cell (p := ⟨w.heap.size, 1, none⟩) hs2).trans f1; have i3 := (hb2.cell (p := ⟨b, off + j, none⟩) hbw1).trans f3))
        have i2 := (hb2.cell (p := ⟨ga, j, none⟩) hga1).trans f2
        have hB2 : Below w.heap.size w w2 := hB1.trans (hb2.mono hB1.size)
        have hTw2 : Two w2 w.heap.size 27 (.slice a n c) (.slice a' n c') := (hb2.block _ hs2).trans hTw1
        have hLg2 := hLg.next hb2
        have qL2 := qL.next hB2
        have hsame : sameB (R.getD j []) (R.getD j []) = true := by unfold sameB; simp
        clear f0 f1 f2 f3
        go_wp2_with (go_at_call 16; refine (rsame_any hLg2 (Nat.le_refl _) qL2 (Nat.le_refl _)).mono ?_; rintro e w3 ⟨rfl, hb3⟩; rw [hsame]; have j2 := (hb3.cell (p := ⟨ga, j, none⟩) (Nat.lt_of_lt_of_le hga1 hb2.size)).trans i2)
        go_roundw
        case rel => exact ⟨j + 1, by omega, by go_num, (hb3.block _ hTw2.lt).trans hTw2, hB2.trans (hb3.mono hB2.size)⟩
        case measure => simp [intOf]; omega
    · obtain rfl : j = k + 1 := by omega
      go_wp2
      go_ret
      exact ⟨rfl, hB⟩
end Go.Proofs.Ytjkncajcmdlmgaa
