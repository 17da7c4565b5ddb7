/-
  PROVED HERE: what Observe, Modify, Place, Create, Spawn, Become, Clear and Enter of package check return when they are called (contracts over this translation). Labels have fewer than 2^20 pairs.
-/
import Derived.Test.YtkhnlgbebbhmbabChk4
namespace Go.Proofs.Ytkhnlgbebbhmbab
open Go.ChangeShapes Go.WideShapes Go.ChangeAt Go.RowKit
set_option linter.unusedVariables false

set_option maxRecDepth 100000 in
set_option maxHeartbeats 2000000 in
theorem observe_any {w : World} {aT aO : Option Addr} {nT cT nO cO : Nat} {T O : List (Int × Int)} (hT : Lab w.heap.size w aT nT cT T) (hO : Lab w.heap.size w aO nO cO O) (kT : nT < 1048576) (kO : nO < 1048576) :
    Calls Try.prog 12 #[.slice aT nT cT, .slice aO nO cO] w fun e w' => e = .returned (.bool (leqB O (raiseL T))) ∧ Below w.heap.size w w' := by
  have hB := Below.refl w.heap.size w
  go_enter Try.func12, Try.ntmps12
  go_wp2_with (first | (go_at_call 22; refine (sees_any hT hO (by omega)).mono ?_; rintro e w1 ⟨q1, rfl, hq, kb⟩; replace hT := hT.next kb; replace hO := hO.next kb; replace hB := hB.trans (kb.mono hB.size); have hq1 := hq; clear hq kb; obtain ⟨g1, l1, rfl, _, _⟩ := id hq1) | (go_at_call 14; refine (holds1_any _ hq1).mono ?_; rintro e w1 ⟨rfl, kb⟩; replace hB := hB.trans (kb.mono hB.size)))
  go_ret
  exact ⟨rfl, hB⟩
set_option maxRecDepth 100000 in
set_option maxHeartbeats 2000000 in
theorem modify_any {w : World} {aT aO : Option Addr} {nT cT nO cO : Nat} {T O : List (Int × Int)} (hT : Lab w.heap.size w aT nT cT T) (hO : Lab w.heap.size w aO nO cO O) (kT : nT < 1048576) (kO : nO < 1048576) :
    Calls Try.prog 13 #[.slice aT nT cT, .slice aO nO cO] w fun e w' => e = .returned (.bool (leqB O (raiseL T) && leqB T O)) ∧ Below w.heap.size w w' := by
  have hB := Below.refl w.heap.size w
  go_enter Try.func13, Try.ntmps13
  go_wp2_with (first | (go_at_call 22; refine (sees_any hT hO (by omega)).mono ?_; rintro e w1 ⟨q1, rfl, hq, kb⟩; replace hT := hT.next kb; replace hO := hO.next kb; replace hB := hB.trans (kb.mono hB.size); have hq1 := hq; clear hq kb; obtain ⟨g1, l1, rfl, _, _⟩ := id hq1) | (go_at_call 16; refine (rising2_any _ hT hO).mono ?_; rintro e w1 ⟨q2, rfl, hq, kb⟩; replace hT := hT.next kb; replace hO := hO.next kb; replace hq1 := hq1.next kb; replace hB := hB.trans (kb.mono hB.size); have hq2 := hq; clear hq kb; obtain ⟨g2, l2, rfl, _, _⟩ := id hq2) | (go_at_call 14; refine (holds2_any _ hq1 hq2).mono ?_; rintro e w1 ⟨rfl, kb⟩; replace hB := hB.trans (kb.mono hB.size)))
  go_ret
  exact ⟨rfl, hB⟩
set_option maxRecDepth 100000 in
set_option maxHeartbeats 2000000 in
theorem spawn_any {w : World} {aT aK aN aM : Option Addr} {nT cT nK cK nN cN nM cM : Nat} {T K N M : List (Int × Int)} (hT : Lab w.heap.size w aT nT cT T) (hK : Lab w.heap.size w aK nK cK K) (hN : Lab w.heap.size w aN nN cN N) (hM : Lab w.heap.size w aM nM cM M) (kT : nT < 1048576) (kK : nK < 1048576) (kN : nN < 1048576) (kM : nM < 1048576) :
    Calls Try.prog 7 #[.slice aT nT cT, .slice aK nK cK, .slice aN nN cN, .slice aM nM cM] w fun e w' => e = .returned (.bool ((!abvB N && !abvB M) && (leqB T N && (leqB N M && leqB M K)))) ∧ Below w.heap.size w w' := by
  have hB := Below.refl w.heap.size w
  go_enter Try.func7, Try.ntmps7
  go_wp2_with (first | (go_at_call 15; refine (noneAbove2_any _ hN hM).mono ?_; rintro e w1 ⟨q1, rfl, hq, kb⟩; replace hT := hT.next kb; replace hK := hK.next kb; replace hN := hN.next kb; replace hM := hM.next kb; replace hB := hB.trans (kb.mono hB.size); have hq1 := hq; clear hq kb; obtain ⟨g1, l1, rfl, _, _⟩ := id hq1) | (go_at_call 16; refine (rising4_any _ hT hN hM hK).mono ?_; rintro e w1 ⟨q2, rfl, hq, kb⟩; replace hT := hT.next kb; replace hK := hK.next kb; replace hN := hN.next kb; replace hM := hM.next kb; replace hq1 := hq1.next kb; replace hB := hB.trans (kb.mono hB.size); have hq2 := hq; clear hq kb; obtain ⟨g2, l2, rfl, _, _⟩ := id hq2) | (go_at_call 14; refine (holds2_any _ hq1 hq2).mono ?_; rintro e w1 ⟨rfl, kb⟩; replace hB := hB.trans (kb.mono hB.size)))
  go_ret
  exact ⟨rfl, hB⟩
set_option maxRecDepth 100000 in
set_option maxHeartbeats 2000000 in
theorem become_any {w : World} {aT aK aN : Option Addr} {nT cT nK cK nN cN : Nat} {T K N : List (Int × Int)} (hT : Lab w.heap.size w aT nT cT T) (hK : Lab w.heap.size w aK nK cK K) (hN : Lab w.heap.size w aN nN cN N) (kT : nT < 1048576) (kK : nK < 1048576) (kN : nN < 1048576) :
    Calls Try.prog 6 #[.slice aT nT cT, .slice aK nK cK, .slice aN nN cN] w fun e w' => e = .returned (.bool (!abvB N && (leqB T N && leqB N K))) ∧ Below w.heap.size w w' := by
  have hB := Below.refl w.heap.size w
  go_enter Try.func6, Try.ntmps6
  go_wp2_with (first | (go_at_call 15; refine (noneAbove1_any _ hN).mono ?_; rintro e w1 ⟨q1, rfl, hq, kb⟩; replace hT := hT.next kb; replace hK := hK.next kb; replace hN := hN.next kb; replace hB := hB.trans (kb.mono hB.size); have hq1 := hq; clear hq kb; obtain ⟨g1, l1, rfl, _, _⟩ := id hq1) | (go_at_call 16; refine (rising3_any _ hT hN hK).mono ?_; rintro e w1 ⟨q2, rfl, hq, kb⟩; replace hT := hT.next kb; replace hK := hK.next kb; replace hN := hN.next kb; replace hq1 := hq1.next kb; replace hB := hB.trans (kb.mono hB.size); have hq2 := hq; clear hq kb; obtain ⟨g2, l2, rfl, _, _⟩ := id hq2) | (go_at_call 14; refine (holds2_any _ hq1 hq2).mono ?_; rintro e w1 ⟨rfl, kb⟩; replace hB := hB.trans (kb.mono hB.size)))
  go_ret
  exact ⟨rfl, hB⟩
end Go.Proofs.Ytkhnlgbebbhmbab
