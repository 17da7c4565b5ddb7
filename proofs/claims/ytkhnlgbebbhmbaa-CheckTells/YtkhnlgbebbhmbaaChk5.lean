/-
  PROVED HERE: what Observe, Modify, Place, Create, Spawn, Become, Clear and Enter of package check return when they are called (contracts over this translation). Labels have fewer than 2^20 pairs.
-/
import Derived.Test.YtkhnlgbebbhmbaaChk4
namespace Go.Proofs.Ytkhnlgbebbhmbaa
open Go.ChangeShapes Go.WideShapes Go.ChangeAt Go.RowKit
set_option linter.unusedVariables false

set_option maxRecDepth 100000 in
set_option maxHeartbeats 2000000 in
theorem observe_any {w : World} {aT aO : Option Addr} {nT cT nO cO : Nat} {T O : List (Int × Int)} (hT : Lab w.heap.size w aT nT cT T) (hO : Lab w.heap.size w aO nO cO O) (kT : nT < 1048576) (kO : nO < 1048576) :
    Calls Try.prog 11 #[.slice aT nT cT, .slice aO nO cO] w fun e w' => e = .returned (.bool (leqB O (raiseL T))) ∧ Below w.heap.size w w' := by
  have hB := Below.refl w.heap.size w
  go_enter Try.func11, Try.ntmps11
  go_wp2_with (first | (go_at_call 41; refine (sees_any hT hO (by omega)).mono ?_; rintro e w1 ⟨q1, rfl, hq, kb⟩; replace hT := hT.next kb; replace hO := hO.next kb; replace hB := hB.trans (kb.mono hB.size); have hq1 := hq; clear hq kb; obtain ⟨g1, l1, rfl, _, _⟩ := id hq1) | (go_at_call 40; refine (holds1_any _ hq1).mono ?_; rintro e w1 ⟨rfl, kb⟩; replace hB := hB.trans (kb.mono hB.size)))
  go_ret
  exact ⟨rfl, hB⟩
set_option maxRecDepth 100000 in
set_option maxHeartbeats 2000000 in
theorem modify_any {w : World} {aT aO : Option Addr} {nT cT nO cO : Nat} {T O : List (Int × Int)} (hT : Lab w.heap.size w aT nT cT T) (hO : Lab w.heap.size w aO nO cO O) (kT : nT < 1048576) (kO : nO < 1048576) :
    Calls Try.prog 13 #[.slice aT nT cT, .slice aO nO cO] w fun e w' => e = .returned (.bool (leqB O (raiseL T) && leqB T O)) ∧ Below w.heap.size w w' := by
  have hB := Below.refl w.heap.size w
  go_enter Try.func13, Try.ntmps13
  go_wp2_with (first | (go_at_call 41; refine (sees_any hT hO (by omega)).mono ?_; rintro e w1 ⟨q1, rfl, hq, kb⟩; replace hT := hT.next kb; replace hO := hO.next kb; replace hB := hB.trans (kb.mono hB.size); have hq1 := hq; clear hq kb; obtain ⟨g1, l1, rfl, _, _⟩ := id hq1) | (go_at_call 42; refine (rising2_any _ hT hO).mono ?_; rintro e w1 ⟨q2, rfl, hq, kb⟩; replace hT := hT.next kb; replace hO := hO.next kb; replace hq1 := hq1.next kb; replace hB := hB.trans (kb.mono hB.size); have hq2 := hq; clear hq kb; obtain ⟨g2, l2, rfl, _, _⟩ := id hq2) | (go_at_call 40; refine (holds2_any _ hq1 hq2).mono ?_; rintro e w1 ⟨rfl, kb⟩; replace hB := hB.trans (kb.mono hB.size)))
  go_ret
  exact ⟨rfl, hB⟩
set_option maxRecDepth 100000 in
set_option maxHeartbeats 2000000 in
theorem place_any {w : World} {aD aO : Option Addr} {nD cD nO cO : Nat} {D O : List (Int × Int)} (hD : Lab w.heap.size w aD nD cD D) (hO : Lab w.heap.size w aO nO cO O) (kD : nD < 1048576) (kO : nO < 1048576) :
    Calls Try.prog 15 #[.slice aD nD cD, .slice aO nO cO] w fun e w' => e = .returned (.bool (leqB D (joinL (raiseL O) []))) ∧ Below w.heap.size w w' := by
  have hB := Below.refl w.heap.size w
  go_enter Try.func15, Try.ntmps15
  go_wp2_with (first | (go_at_call 44; refine (lraise_b hO (by omega)).mono ?_; rintro e w1 ⟨aR, nR, cR, rfl, hl, knR, kb⟩; replace hD := hD.next kb; replace hO := hO.next kb; replace hB := hB.trans (kb.mono hB.size); have hR := hl; clear hl kb) | (go_at_call 43; refine (ljoin_b hR (Lab.nil _ _) (by omega) (by omega)).mono ?_; rintro e w1 ⟨aJ, nJ, cJ, rfl, hl, knJ, kb⟩; replace hD := hD.next kb; replace hO := hO.next kb; replace hR := hR.next kb; replace hB := hB.trans (kb.mono hB.size); have hJ := hl; clear hl kb) | (go_at_call 42; refine (rising2_any _ hD hJ).mono ?_; rintro e w1 ⟨q1, rfl, hq, kb⟩; replace hD := hD.next kb; replace hO := hO.next kb; replace hR := hR.next kb; replace hJ := hJ.next kb; replace hB := hB.trans (kb.mono hB.size); have hq1 := hq; clear hq kb; obtain ⟨g1, l1, rfl, _, _⟩ := id hq1) | (go_at_call 40; refine (holds1_any _ hq1).mono ?_; rintro e w1 ⟨rfl, kb⟩; replace hB := hB.trans (kb.mono hB.size)))
  go_ret
  exact ⟨rfl, hB⟩
set_option maxRecDepth 100000 in
set_option maxHeartbeats 2000000 in
theorem create_any {w : World} {aT aK aO : Option Addr} {nT cT nK cK nO cO : Nat} {T K O : List (Int × Int)} (hT : Lab w.heap.size w aT nT cT T) (hK : Lab w.heap.size w aK nK cK K) (hO : Lab w.heap.size w aO nO cO O) (kT : nT < 1048576) (kK : nK < 1048576) (kO : nO < 1048576) :
    Calls Try.prog 17 #[.slice aT nT cT, .slice aK nK cK, .slice aO nO cO] w fun e w' => e = .returned (.bool (ownsNo O && (!abvB O && (leqB T O && leqB O K)))) ∧ Below w.heap.size w w' := by
  have hB := Below.refl w.heap.size w
  go_enter Try.func17, Try.ntmps17
  go_wp2_with (first | (go_at_call 45; refine (noneOwned_any hO (by omega)).mono ?_; rintro e w1 ⟨q1, rfl, hq, kb⟩; replace hT := hT.next kb; replace hK := hK.next kb; replace hO := hO.next kb; replace hB := hB.trans (kb.mono hB.size); have hq1 := hq; clear hq kb; obtain ⟨g1, l1, rfl, _, _⟩ := id hq1) | (go_at_call 46; refine (noneAbove1_any _ hO).mono ?_; rintro e w1 ⟨q2, rfl, hq, kb⟩; replace hT := hT.next kb; replace hK := hK.next kb; replace hO := hO.next kb; replace hq1 := hq1.next kb; replace hB := hB.trans (kb.mono hB.size); have hq2 := hq; clear hq kb; obtain ⟨g2, l2, rfl, _, _⟩ := id hq2) | (go_at_call 42; refine (rising3_any _ hT hO hK).mono ?_; rintro e w1 ⟨q3, rfl, hq, kb⟩; replace hT := hT.next kb; replace hK := hK.next kb; replace hO := hO.next kb; replace hq1 := hq1.next kb; replace hq2 := hq2.next kb; replace hB := hB.trans (kb.mono hB.size); have hq3 := hq; clear hq kb; obtain ⟨g3, l3, rfl, _, _⟩ := id hq3) | (go_at_call 40; refine (holds3_any _ hq1 hq2 hq3).mono ?_; rintro e w1 ⟨rfl, kb⟩; replace hB := hB.trans (kb.mono hB.size)))
  go_ret
  exact ⟨rfl, hB⟩
set_option maxRecDepth 100000 in
set_option maxHeartbeats 2000000 in
theorem spawn_any {w : World} {aT aK aN aM : Option Addr} {nT cT nK cK nN cN nM cM : Nat} {T K N M : List (Int × Int)} (hT : Lab w.heap.size w aT nT cT T) (hK : Lab w.heap.size w aK nK cK K) (hN : Lab w.heap.size w aN nN cN N) (hM : Lab w.heap.size w aM nM cM M) (kT : nT < 1048576) (kK : nK < 1048576) (kN : nN < 1048576) (kM : nM < 1048576) :
    Calls Try.prog 19 #[.slice aT nT cT, .slice aK nK cK, .slice aN nN cN, .slice aM nM cM] w fun e w' => e = .returned (.bool ((!abvB N && !abvB M) && (leqB T N && (leqB N M && leqB M K)))) ∧ Below w.heap.size w w' := by
  have hB := Below.refl w.heap.size w
  go_enter Try.func19, Try.ntmps19
  go_wp2_with (first | (go_at_call 46; refine (noneAbove2_any _ hN hM).mono ?_; rintro e w1 ⟨q1, rfl, hq, kb⟩; replace hT := hT.next kb; replace hK := hK.next kb; replace hN := hN.next kb; replace hM := hM.next kb; replace hB := hB.trans (kb.mono hB.size); have hq1 := hq; clear hq kb; obtain ⟨g1, l1, rfl, _, _⟩ := id hq1) | (go_at_call 42; refine (rising4_any _ hT hN hM hK).mono ?_; rintro e w1 ⟨q2, rfl, hq, kb⟩; replace hT := hT.next kb; replace hK := hK.next kb; replace hN := hN.next kb; replace hM := hM.next kb; replace hq1 := hq1.next kb; replace hB := hB.trans (kb.mono hB.size); have hq2 := hq; clear hq kb; obtain ⟨g2, l2, rfl, _, _⟩ := id hq2) | (go_at_call 40; refine (holds2_any _ hq1 hq2).mono ?_; rintro e w1 ⟨rfl, kb⟩; replace hB := hB.trans (kb.mono hB.size)))
  go_ret
  exact ⟨rfl, hB⟩
set_option maxRecDepth 100000 in
set_option maxHeartbeats 2000000 in
theorem become_any {w : World} {aT aK aN : Option Addr} {nT cT nK cK nN cN : Nat} {T K N : List (Int × Int)} (hT : Lab w.heap.size w aT nT cT T) (hK : Lab w.heap.size w aK nK cK K) (hN : Lab w.heap.size w aN nN cN N) (kT : nT < 1048576) (kK : nK < 1048576) (kN : nN < 1048576) :
    Calls Try.prog 21 #[.slice aT nT cT, .slice aK nK cK, .slice aN nN cN] w fun e w' => e = .returned (.bool (!abvB N && (leqB T N && leqB N K))) ∧ Below w.heap.size w w' := by
  have hB := Below.refl w.heap.size w
  go_enter Try.func21, Try.ntmps21
  go_wp2_with (first | (go_at_call 46; refine (noneAbove1_any _ hN).mono ?_; rintro e w1 ⟨q1, rfl, hq, kb⟩; replace hT := hT.next kb; replace hK := hK.next kb; replace hN := hN.next kb; replace hB := hB.trans (kb.mono hB.size); have hq1 := hq; clear hq kb; obtain ⟨g1, l1, rfl, _, _⟩ := id hq1) | (go_at_call 42; refine (rising3_any _ hT hN hK).mono ?_; rintro e w1 ⟨q2, rfl, hq, kb⟩; replace hT := hT.next kb; replace hK := hK.next kb; replace hN := hN.next kb; replace hq1 := hq1.next kb; replace hB := hB.trans (kb.mono hB.size); have hq2 := hq; clear hq kb; obtain ⟨g2, l2, rfl, _, _⟩ := id hq2) | (go_at_call 40; refine (holds2_any _ hq1 hq2).mono ?_; rintro e w1 ⟨rfl, kb⟩; replace hB := hB.trans (kb.mono hB.size)))
  go_ret
  exact ⟨rfl, hB⟩
set_option maxRecDepth 100000 in
set_option maxHeartbeats 2000000 in
theorem clear_any {w : World} {aT aK aN : Option Addr} {nT cT nK cK nN cN : Nat} {T K N : List (Int × Int)} (hT : Lab w.heap.size w aT nT cT T) (hK : Lab w.heap.size w aK nK cK K) (hN : Lab w.heap.size w aN nN cN N) (kT : nT < 1048576) (kK : nK < 1048576) (kN : nN < 1048576) :
    Calls Try.prog 23 #[.slice aT nT cT, .slice aK nK cK, .slice aN nN cN] w fun e w' => e = .returned (.bool (!abvB N && (leqB T N && leqB N (joinL K (raiseL T))))) ∧ Below w.heap.size w w' := by
  have hB := Below.refl w.heap.size w
  go_enter Try.func23, Try.ntmps23
  go_wp2_with (first | (go_at_call 46; refine (noneAbove1_any _ hN).mono ?_; rintro e w1 ⟨q1, rfl, hq, kb⟩; replace hT := hT.next kb; replace hK := hK.next kb; replace hN := hN.next kb; replace hB := hB.trans (kb.mono hB.size); have hq1 := hq; clear hq kb; obtain ⟨g1, l1, rfl, _, _⟩ := id hq1) | (go_at_call 44; refine (lraise_b hT (by omega)).mono ?_; rintro e w1 ⟨aR, nR, cR, rfl, hl, knR, kb⟩; replace hT := hT.next kb; replace hK := hK.next kb; replace hN := hN.next kb; replace hq1 := hq1.next kb; replace hB := hB.trans (kb.mono hB.size); have hR := hl; clear hl kb) | (go_at_call 43; refine (ljoin_b hK hR (by omega) (by omega)).mono ?_; rintro e w1 ⟨aJ, nJ, cJ, rfl, hl, knJ, kb⟩; replace hT := hT.next kb; replace hK := hK.next kb; replace hN := hN.next kb; replace hq1 := hq1.next kb; replace hR := hR.next kb; replace hB := hB.trans (kb.mono hB.size); have hJ := hl; clear hl kb) | (go_at_call 42; refine (rising3_any _ hT hN hJ).mono ?_; rintro e w1 ⟨q2, rfl, hq, kb⟩; replace hT := hT.next kb; replace hK := hK.next kb; replace hN := hN.next kb; replace hq1 := hq1.next kb; replace hR := hR.next kb; replace hJ := hJ.next kb; replace hB := hB.trans (kb.mono hB.size); have hq2 := hq; clear hq kb; obtain ⟨g2, l2, rfl, _, _⟩ := id hq2) | (go_at_call 40; refine (holds2_any _ hq1 hq2).mono ?_; rintro e w1 ⟨rfl, kb⟩; replace hB := hB.trans (kb.mono hB.size)))
  go_ret
  exact ⟨rfl, hB⟩
set_option maxRecDepth 100000 in
set_option maxHeartbeats 2000000 in
theorem enter_any {w : World} {aT aK aG aQ aN aM : Option Addr} {nT cT nK cK nG cG nQ cQ nN cN nM cM : Nat} {T K G Q N M : List (Int × Int)} (hT : Lab w.heap.size w aT nT cT T) (hK : Lab w.heap.size w aK nK cK K) (hG : Lab w.heap.size w aG nG cG G) (hQ : Lab w.heap.size w aQ nQ cQ Q) (hN : Lab w.heap.size w aN nN cN N) (hM : Lab w.heap.size w aM nM cM M) (kT : nT < 1048576) (kK : nK < 1048576) (kG : nG < 1048576) (kQ : nQ < 1048576) (kN : nN < 1048576) (kM : nM < 1048576) :
    Calls Try.prog 25 #[.slice aT nT cT, .slice aK nK cK, .slice aG nG cG, .slice aQ nQ cQ, .slice aN nN cN, .slice aM nM cM] w fun e w' => e = .returned (.bool ((!abvB N && !abvB M) && (leqB T Q && (leqB (lowerL (joinL (raiseL T) (raiseL G))) N && (leqB N M && leqB M (joinL K Q)))))) ∧ Below w.heap.size w w' := by
  have hB := Below.refl w.heap.size w
  go_enter Try.func25, Try.ntmps25
  go_wp2_with (first | (go_at_call 46; refine (noneAbove2_any _ hN hM).mono ?_; rintro e w1 ⟨q1, rfl, hq, kb⟩; replace hT := hT.next kb; replace hK := hK.next kb; replace hG := hG.next kb; replace hQ := hQ.next kb; replace hN := hN.next kb; replace hM := hM.next kb; replace hB := hB.trans (kb.mono hB.size); have hq1 := hq; clear hq kb; obtain ⟨g1, l1, rfl, _, _⟩ := id hq1) | (go_at_call 42; refine (rising2_any _ hT hQ).mono ?_; rintro e w1 ⟨q2, rfl, hq, kb⟩; replace hT := hT.next kb; replace hK := hK.next kb; replace hG := hG.next kb; replace hQ := hQ.next kb; replace hN := hN.next kb; replace hM := hM.next kb; replace hq1 := hq1.next kb; replace hB := hB.trans (kb.mono hB.size); have hq2 := hq; clear hq kb; obtain ⟨g2, l2, rfl, _, _⟩ := id hq2) | (go_at_call 48; refine (together_any hT hG (by omega) (by omega)).mono ?_; rintro e w1 ⟨aU, nU, cU, rfl, hl, knU, kb⟩; replace hT := hT.next kb; replace hK := hK.next kb; replace hG := hG.next kb; replace hQ := hQ.next kb; replace hN := hN.next kb; replace hM := hM.next kb; replace hq1 := hq1.next kb; replace hq2 := hq2.next kb; replace hB := hB.trans (kb.mono hB.size); have hU := hl; clear hl kb) | (go_at_call 43; refine (ljoin_b hK hQ (by omega) (by omega)).mono ?_; rintro e w1 ⟨aJ, nJ, cJ, rfl, hl, knJ, kb⟩; replace hT := hT.next kb; replace hK := hK.next kb; replace hG := hG.next kb; replace hQ := hQ.next kb; replace hN := hN.next kb; replace hM := hM.next kb; replace hq1 := hq1.next kb; replace hq2 := hq2.next kb; replace hU := hU.next kb; replace hB := hB.trans (kb.mono hB.size); have hJ := hl; clear hl kb) | (go_at_call 42; refine (rising4_any _ hU hN hM hJ).mono ?_; rintro e w1 ⟨q3, rfl, hq, kb⟩; replace hT := hT.next kb; replace hK := hK.next kb; replace hG := hG.next kb; replace hQ := hQ.next kb; replace hN := hN.next kb; replace hM := hM.next kb; replace hq1 := hq1.next kb; replace hq2 := hq2.next kb; replace hU := hU.next kb; replace hJ := hJ.next kb; replace hB := hB.trans (kb.mono hB.size); have hq3 := hq; clear hq kb; obtain ⟨g3, l3, rfl, _, _⟩ := id hq3) | (go_at_call 40; refine (holds3_any _ hq1 hq2 hq3).mono ?_; rintro e w1 ⟨rfl, kb⟩; replace hB := hB.trans (kb.mono hB.size)))
  go_ret
  exact ⟨rfl, hB⟩
end Go.Proofs.Ytkhnlgbebbhmbaa
