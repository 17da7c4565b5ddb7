/-
  PROVED HERE: what the document's answers to check (all but Hides) return when they are called (contracts over this translation). The labels are fit, and have fewer than 2^20 pairs.
-/
import Derived.Test.YtkhnlgbebbhmbaaChk11
namespace Go.Proofs.Ytkhnlgbebbhmbaa
open Go.ChangeShapes Go.WideShapes Go.ChangeAt Go.RowKit
set_option linter.unusedVariables false

theorem own_beq {L : List (Int × Int)} {n : Nat} (h : (owned L).length = n) : ((n : Int) == 0) = ownsNo L := by
  unfold ownsNo
  rw [h, Bool.eq_iff_iff]
  simp

set_option maxRecDepth 100000 in
set_option maxHeartbeats 4000000 in
theorem robserve_any {w : World} {aT aO : Option Addr} {nT cT nO cO : Nat} {T O : List (Int × Int)} (hT : Lab w.heap.size w aT nT cT T) (hO : Lab w.heap.size w aO nO cO O) (kT : nT < 1048576) (kO : nO < 1048576) (fT : Fit T) (fO : Fit O) :
    Calls Try.prog 12 #[.slice aT nT cT, .slice aO nO cO] w fun e w' => e = .returned (.bool (leqB O (raiseL T))) ∧ Below w.heap.size w w' := by
  have hB := Below.refl w.heap.size w
  have H := ((((Labs.nil w).push (Lab.nil _ _)).push hT).push hO)
  clear hT hO
  have fnil := Fit.nil
  have fR : Fit (raiseL T) := raiseL_fit fT
  go_enter Try.func12, Try.ntmps12
  go_wp2_with (first | (go_at_call 31; refine (rraise_f (H.get (by repeat (first | exact List.Mem.head _ | apply List.Mem.tail))) (by omega) (by assumption)).mono ?_; rintro e w1 ⟨ao1, m1, cap1, rfl, hl, kn, kb⟩; replace H := (H.next kb).push hl; replace hB := hB.trans (kb.mono hB.size); clear kb hl) | (go_at_call 30; refine (rleq_f (H.get (by repeat (first | exact List.Mem.head _ | apply List.Mem.tail))) (H.get (by repeat (first | exact List.Mem.head _ | apply List.Mem.tail))) (by assumption) (by assumption)).mono ?_; rintro e w1 ⟨rfl, kb⟩; replace H := H.next kb; replace hB := hB.trans (kb.mono hB.size); clear kb))
  go_ret
  exact ⟨rfl, hB⟩
set_option maxRecDepth 100000 in
set_option maxHeartbeats 4000000 in
theorem rmodify_any {w : World} {aT aO : Option Addr} {nT cT nO cO : Nat} {T O : List (Int × Int)} (hT : Lab w.heap.size w aT nT cT T) (hO : Lab w.heap.size w aO nO cO O) (kT : nT < 1048576) (kO : nO < 1048576) (fT : Fit T) (fO : Fit O) :
    Calls Try.prog 14 #[.slice aT nT cT, .slice aO nO cO] w fun e w' => e = .returned (.bool (leqB O (raiseL T) && leqB T O)) ∧ Below w.heap.size w w' := by
  have hB := Below.refl w.heap.size w
  have H := ((((Labs.nil w).push (Lab.nil _ _)).push hT).push hO)
  clear hT hO
  have fnil := Fit.nil
  cases q0 : leqB O (raiseL T) with
  | false =>
    go_enter Try.func14, Try.ntmps14
    go_wp2_with (first | (go_at_call 12; refine (robserve_any (H.get (by repeat (first | exact List.Mem.head _ | apply List.Mem.tail))) (H.get (by repeat (first | exact List.Mem.head _ | apply List.Mem.tail))) (by omega) (by omega) (by assumption) (by assumption)).mono ?_; rintro e w1 ⟨rfl, kb⟩; replace H := H.next kb; replace hB := hB.trans (kb.mono hB.size); clear kb) | (go_at_call 30; refine (rleq_f (H.get (by repeat (first | exact List.Mem.head _ | apply List.Mem.tail))) (H.get (by repeat (first | exact List.Mem.head _ | apply List.Mem.tail))) (by assumption) (by assumption)).mono ?_; rintro e w1 ⟨rfl, kb⟩; replace H := H.next kb; replace hB := hB.trans (kb.mono hB.size); clear kb))
    go_ret
    exact ⟨rfl, hB⟩
  | true =>
    go_enter Try.func14, Try.ntmps14
    go_wp2_with (first | (go_at_call 12; refine (robserve_any (H.get (by repeat (first | exact List.Mem.head _ | apply List.Mem.tail))) (H.get (by repeat (first | exact List.Mem.head _ | apply List.Mem.tail))) (by omega) (by omega) (by assumption) (by assumption)).mono ?_; rintro e w1 ⟨rfl, kb⟩; replace H := H.next kb; replace hB := hB.trans (kb.mono hB.size); clear kb) | (go_at_call 30; refine (rleq_f (H.get (by repeat (first | exact List.Mem.head _ | apply List.Mem.tail))) (H.get (by repeat (first | exact List.Mem.head _ | apply List.Mem.tail))) (by assumption) (by assumption)).mono ?_; rintro e w1 ⟨rfl, kb⟩; replace H := H.next kb; replace hB := hB.trans (kb.mono hB.size); clear kb))
    go_ret
    exact ⟨rfl, hB⟩
set_option maxRecDepth 100000 in
set_option maxHeartbeats 4000000 in
theorem rplace_any {w : World} {aD aO : Option Addr} {nD cD nO cO : Nat} {D O : List (Int × Int)} (hD : Lab w.heap.size w aD nD cD D) (hO : Lab w.heap.size w aO nO cO O) (kD : nD < 1048576) (kO : nO < 1048576) (fD : Fit D) (fO : Fit O) :
    Calls Try.prog 16 #[.slice aD nD cD, .slice aO nO cO] w fun e w' => e = .returned (.bool (leqB D (joinL (raiseL O) []))) ∧ Below w.heap.size w w' := by
  have hB := Below.refl w.heap.size w
  have H := ((((Labs.nil w).push (Lab.nil _ _)).push hD).push hO)
  clear hD hO
  have fnil := Fit.nil
  have fR : Fit (raiseL O) := raiseL_fit fO
  have fJ : Fit (joinL (raiseL O) []) := joinL_fit fR Fit.nil
  go_enter Try.func16, Try.ntmps16
  go_wp2_with (first | (go_at_call 31; refine (rraise_f (H.get (by repeat (first | exact List.Mem.head _ | apply List.Mem.tail))) (by omega) (by assumption)).mono ?_; rintro e w1 ⟨ao1, m1, cap1, rfl, hl, kn, kb⟩; replace H := (H.next kb).push hl; replace hB := hB.trans (kb.mono hB.size); clear kb hl) | (go_at_call 37; refine (rjoin_f (H.get (by repeat (first | exact List.Mem.head _ | apply List.Mem.tail))) (H.get (by repeat (first | exact List.Mem.head _ | apply List.Mem.tail))) (by omega) (by omega) (by assumption) (by assumption)).mono ?_; rintro e w1 ⟨ao1, m1, cap1, rfl, hl, kn, kb⟩; replace H := (H.next kb).push hl; replace hB := hB.trans (kb.mono hB.size); clear kb hl) | (go_at_call 30; refine (rleq_f (H.get (by repeat (first | exact List.Mem.head _ | apply List.Mem.tail))) (H.get (by repeat (first | exact List.Mem.head _ | apply List.Mem.tail))) (by assumption) (by assumption)).mono ?_; rintro e w1 ⟨rfl, kb⟩; replace H := H.next kb; replace hB := hB.trans (kb.mono hB.size); clear kb))
  go_ret
  exact ⟨rfl, hB⟩
set_option maxRecDepth 100000 in
set_option maxHeartbeats 4000000 in
theorem rcreate_any {w : World} {aT aK aO : Option Addr} {nT cT nK cK nO cO : Nat} {T K O : List (Int × Int)} (hT : Lab w.heap.size w aT nT cT T) (hK : Lab w.heap.size w aK nK cK K) (hO : Lab w.heap.size w aO nO cO O) (kT : nT < 1048576) (kK : nK < 1048576) (kO : nO < 1048576) (fT : Fit T) (fK : Fit K) (fO : Fit O) :
    Calls Try.prog 18 #[.slice aT nT cT, .slice aK nK cK, .slice aO nO cO] w fun e w' => e = .returned (.bool (ownsNo O && (!abvB O && (leqB T O && leqB O K)))) ∧ Below w.heap.size w w' := by
  have hB := Below.refl w.heap.size w
  have H := (((((Labs.nil w).push (Lab.nil _ _)).push hT).push hK).push hO)
  clear hT hK hO
  have fnil := Fit.nil
  cases q0 : ownsNo O with
  | false =>
    go_enter Try.func18, Try.ntmps18
    go_wp2_with (first | (go_at_call 34; refine (rowned_any (H.get (by repeat (first | exact List.Mem.head _ | apply List.Mem.tail))) (by omega)).mono ?_; rintro e w1 ⟨ao1, m1, cap1, rfl, hc, kb⟩; have hz := own_beq hc.1; rw [q0] at hz; replace H := H.next kb; replace hB := hB.trans (kb.mono hB.size); clear kb) | (go_at_call 47; refine (plain_any (H.get (by repeat (first | exact List.Mem.head _ | apply List.Mem.tail)))).mono ?_; rintro e w1 ⟨rfl, rfl⟩) | (go_at_call 30; refine (rleq_f (H.get (by repeat (first | exact List.Mem.head _ | apply List.Mem.tail))) (H.get (by repeat (first | exact List.Mem.head _ | apply List.Mem.tail))) (by assumption) (by assumption)).mono ?_; rintro e w1 ⟨rfl, kb⟩; replace H := H.next kb; replace hB := hB.trans (kb.mono hB.size); clear kb))
    go_ret
    exact ⟨rfl, hB⟩
  | true =>
    cases q1 : abvB O with
    | false =>
      cases q2 : leqB T O with
      | false =>
        go_enter Try.func18, Try.ntmps18
        go_wp2_with (first | (go_at_call 34; refine (rowned_any (H.get (by repeat (first | exact List.Mem.head _ | apply List.Mem.tail))) (by omega)).mono ?_; rintro e w1 ⟨ao1, m1, cap1, rfl, hc, kb⟩; have hz := own_beq hc.1; rw [q0] at hz; replace H := H.next kb; replace hB := hB.trans (kb.mono hB.size); clear kb) | (go_at_call 47; refine (plain_any (H.get (by repeat (first | exact List.Mem.head _ | apply List.Mem.tail)))).mono ?_; rintro e w1 ⟨rfl, rfl⟩) | (go_at_call 30; refine (rleq_f (H.get (by repeat (first | exact List.Mem.head _ | apply List.Mem.tail))) (H.get (by repeat (first | exact List.Mem.head _ | apply List.Mem.tail))) (by assumption) (by assumption)).mono ?_; rintro e w1 ⟨rfl, kb⟩; replace H := H.next kb; replace hB := hB.trans (kb.mono hB.size); clear kb))
        go_ret
        exact ⟨rfl, hB⟩
      | true =>
        go_enter Try.func18, Try.ntmps18
        go_wp2_with (first | (go_at_call 34; refine (rowned_any (H.get (by repeat (first | exact List.Mem.head _ | apply List.Mem.tail))) (by omega)).mono ?_; rintro e w1 ⟨ao1, m1, cap1, rfl, hc, kb⟩; have hz := own_beq hc.1; rw [q0] at hz; replace H := H.next kb; replace hB := hB.trans (kb.mono hB.size); clear kb) | (go_at_call 47; refine (plain_any (H.get (by repeat (first | exact List.Mem.head _ | apply List.Mem.tail)))).mono ?_; rintro e w1 ⟨rfl, rfl⟩) | (go_at_call 30; refine (rleq_f (H.get (by repeat (first | exact List.Mem.head _ | apply List.Mem.tail))) (H.get (by repeat (first | exact List.Mem.head _ | apply List.Mem.tail))) (by assumption) (by assumption)).mono ?_; rintro e w1 ⟨rfl, kb⟩; replace H := H.next kb; replace hB := hB.trans (kb.mono hB.size); clear kb))
        go_ret
        exact ⟨rfl, hB⟩
    | true =>
      go_enter Try.func18, Try.ntmps18
      go_wp2_with (first | (go_at_call 34; refine (rowned_any (H.get (by repeat (first | exact List.Mem.head _ | apply List.Mem.tail))) (by omega)).mono ?_; rintro e w1 ⟨ao1, m1, cap1, rfl, hc, kb⟩; have hz := own_beq hc.1; rw [q0] at hz; replace H := H.next kb; replace hB := hB.trans (kb.mono hB.size); clear kb) | (go_at_call 47; refine (plain_any (H.get (by repeat (first | exact List.Mem.head _ | apply List.Mem.tail)))).mono ?_; rintro e w1 ⟨rfl, rfl⟩) | (go_at_call 30; refine (rleq_f (H.get (by repeat (first | exact List.Mem.head _ | apply List.Mem.tail))) (H.get (by repeat (first | exact List.Mem.head _ | apply List.Mem.tail))) (by assumption) (by assumption)).mono ?_; rintro e w1 ⟨rfl, kb⟩; replace H := H.next kb; replace hB := hB.trans (kb.mono hB.size); clear kb))
      go_ret
      exact ⟨rfl, hB⟩
set_option maxRecDepth 100000 in
set_option maxHeartbeats 4000000 in
theorem rspawn_any {w : World} {aT aK aN aM : Option Addr} {nT cT nK cK nN cN nM cM : Nat} {T K N M : List (Int × Int)} (hT : Lab w.heap.size w aT nT cT T) (hK : Lab w.heap.size w aK nK cK K) (hN : Lab w.heap.size w aN nN cN N) (hM : Lab w.heap.size w aM nM cM M) (kT : nT < 1048576) (kK : nK < 1048576) (kN : nN < 1048576) (kM : nM < 1048576) (fT : Fit T) (fK : Fit K) (fN : Fit N) (fM : Fit M) :
    Calls Try.prog 20 #[.slice aT nT cT, .slice aK nK cK, .slice aN nN cN, .slice aM nM cM] w fun e w' => e = .returned (.bool ((!abvB N && !abvB M) && (leqB T N && (leqB N M && leqB M K)))) ∧ Below w.heap.size w w' := by
  have hB := Below.refl w.heap.size w
  have H := ((((((Labs.nil w).push (Lab.nil _ _)).push hT).push hK).push hN).push hM)
  clear hT hK hN hM
  have fnil := Fit.nil
  cases q0 : abvB N with
  | false =>
    cases q1 : abvB M with
    | false =>
      cases q2 : leqB T N with
      | false =>
        go_enter Try.func20, Try.ntmps20
        go_wp2_with (first | (go_at_call 47; refine (plain_any (H.get (by repeat (first | exact List.Mem.head _ | apply List.Mem.tail)))).mono ?_; rintro e w1 ⟨rfl, rfl⟩) | (go_at_call 30; refine (rleq_f (H.get (by repeat (first | exact List.Mem.head _ | apply List.Mem.tail))) (H.get (by repeat (first | exact List.Mem.head _ | apply List.Mem.tail))) (by assumption) (by assumption)).mono ?_; rintro e w1 ⟨rfl, kb⟩; replace H := H.next kb; replace hB := hB.trans (kb.mono hB.size); clear kb))
        go_ret
        exact ⟨rfl, hB⟩
      | true =>
        cases q3 : leqB N M with
        | false =>
          go_enter Try.func20, Try.ntmps20
          go_wp2_with (first | (go_at_call 47; refine (plain_any (H.get (by repeat (first | exact List.Mem.head _ | apply List.Mem.tail)))).mono ?_; rintro e w1 ⟨rfl, rfl⟩) | (go_at_call 30; refine (rleq_f (H.get (by repeat (first | exact List.Mem.head _ | apply List.Mem.tail))) (H.get (by repeat (first | exact List.Mem.head _ | apply List.Mem.tail))) (by assumption) (by assumption)).mono ?_; rintro e w1 ⟨rfl, kb⟩; replace H := H.next kb; replace hB := hB.trans (kb.mono hB.size); clear kb))
          go_ret
          exact ⟨rfl, hB⟩
        | true =>
          go_enter Try.func20, Try.ntmps20
          go_wp2_with (first | (go_at_call 47; refine (plain_any (H.get (by repeat (first | exact List.Mem.head _ | apply List.Mem.tail)))).mono ?_; rintro e w1 ⟨rfl, rfl⟩) | (go_at_call 30; refine (rleq_f (H.get (by repeat (first | exact List.Mem.head _ | apply List.Mem.tail))) (H.get (by repeat (first | exact List.Mem.head _ | apply List.Mem.tail))) (by assumption) (by assumption)).mono ?_; rintro e w1 ⟨rfl, kb⟩; replace H := H.next kb; replace hB := hB.trans (kb.mono hB.size); clear kb))
          go_ret
          exact ⟨rfl, hB⟩
    | true =>
      go_enter Try.func20, Try.ntmps20
      go_wp2_with (first | (go_at_call 47; refine (plain_any (H.get (by repeat (first | exact List.Mem.head _ | apply List.Mem.tail)))).mono ?_; rintro e w1 ⟨rfl, rfl⟩) | (go_at_call 30; refine (rleq_f (H.get (by repeat (first | exact List.Mem.head _ | apply List.Mem.tail))) (H.get (by repeat (first | exact List.Mem.head _ | apply List.Mem.tail))) (by assumption) (by assumption)).mono ?_; rintro e w1 ⟨rfl, kb⟩; replace H := H.next kb; replace hB := hB.trans (kb.mono hB.size); clear kb))
      go_ret
      exact ⟨rfl, hB⟩
  | true =>
    go_enter Try.func20, Try.ntmps20
    go_wp2_with (first | (go_at_call 47; refine (plain_any (H.get (by repeat (first | exact List.Mem.head _ | apply List.Mem.tail)))).mono ?_; rintro e w1 ⟨rfl, rfl⟩) | (go_at_call 30; refine (rleq_f (H.get (by repeat (first | exact List.Mem.head _ | apply List.Mem.tail))) (H.get (by repeat (first | exact List.Mem.head _ | apply List.Mem.tail))) (by assumption) (by assumption)).mono ?_; rintro e w1 ⟨rfl, kb⟩; replace H := H.next kb; replace hB := hB.trans (kb.mono hB.size); clear kb))
    go_ret
    exact ⟨rfl, hB⟩
set_option maxRecDepth 100000 in
set_option maxHeartbeats 4000000 in
theorem rbecome_any {w : World} {aT aK aN : Option Addr} {nT cT nK cK nN cN : Nat} {T K N : List (Int × Int)} (hT : Lab w.heap.size w aT nT cT T) (hK : Lab w.heap.size w aK nK cK K) (hN : Lab w.heap.size w aN nN cN N) (kT : nT < 1048576) (kK : nK < 1048576) (kN : nN < 1048576) (fT : Fit T) (fK : Fit K) (fN : Fit N) :
    Calls Try.prog 22 #[.slice aT nT cT, .slice aK nK cK, .slice aN nN cN] w fun e w' => e = .returned (.bool (!abvB N && (leqB T N && leqB N K))) ∧ Below w.heap.size w w' := by
  have hB := Below.refl w.heap.size w
  have H := (((((Labs.nil w).push (Lab.nil _ _)).push hT).push hK).push hN)
  clear hT hK hN
  have fnil := Fit.nil
  cases q0 : abvB N with
  | false =>
    cases q1 : leqB T N with
    | false =>
      go_enter Try.func22, Try.ntmps22
      go_wp2_with (first | (go_at_call 47; refine (plain_any (H.get (by repeat (first | exact List.Mem.head _ | apply List.Mem.tail)))).mono ?_; rintro e w1 ⟨rfl, rfl⟩) | (go_at_call 30; refine (rleq_f (H.get (by repeat (first | exact List.Mem.head _ | apply List.Mem.tail))) (H.get (by repeat (first | exact List.Mem.head _ | apply List.Mem.tail))) (by assumption) (by assumption)).mono ?_; rintro e w1 ⟨rfl, kb⟩; replace H := H.next kb; replace hB := hB.trans (kb.mono hB.size); clear kb))
      go_ret
      exact ⟨rfl, hB⟩
    | true =>
      go_enter Try.func22, Try.ntmps22
      go_wp2_with (first | (go_at_call 47; refine (plain_any (H.get (by repeat (first | exact List.Mem.head _ | apply List.Mem.tail)))).mono ?_; rintro e w1 ⟨rfl, rfl⟩) | (go_at_call 30; refine (rleq_f (H.get (by repeat (first | exact List.Mem.head _ | apply List.Mem.tail))) (H.get (by repeat (first | exact List.Mem.head _ | apply List.Mem.tail))) (by assumption) (by assumption)).mono ?_; rintro e w1 ⟨rfl, kb⟩; replace H := H.next kb; replace hB := hB.trans (kb.mono hB.size); clear kb))
      go_ret
      exact ⟨rfl, hB⟩
  | true =>
    go_enter Try.func22, Try.ntmps22
    go_wp2_with (first | (go_at_call 47; refine (plain_any (H.get (by repeat (first | exact List.Mem.head _ | apply List.Mem.tail)))).mono ?_; rintro e w1 ⟨rfl, rfl⟩) | (go_at_call 30; refine (rleq_f (H.get (by repeat (first | exact List.Mem.head _ | apply List.Mem.tail))) (H.get (by repeat (first | exact List.Mem.head _ | apply List.Mem.tail))) (by assumption) (by assumption)).mono ?_; rintro e w1 ⟨rfl, kb⟩; replace H := H.next kb; replace hB := hB.trans (kb.mono hB.size); clear kb))
    go_ret
    exact ⟨rfl, hB⟩
set_option maxRecDepth 100000 in
set_option maxHeartbeats 4000000 in
theorem rclear_any {w : World} {aT aK aN : Option Addr} {nT cT nK cK nN cN : Nat} {T K N : List (Int × Int)} (hT : Lab w.heap.size w aT nT cT T) (hK : Lab w.heap.size w aK nK cK K) (hN : Lab w.heap.size w aN nN cN N) (kT : nT < 1048576) (kK : nK < 1048576) (kN : nN < 1048576) (fT : Fit T) (fK : Fit K) (fN : Fit N) :
    Calls Try.prog 24 #[.slice aT nT cT, .slice aK nK cK, .slice aN nN cN] w fun e w' => e = .returned (.bool (!abvB N && (leqB T N && leqB N (joinL K (raiseL T))))) ∧ Below w.heap.size w w' := by
  have hB := Below.refl w.heap.size w
  have H := (((((Labs.nil w).push (Lab.nil _ _)).push hT).push hK).push hN)
  clear hT hK hN
  have fnil := Fit.nil
  have fR : Fit (raiseL T) := raiseL_fit fT
  have fJ : Fit (joinL K (raiseL T)) := joinL_fit fK fR
  cases q0 : abvB N with
  | false =>
    cases q1 : leqB T N with
    | false =>
      go_enter Try.func24, Try.ntmps24
      go_wp2_with (first | (go_at_call 47; refine (plain_any (H.get (by repeat (first | exact List.Mem.head _ | apply List.Mem.tail)))).mono ?_; rintro e w1 ⟨rfl, rfl⟩) | (go_at_call 30; refine (rleq_f (H.get (by repeat (first | exact List.Mem.head _ | apply List.Mem.tail))) (H.get (by repeat (first | exact List.Mem.head _ | apply List.Mem.tail))) (by assumption) (by assumption)).mono ?_; rintro e w1 ⟨rfl, kb⟩; replace H := H.next kb; replace hB := hB.trans (kb.mono hB.size); clear kb) | (go_at_call 31; refine (rraise_f (H.get (by repeat (first | exact List.Mem.head _ | apply List.Mem.tail))) (by omega) (by assumption)).mono ?_; rintro e w1 ⟨ao1, m1, cap1, rfl, hl, kn, kb⟩; replace H := (H.next kb).push hl; replace hB := hB.trans (kb.mono hB.size); clear kb hl) | (go_at_call 37; refine (rjoin_f (H.get (by repeat (first | exact List.Mem.head _ | apply List.Mem.tail))) (H.get (by repeat (first | exact List.Mem.head _ | apply List.Mem.tail))) (by omega) (by omega) (by assumption) (by assumption)).mono ?_; rintro e w1 ⟨ao1, m1, cap1, rfl, hl, kn, kb⟩; replace H := (H.next kb).push hl; replace hB := hB.trans (kb.mono hB.size); clear kb hl))
      go_ret
      exact ⟨rfl, hB⟩
    | true =>
      go_enter Try.func24, Try.ntmps24
      go_wp2_with (first | (go_at_call 47; refine (plain_any (H.get (by repeat (first | exact List.Mem.head _ | apply List.Mem.tail)))).mono ?_; rintro e w1 ⟨rfl, rfl⟩) | (go_at_call 30; refine (rleq_f (H.get (by repeat (first | exact List.Mem.head _ | apply List.Mem.tail))) (H.get (by repeat (first | exact List.Mem.head _ | apply List.Mem.tail))) (by assumption) (by assumption)).mono ?_; rintro e w1 ⟨rfl, kb⟩; replace H := H.next kb; replace hB := hB.trans (kb.mono hB.size); clear kb) | (go_at_call 31; refine (rraise_f (H.get (by repeat (first | exact List.Mem.head _ | apply List.Mem.tail))) (by omega) (by assumption)).mono ?_; rintro e w1 ⟨ao1, m1, cap1, rfl, hl, kn, kb⟩; replace H := (H.next kb).push hl; replace hB := hB.trans (kb.mono hB.size); clear kb hl) | (go_at_call 37; refine (rjoin_f (H.get (by repeat (first | exact List.Mem.head _ | apply List.Mem.tail))) (H.get (by repeat (first | exact List.Mem.head _ | apply List.Mem.tail))) (by omega) (by omega) (by assumption) (by assumption)).mono ?_; rintro e w1 ⟨ao1, m1, cap1, rfl, hl, kn, kb⟩; replace H := (H.next kb).push hl; replace hB := hB.trans (kb.mono hB.size); clear kb hl))
      go_ret
      exact ⟨rfl, hB⟩
  | true =>
    go_enter Try.func24, Try.ntmps24
    go_wp2_with (first | (go_at_call 47; refine (plain_any (H.get (by repeat (first | exact List.Mem.head _ | apply List.Mem.tail)))).mono ?_; rintro e w1 ⟨rfl, rfl⟩) | (go_at_call 30; refine (rleq_f (H.get (by repeat (first | exact List.Mem.head _ | apply List.Mem.tail))) (H.get (by repeat (first | exact List.Mem.head _ | apply List.Mem.tail))) (by assumption) (by assumption)).mono ?_; rintro e w1 ⟨rfl, kb⟩; replace H := H.next kb; replace hB := hB.trans (kb.mono hB.size); clear kb) | (go_at_call 31; refine (rraise_f (H.get (by repeat (first | exact List.Mem.head _ | apply List.Mem.tail))) (by omega) (by assumption)).mono ?_; rintro e w1 ⟨ao1, m1, cap1, rfl, hl, kn, kb⟩; replace H := (H.next kb).push hl; replace hB := hB.trans (kb.mono hB.size); clear kb hl) | (go_at_call 37; refine (rjoin_f (H.get (by repeat (first | exact List.Mem.head _ | apply List.Mem.tail))) (H.get (by repeat (first | exact List.Mem.head _ | apply List.Mem.tail))) (by omega) (by omega) (by assumption) (by assumption)).mono ?_; rintro e w1 ⟨ao1, m1, cap1, rfl, hl, kn, kb⟩; replace H := (H.next kb).push hl; replace hB := hB.trans (kb.mono hB.size); clear kb hl))
    go_ret
    exact ⟨rfl, hB⟩
set_option maxRecDepth 100000 in
set_option maxHeartbeats 4000000 in
theorem renter_any {w : World} {aT aK aG aQ aN aM : Option Addr} {nT cT nK cK nG cG nQ cQ nN cN nM cM : Nat} {T K G Q N M : List (Int × Int)} (hT : Lab w.heap.size w aT nT cT T) (hK : Lab w.heap.size w aK nK cK K) (hG : Lab w.heap.size w aG nG cG G) (hQ : Lab w.heap.size w aQ nQ cQ Q) (hN : Lab w.heap.size w aN nN cN N) (hM : Lab w.heap.size w aM nM cM M) (kT : nT < 1048576) (kK : nK < 1048576) (kG : nG < 1048576) (kQ : nQ < 1048576) (kN : nN < 1048576) (kM : nM < 1048576) (fT : Fit T) (fK : Fit K) (fG : Fit G) (fQ : Fit Q) (fN : Fit N) (fM : Fit M) :
    Calls Try.prog 26 #[.slice aT nT cT, .slice aK nK cK, .slice aG nG cG, .slice aQ nQ cQ, .slice aN nN cN, .slice aM nM cM] w fun e w' => e = .returned (.bool ((!abvB N && !abvB M) && (leqB T Q && (leqB (lowerL (joinL (raiseL T) (raiseL G))) N && (leqB N M && leqB M (joinL K Q)))))) ∧ Below w.heap.size w w' := by
  have hB := Below.refl w.heap.size w
  have H := ((((((((Labs.nil w).push (Lab.nil _ _)).push hT).push hK).push hG).push hQ).push hN).push hM)
  clear hT hK hG hQ hN hM
  have fnil := Fit.nil
  have fR : Fit (raiseL T) := raiseL_fit fT
  have fS : Fit (raiseL G) := raiseL_fit fG
  have fU : Fit (joinL (raiseL T) (raiseL G)) := joinL_fit fR fS
  have fV : Fit (lowerL (joinL (raiseL T) (raiseL G))) := lowerL_fit fU
  have fJ : Fit (joinL K Q) := joinL_fit fK fQ
  cases q0 : abvB N with
  | false =>
    cases q1 : abvB M with
    | false =>
      cases q2 : leqB T Q with
      | false =>
        go_enter Try.func26, Try.ntmps26
        go_wp2_with (first | (go_at_call 31; refine (rraise_f (H.get (by repeat (first | exact List.Mem.head _ | apply List.Mem.tail))) (by omega) (by assumption)).mono ?_; rintro e w1 ⟨ao1, m1, cap1, rfl, hl, kn, kb⟩; replace H := (H.next kb).push hl; replace hB := hB.trans (kb.mono hB.size); clear kb hl) | (go_at_call 37; refine (rjoin_f (H.get (by repeat (first | exact List.Mem.head _ | apply List.Mem.tail))) (H.get (by repeat (first | exact List.Mem.head _ | apply List.Mem.tail))) (by omega) (by omega) (by assumption) (by assumption)).mono ?_; rintro e w1 ⟨ao1, m1, cap1, rfl, hl, kn, kb⟩; replace H := (H.next kb).push hl; replace hB := hB.trans (kb.mono hB.size); clear kb hl) | (go_at_call 49; refine (rlower_f (H.get (by repeat (first | exact List.Mem.head _ | apply List.Mem.tail))) (by omega) (by assumption)).mono ?_; rintro e w1 ⟨ao1, m1, cap1, rfl, hl, kn, kb⟩; replace H := (H.next kb).push hl; replace hB := hB.trans (kb.mono hB.size); clear kb hl) | (go_at_call 47; refine (plain_any (H.get (by repeat (first | exact List.Mem.head _ | apply List.Mem.tail)))).mono ?_; rintro e w1 ⟨rfl, rfl⟩) | (go_at_call 30; refine (rleq_f (H.get (by repeat (first | exact List.Mem.head _ | apply List.Mem.tail))) (H.get (by repeat (first | exact List.Mem.head _ | apply List.Mem.tail))) (by assumption) (by assumption)).mono ?_; rintro e w1 ⟨rfl, kb⟩; replace H := H.next kb; replace hB := hB.trans (kb.mono hB.size); clear kb))
        go_ret
        exact ⟨rfl, hB⟩
      | true =>
        cases q3 : leqB (lowerL (joinL (raiseL T) (raiseL G))) N with
        | false =>
          go_enter Try.func26, Try.ntmps26
          go_wp2_with (first | (go_at_call 31; refine (rraise_f (H.get (by repeat (first | exact List.Mem.head _ | apply List.Mem.tail))) (by omega) (by assumption)).mono ?_; rintro e w1 ⟨ao1, m1, cap1, rfl, hl, kn, kb⟩; replace H := (H.next kb).push hl; replace hB := hB.trans (kb.mono hB.size); clear kb hl) | (go_at_call 37; refine (rjoin_f (H.get (by repeat (first | exact List.Mem.head _ | apply List.Mem.tail))) (H.get (by repeat (first | exact List.Mem.head _ | apply List.Mem.tail))) (by omega) (by omega) (by assumption) (by assumption)).mono ?_; rintro e w1 ⟨ao1, m1, cap1, rfl, hl, kn, kb⟩; replace H := (H.next kb).push hl; replace hB := hB.trans (kb.mono hB.size); clear kb hl) | (go_at_call 49; refine (rlower_f (H.get (by repeat (first | exact List.Mem.head _ | apply List.Mem.tail))) (by omega) (by assumption)).mono ?_; rintro e w1 ⟨ao1, m1, cap1, rfl, hl, kn, kb⟩; replace H := (H.next kb).push hl; replace hB := hB.trans (kb.mono hB.size); clear kb hl) | (go_at_call 47; refine (plain_any (H.get (by repeat (first | exact List.Mem.head _ | apply List.Mem.tail)))).mono ?_; rintro e w1 ⟨rfl, rfl⟩) | (go_at_call 30; refine (rleq_f (H.get (by repeat (first | exact List.Mem.head _ | apply List.Mem.tail))) (H.get (by repeat (first | exact List.Mem.head _ | apply List.Mem.tail))) (by assumption) (by assumption)).mono ?_; rintro e w1 ⟨rfl, kb⟩; replace H := H.next kb; replace hB := hB.trans (kb.mono hB.size); clear kb))
          go_ret
          exact ⟨rfl, hB⟩
        | true =>
          cases q4 : leqB N M with
          | false =>
            go_enter Try.func26, Try.ntmps26
            go_wp2_with (first | (go_at_call 31; refine (rraise_f (H.get (by repeat (first | exact List.Mem.head _ | apply List.Mem.tail))) (by omega) (by assumption)).mono ?_; rintro e w1 ⟨ao1, m1, cap1, rfl, hl, kn, kb⟩; replace H := (H.next kb).push hl; replace hB := hB.trans (kb.mono hB.size); clear kb hl) | (go_at_call 37; refine (rjoin_f (H.get (by repeat (first | exact List.Mem.head _ | apply List.Mem.tail))) (H.get (by repeat (first | exact List.Mem.head _ | apply List.Mem.tail))) (by omega) (by omega) (by assumption) (by assumption)).mono ?_; rintro e w1 ⟨ao1, m1, cap1, rfl, hl, kn, kb⟩; replace H := (H.next kb).push hl; replace hB := hB.trans (kb.mono hB.size); clear kb hl) | (go_at_call 49; refine (rlower_f (H.get (by repeat (first | exact List.Mem.head _ | apply List.Mem.tail))) (by omega) (by assumption)).mono ?_; rintro e w1 ⟨ao1, m1, cap1, rfl, hl, kn, kb⟩; replace H := (H.next kb).push hl; replace hB := hB.trans (kb.mono hB.size); clear kb hl) | (go_at_call 47; refine (plain_any (H.get (by repeat (first | exact List.Mem.head _ | apply List.Mem.tail)))).mono ?_; rintro e w1 ⟨rfl, rfl⟩) | (go_at_call 30; refine (rleq_f (H.get (by repeat (first | exact List.Mem.head _ | apply List.Mem.tail))) (H.get (by repeat (first | exact List.Mem.head _ | apply List.Mem.tail))) (by assumption) (by assumption)).mono ?_; rintro e w1 ⟨rfl, kb⟩; replace H := H.next kb; replace hB := hB.trans (kb.mono hB.size); clear kb))
            go_ret
            exact ⟨rfl, hB⟩
          | true =>
            go_enter Try.func26, Try.ntmps26
            go_wp2_with (first | (go_at_call 31; refine (rraise_f (H.get (by repeat (first | exact List.Mem.head _ | apply List.Mem.tail))) (by omega) (by assumption)).mono ?_; rintro e w1 ⟨ao1, m1, cap1, rfl, hl, kn, kb⟩; replace H := (H.next kb).push hl; replace hB := hB.trans (kb.mono hB.size); clear kb hl) | (go_at_call 37; refine (rjoin_f (H.get (by repeat (first | exact List.Mem.head _ | apply List.Mem.tail))) (H.get (by repeat (first | exact List.Mem.head _ | apply List.Mem.tail))) (by omega) (by omega) (by assumption) (by assumption)).mono ?_; rintro e w1 ⟨ao1, m1, cap1, rfl, hl, kn, kb⟩; replace H := (H.next kb).push hl; replace hB := hB.trans (kb.mono hB.size); clear kb hl) | (go_at_call 49; refine (rlower_f (H.get (by repeat (first | exact List.Mem.head _ | apply List.Mem.tail))) (by omega) (by assumption)).mono ?_; rintro e w1 ⟨ao1, m1, cap1, rfl, hl, kn, kb⟩; replace H := (H.next kb).push hl; replace hB := hB.trans (kb.mono hB.size); clear kb hl) | (go_at_call 47; refine (plain_any (H.get (by repeat (first | exact List.Mem.head _ | apply List.Mem.tail)))).mono ?_; rintro e w1 ⟨rfl, rfl⟩) | (go_at_call 30; refine (rleq_f (H.get (by repeat (first | exact List.Mem.head _ | apply List.Mem.tail))) (H.get (by repeat (first | exact List.Mem.head _ | apply List.Mem.tail))) (by assumption) (by assumption)).mono ?_; rintro e w1 ⟨rfl, kb⟩; replace H := H.next kb; replace hB := hB.trans (kb.mono hB.size); clear kb))
            go_ret
            exact ⟨rfl, hB⟩
    | true =>
      go_enter Try.func26, Try.ntmps26
      go_wp2_with (first | (go_at_call 31; refine (rraise_f (H.get (by repeat (first | exact List.Mem.head _ | apply List.Mem.tail))) (by omega) (by assumption)).mono ?_; rintro e w1 ⟨ao1, m1, cap1, rfl, hl, kn, kb⟩; replace H := (H.next kb).push hl; replace hB := hB.trans (kb.mono hB.size); clear kb hl) | (go_at_call 37; refine (rjoin_f (H.get (by repeat (first | exact List.Mem.head _ | apply List.Mem.tail))) (H.get (by repeat (first | exact List.Mem.head _ | apply List.Mem.tail))) (by omega) (by omega) (by assumption) (by assumption)).mono ?_; rintro e w1 ⟨ao1, m1, cap1, rfl, hl, kn, kb⟩; replace H := (H.next kb).push hl; replace hB := hB.trans (kb.mono hB.size); clear kb hl) | (go_at_call 49; refine (rlower_f (H.get (by repeat (first | exact List.Mem.head _ | apply List.Mem.tail))) (by omega) (by assumption)).mono ?_; rintro e w1 ⟨ao1, m1, cap1, rfl, hl, kn, kb⟩; replace H := (H.next kb).push hl; replace hB := hB.trans (kb.mono hB.size); clear kb hl) | (go_at_call 47; refine (plain_any (H.get (by repeat (first | exact List.Mem.head _ | apply List.Mem.tail)))).mono ?_; rintro e w1 ⟨rfl, rfl⟩) | (go_at_call 30; refine (rleq_f (H.get (by repeat (first | exact List.Mem.head _ | apply List.Mem.tail))) (H.get (by repeat (first | exact List.Mem.head _ | apply List.Mem.tail))) (by assumption) (by assumption)).mono ?_; rintro e w1 ⟨rfl, kb⟩; replace H := H.next kb; replace hB := hB.trans (kb.mono hB.size); clear kb))
      go_ret
      exact ⟨rfl, hB⟩
  | true =>
    go_enter Try.func26, Try.ntmps26
    go_wp2_with (first | (go_at_call 31; refine (rraise_f (H.get (by repeat (first | exact List.Mem.head _ | apply List.Mem.tail))) (by omega) (by assumption)).mono ?_; rintro e w1 ⟨ao1, m1, cap1, rfl, hl, kn, kb⟩; replace H := (H.next kb).push hl; replace hB := hB.trans (kb.mono hB.size); clear kb hl) | (go_at_call 37; refine (rjoin_f (H.get (by repeat (first | exact List.Mem.head _ | apply List.Mem.tail))) (H.get (by repeat (first | exact List.Mem.head _ | apply List.Mem.tail))) (by omega) (by omega) (by assumption) (by assumption)).mono ?_; rintro e w1 ⟨ao1, m1, cap1, rfl, hl, kn, kb⟩; replace H := (H.next kb).push hl; replace hB := hB.trans (kb.mono hB.size); clear kb hl) | (go_at_call 49; refine (rlower_f (H.get (by repeat (first | exact List.Mem.head _ | apply List.Mem.tail))) (by omega) (by assumption)).mono ?_; rintro e w1 ⟨ao1, m1, cap1, rfl, hl, kn, kb⟩; replace H := (H.next kb).push hl; replace hB := hB.trans (kb.mono hB.size); clear kb hl) | (go_at_call 47; refine (plain_any (H.get (by repeat (first | exact List.Mem.head _ | apply List.Mem.tail)))).mono ?_; rintro e w1 ⟨rfl, rfl⟩) | (go_at_call 30; refine (rleq_f (H.get (by repeat (first | exact List.Mem.head _ | apply List.Mem.tail))) (H.get (by repeat (first | exact List.Mem.head _ | apply List.Mem.tail))) (by assumption) (by assumption)).mono ?_; rintro e w1 ⟨rfl, kb⟩; replace H := H.next kb; replace hB := hB.trans (kb.mono hB.size); clear kb))
    go_ret
    exact ⟨rfl, hB⟩
end Go.Proofs.Ytkhnlgbebbhmbaa
