/-
  PROVED HERE: what Observe, Modify, Place, Create, Spawn, Become, Clear and Enter of package check return when they are called (contracts over this translation). Labels have fewer than 2^20 pairs.
-/
import Derived.Test.YtkhnlgbebbhmbaaChk3
namespace Go.Proofs.Ytkhnlgbebbhmbaa
open Go.ChangeShapes Go.WideShapes Go.ChangeAt Go.RowKit
set_option linter.unusedVariables false

theorem rising2_any (w : World) {a1 a2 : Option Addr} {n1 n2 c1 c2 : Nat} {A1 A2 : List (Int × Int)} (h1 : Lab w.heap.size w a1 n1 c1 A1) (h2 : Lab w.heap.size w a2 n2 c2 A2) :
    Calls Try.prog 42 #[.slice (some ⟨w.heap.size, 0, none⟩) 2 2] (w.alloc (.cells #[.slice a1 n1 c1, .slice a2 n2 c2] 23)) fun e w' => ∃ q, e = .returned q ∧ Asks w' q (leqB A1 A2) ∧ Below w.heap.size w w' := by
  refine (rising_any (m := 2) (ls := [(a1, n1, c1, A1), (a2, n2, c2, A2)]) rfl (by omega) (by omega) (lrow_new [(a1, n1, c1, A1), (a2, n2, c2, A2)] (((Labs.nil w).push h2).push h1))).mono ?_
  rintro e w' ⟨q, rfl, ha, hb⟩
  refine ⟨q, rfl, ?_, below_new _ _ hb⟩
  have e : risB [(a1, n1, c1, A1), (a2, n2, c2, A2)] = leqB A1 A2 := by simp [risB, labOf]
  rw [e] at ha
  exact ha
theorem rising3_any (w : World) {a1 a2 a3 : Option Addr} {n1 n2 n3 c1 c2 c3 : Nat} {A1 A2 A3 : List (Int × Int)} (h1 : Lab w.heap.size w a1 n1 c1 A1) (h2 : Lab w.heap.size w a2 n2 c2 A2) (h3 : Lab w.heap.size w a3 n3 c3 A3) :
    Calls Try.prog 42 #[.slice (some ⟨w.heap.size, 0, none⟩) 3 3] (w.alloc (.cells #[.slice a1 n1 c1, .slice a2 n2 c2, .slice a3 n3 c3] 23)) fun e w' => ∃ q, e = .returned q ∧ Asks w' q (leqB A1 A2 && leqB A2 A3) ∧ Below w.heap.size w w' := by
  refine (rising_any (m := 3) (ls := [(a1, n1, c1, A1), (a2, n2, c2, A2), (a3, n3, c3, A3)]) rfl (by omega) (by omega) (lrow_new [(a1, n1, c1, A1), (a2, n2, c2, A2), (a3, n3, c3, A3)] ((((Labs.nil w).push h3).push h2).push h1))).mono ?_
  rintro e w' ⟨q, rfl, ha, hb⟩
  refine ⟨q, rfl, ?_, below_new _ _ hb⟩
  have e : risB [(a1, n1, c1, A1), (a2, n2, c2, A2), (a3, n3, c3, A3)] = (leqB A1 A2 && leqB A2 A3) := by simp [risB, labOf, List.range_succ]
  rw [e] at ha
  exact ha
theorem rising4_any (w : World) {a1 a2 a3 a4 : Option Addr} {n1 n2 n3 n4 c1 c2 c3 c4 : Nat} {A1 A2 A3 A4 : List (Int × Int)} (h1 : Lab w.heap.size w a1 n1 c1 A1) (h2 : Lab w.heap.size w a2 n2 c2 A2) (h3 : Lab w.heap.size w a3 n3 c3 A3) (h4 : Lab w.heap.size w a4 n4 c4 A4) :
    Calls Try.prog 42 #[.slice (some ⟨w.heap.size, 0, none⟩) 4 4] (w.alloc (.cells #[.slice a1 n1 c1, .slice a2 n2 c2, .slice a3 n3 c3, .slice a4 n4 c4] 23)) fun e w' => ∃ q, e = .returned q ∧ Asks w' q (leqB A1 A2 && (leqB A2 A3 && leqB A3 A4)) ∧ Below w.heap.size w w' := by
  refine (rising_any (m := 4) (ls := [(a1, n1, c1, A1), (a2, n2, c2, A2), (a3, n3, c3, A3), (a4, n4, c4, A4)]) rfl (by omega) (by omega) (lrow_new [(a1, n1, c1, A1), (a2, n2, c2, A2), (a3, n3, c3, A3), (a4, n4, c4, A4)] (((((Labs.nil w).push h4).push h3).push h2).push h1))).mono ?_
  rintro e w' ⟨q, rfl, ha, hb⟩
  refine ⟨q, rfl, ?_, below_new _ _ hb⟩
  have e : risB [(a1, n1, c1, A1), (a2, n2, c2, A2), (a3, n3, c3, A3), (a4, n4, c4, A4)] = (leqB A1 A2 && (leqB A2 A3 && leqB A3 A4)) := by simp [risB, labOf, List.range_succ]
  rw [e] at ha
  exact ha
theorem noneAbove1_any (w : World) {a1 : Option Addr} {n1 c1 : Nat} {A1 : List (Int × Int)} (h1 : Lab w.heap.size w a1 n1 c1 A1) :
    Calls Try.prog 46 #[.slice (some ⟨w.heap.size, 0, none⟩) 1 1] (w.alloc (.cells #[.slice a1 n1 c1] 23)) fun e w' => ∃ q, e = .returned q ∧ Asks w' q (!abvB A1) ∧ Below w.heap.size w w' := by
  refine (noneAbove_any (m := 1) (ls := [(a1, n1, c1, A1)]) rfl (by omega) (lrow_new [(a1, n1, c1, A1)] ((Labs.nil w).push h1))).mono ?_
  rintro e w' ⟨q, rfl, ha, hb⟩
  refine ⟨q, rfl, ?_, below_new _ _ hb⟩
  have e : abvsB [(a1, n1, c1, A1)] = abvB A1 := by simp [abvsB, labOf]
  rw [e] at ha
  exact ha
theorem noneAbove2_any (w : World) {a1 a2 : Option Addr} {n1 n2 c1 c2 : Nat} {A1 A2 : List (Int × Int)} (h1 : Lab w.heap.size w a1 n1 c1 A1) (h2 : Lab w.heap.size w a2 n2 c2 A2) :
    Calls Try.prog 46 #[.slice (some ⟨w.heap.size, 0, none⟩) 2 2] (w.alloc (.cells #[.slice a1 n1 c1, .slice a2 n2 c2] 23)) fun e w' => ∃ q, e = .returned q ∧ Asks w' q (!abvB A1 && !abvB A2) ∧ Below w.heap.size w w' := by
  refine (noneAbove_any (m := 2) (ls := [(a1, n1, c1, A1), (a2, n2, c2, A2)]) rfl (by omega) (lrow_new [(a1, n1, c1, A1), (a2, n2, c2, A2)] (((Labs.nil w).push h2).push h1))).mono ?_
  rintro e w' ⟨q, rfl, ha, hb⟩
  refine ⟨q, rfl, ?_, below_new _ _ hb⟩
  have e : (!abvsB [(a1, n1, c1, A1), (a2, n2, c2, A2)]) = (!abvB A1 && !abvB A2) := by simp [abvsB, labOf, List.range_succ]
  rw [e] at ha
  exact ha

def ownsNo (L : List (Int × Int)) : Bool := (owned L).length == 0
theorem noneOwned1_any {w : World} {ao : Option Addr} {n cap B : Nat} {L : List (Int × Int)} (hc : w.cell? ⟨B, 0, none⟩ = some (.slice ao n cap)) (hL : Lab w.heap.size w ao n cap L) (hk : n < 1048576) :
    Calls Try.prog 64 #[.pointer (some ⟨B, 0, none⟩)] w fun e w' => e = .returned (.bool (ownsNo L)) ∧ Below w.heap.size w w' := by
  go_enter Try.func64, Try.ntmps64
  go_wp2_with (go_at_call 65; refine (owned_any hL (by omega)).mono ?_; rintro e w1 ⟨ao1, n1, cap1, rfl, h1, hb1⟩)
  go_ret
  have e : ((n1 : Int) == 0) = (n1 == 0) := by rw [Bool.eq_iff_iff]; simp
  have e2 : ownsNo L = ((n1 : Int) == 0) := by unfold ownsNo; rw [h1.1, e]
  exact ⟨by rw [e2]; rfl, hb1⟩
theorem noneOwned_any {w : World} {ao : Option Addr} {n cap : Nat} {L : List (Int × Int)} (hL : Lab w.heap.size w ao n cap L) (hk : n < 1048576) :
    Calls Try.prog 45 #[.slice ao n cap] w fun e w' => ∃ q, e = .returned q ∧ Asks w' q (ownsNo L) ∧ Below w.heap.size w w' := by
  have hB := (Below.refl w.heap.size w).alloc (Nat.le_refl _) (.cells #[.slice ao n cap] 23)
  have bx := Boxed.new w 23 (.slice ao n cap)
  go_enter Try.func45, Try.ntmps45
  go_wp2
  go_ret
  refine ⟨_, rfl, ⟨64, _, rfl, enters_of Try.func64 (by kernel_rfl) rfl, fun W hW => ?_⟩, hB⟩
  exact noneOwned1_any (cell_later hW bx.cell) ((hL.next hB).next hW) hk

theorem sees_any {w : World} {a1 a2 : Option Addr} {n1 n2 c1 c2 : Nat} {T O : List (Int × Int)} (h1 : Lab w.heap.size w a1 n1 c1 T) (h2 : Lab w.heap.size w a2 n2 c2 O) (k1 : n1 < 1048576) :
    Calls Try.prog 41 #[.slice a1 n1 c1, .slice a2 n2 c2] w fun e w' => ∃ q, e = .returned q ∧ Asks w' q (leqB O (raiseL T)) ∧ Below w.heap.size w w' := by
  go_enter Try.func41, Try.ntmps41
  go_wp2_with (first | (go_at_call 44; refine (lraise_b h1 (by omega)).mono ?_; rintro e w1 ⟨ao1, m1, cap1, rfl, hr, hl, hb1⟩) | (go_at_call 42; refine (rising2_any w1 (h2.next hb1) hr).mono ?_; rintro e w2 ⟨q, rfl, hq, hb2⟩))
  go_ret
  exact ⟨q, rfl, hq, hb1.trans (hb2.mono hb1.size)⟩
theorem together_any {w : World} {a1 a2 : Option Addr} {n1 n2 c1 c2 : Nat} {T G : List (Int × Int)} (h1 : Lab w.heap.size w a1 n1 c1 T) (h2 : Lab w.heap.size w a2 n2 c2 G) (k1 : n1 < 1048576) (k2 : n2 < 1048576) :
    Calls Try.prog 48 #[.slice a1 n1 c1, .slice a2 n2 c2] w fun e w' => ∃ ao n cap, e = .returned (.slice ao n cap) ∧ Lab w'.heap.size w' ao n cap (lowerL (joinL (raiseL T) (raiseL G))) ∧ n ≤ n1 + n2 ∧ Below w.heap.size w w' := by
  go_enter Try.func48, Try.ntmps48
  go_wp2_with (first | (go_at_call 44; refine (lraise_b h1 (by omega)).mono ?_; clear h1; rintro e w1 ⟨ao1, m1, cap1, rfl, r1, l1, b1⟩; replace h2 := h2.next b1) | (go_at_call 44; refine (lraise_b h2 (by omega)).mono ?_; rintro e w2 ⟨ao2, m2, cap2, rfl, r2, l2, b2⟩; replace r1 := r1.next b2) | (go_at_call 43; refine (ljoin_b r1 r2 (by omega) (by omega)).mono ?_; rintro e w3 ⟨ao3, m3, cap3, rfl, r3, l3, b3⟩) | (go_at_call 71; refine (llower_b r3 (by omega)).mono ?_; rintro e w4 ⟨ao4, m4, cap4, rfl, r4, l4, b4⟩))
  go_ret
  exact ⟨_, _, _, rfl, r4, by omega, ((b1.trans (b2.mono b1.size)).trans (b3.mono (Nat.le_trans b1.size b2.size))).trans (b4.mono (Nat.le_trans (Nat.le_trans b1.size b2.size) b3.size))⟩
end Go.Proofs.Ytkhnlgbebbhmbaa
