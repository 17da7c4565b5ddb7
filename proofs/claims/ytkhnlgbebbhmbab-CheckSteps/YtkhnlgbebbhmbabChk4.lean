/-
  PROVED HERE: what Observe, Modify, Place, Create, Spawn, Become, Clear and Enter of package check return when they are called (contracts over this translation). Labels have fewer than 2^20 pairs.
-/
import Derived.Test.YtkhnlgbebbhmbabChk3
namespace Go.Proofs.Ytkhnlgbebbhmbab
open Go.ChangeShapes Go.WideShapes Go.ChangeAt Go.RowKit
set_option linter.unusedVariables false

theorem rising2_any (w : World) {a1 a2 : Option Addr} {n1 n2 c1 c2 : Nat} {A1 A2 : List (Int × Int)} (h1 : Lab w.heap.size w a1 n1 c1 A1) (h2 : Lab w.heap.size w a2 n2 c2 A2) :
    Calls Try.prog 16 #[.slice (some ⟨w.heap.size, 0, none⟩) 2 2] (w.alloc (.cells #[.slice a1 n1 c1, .slice a2 n2 c2] 23)) fun e w' => ∃ q, e = .returned q ∧ Asks w' q (leqB A1 A2) ∧ Below w.heap.size w w' := by
  refine (rising_any (m := 2) (ls := [(a1, n1, c1, A1), (a2, n2, c2, A2)]) rfl (by omega) (by omega) (lrow_new [(a1, n1, c1, A1), (a2, n2, c2, A2)] (((Labs.nil w).push h2).push h1))).mono ?_
  rintro e w' ⟨q, rfl, ha, hb⟩
  refine ⟨q, rfl, ?_, below_new _ _ hb⟩
  have e : risB [(a1, n1, c1, A1), (a2, n2, c2, A2)] = leqB A1 A2 := by simp [risB, labOf]
  rw [e] at ha
  exact ha
theorem rising3_any (w : World) {a1 a2 a3 : Option Addr} {n1 n2 n3 c1 c2 c3 : Nat} {A1 A2 A3 : List (Int × Int)} (h1 : Lab w.heap.size w a1 n1 c1 A1) (h2 : Lab w.heap.size w a2 n2 c2 A2) (h3 : Lab w.heap.size w a3 n3 c3 A3) :
    Calls Try.prog 16 #[.slice (some ⟨w.heap.size, 0, none⟩) 3 3] (w.alloc (.cells #[.slice a1 n1 c1, .slice a2 n2 c2, .slice a3 n3 c3] 23)) fun e w' => ∃ q, e = .returned q ∧ Asks w' q (leqB A1 A2 && leqB A2 A3) ∧ Below w.heap.size w w' := by
  refine (rising_any (m := 3) (ls := [(a1, n1, c1, A1), (a2, n2, c2, A2), (a3, n3, c3, A3)]) rfl (by omega) (by omega) (lrow_new [(a1, n1, c1, A1), (a2, n2, c2, A2), (a3, n3, c3, A3)] ((((Labs.nil w).push h3).push h2).push h1))).mono ?_
  rintro e w' ⟨q, rfl, ha, hb⟩
  refine ⟨q, rfl, ?_, below_new _ _ hb⟩
  have e : risB [(a1, n1, c1, A1), (a2, n2, c2, A2), (a3, n3, c3, A3)] = (leqB A1 A2 && leqB A2 A3) := by simp [risB, labOf, List.range_succ]
  rw [e] at ha
  exact ha
theorem rising4_any (w : World) {a1 a2 a3 a4 : Option Addr} {n1 n2 n3 n4 c1 c2 c3 c4 : Nat} {A1 A2 A3 A4 : List (Int × Int)} (h1 : Lab w.heap.size w a1 n1 c1 A1) (h2 : Lab w.heap.size w a2 n2 c2 A2) (h3 : Lab w.heap.size w a3 n3 c3 A3) (h4 : Lab w.heap.size w a4 n4 c4 A4) :
    Calls Try.prog 16 #[.slice (some ⟨w.heap.size, 0, none⟩) 4 4] (w.alloc (.cells #[.slice a1 n1 c1, .slice a2 n2 c2, .slice a3 n3 c3, .slice a4 n4 c4] 23)) fun e w' => ∃ q, e = .returned q ∧ Asks w' q (leqB A1 A2 && (leqB A2 A3 && leqB A3 A4)) ∧ Below w.heap.size w w' := by
  refine (rising_any (m := 4) (ls := [(a1, n1, c1, A1), (a2, n2, c2, A2), (a3, n3, c3, A3), (a4, n4, c4, A4)]) rfl (by omega) (by omega) (lrow_new [(a1, n1, c1, A1), (a2, n2, c2, A2), (a3, n3, c3, A3), (a4, n4, c4, A4)] (((((Labs.nil w).push h4).push h3).push h2).push h1))).mono ?_
  rintro e w' ⟨q, rfl, ha, hb⟩
  refine ⟨q, rfl, ?_, below_new _ _ hb⟩
  have e : risB [(a1, n1, c1, A1), (a2, n2, c2, A2), (a3, n3, c3, A3), (a4, n4, c4, A4)] = (leqB A1 A2 && (leqB A2 A3 && leqB A3 A4)) := by simp [risB, labOf, List.range_succ]
  rw [e] at ha
  exact ha
theorem noneAbove1_any (w : World) {a1 : Option Addr} {n1 c1 : Nat} {A1 : List (Int × Int)} (h1 : Lab w.heap.size w a1 n1 c1 A1) :
    Calls Try.prog 15 #[.slice (some ⟨w.heap.size, 0, none⟩) 1 1] (w.alloc (.cells #[.slice a1 n1 c1] 23)) fun e w' => ∃ q, e = .returned q ∧ Asks w' q (!abvB A1) ∧ Below w.heap.size w w' := by
  refine (noneAbove_any (m := 1) (ls := [(a1, n1, c1, A1)]) rfl (by omega) (lrow_new [(a1, n1, c1, A1)] ((Labs.nil w).push h1))).mono ?_
  rintro e w' ⟨q, rfl, ha, hb⟩
  refine ⟨q, rfl, ?_, below_new _ _ hb⟩
  have e : abvsB [(a1, n1, c1, A1)] = abvB A1 := by simp [abvsB, labOf]
  rw [e] at ha
  exact ha
theorem noneAbove2_any (w : World) {a1 a2 : Option Addr} {n1 n2 c1 c2 : Nat} {A1 A2 : List (Int × Int)} (h1 : Lab w.heap.size w a1 n1 c1 A1) (h2 : Lab w.heap.size w a2 n2 c2 A2) :
    Calls Try.prog 15 #[.slice (some ⟨w.heap.size, 0, none⟩) 2 2] (w.alloc (.cells #[.slice a1 n1 c1, .slice a2 n2 c2] 23)) fun e w' => ∃ q, e = .returned q ∧ Asks w' q (!abvB A1 && !abvB A2) ∧ Below w.heap.size w w' := by
  refine (noneAbove_any (m := 2) (ls := [(a1, n1, c1, A1), (a2, n2, c2, A2)]) rfl (by omega) (lrow_new [(a1, n1, c1, A1), (a2, n2, c2, A2)] (((Labs.nil w).push h2).push h1))).mono ?_
  rintro e w' ⟨q, rfl, ha, hb⟩
  refine ⟨q, rfl, ?_, below_new _ _ hb⟩
  have e : (!abvsB [(a1, n1, c1, A1), (a2, n2, c2, A2)]) = (!abvB A1 && !abvB A2) := by simp [abvsB, labOf, List.range_succ]
  rw [e] at ha
  exact ha

def ownsNo (L : List (Int × Int)) : Bool := (owned L).length == 0
theorem sees_any {w : World} {a1 a2 : Option Addr} {n1 n2 c1 c2 : Nat} {T O : List (Int × Int)} (h1 : Lab w.heap.size w a1 n1 c1 T) (h2 : Lab w.heap.size w a2 n2 c2 O) (k1 : n1 < 1048576) :
    Calls Try.prog 22 #[.slice a1 n1 c1, .slice a2 n2 c2] w fun e w' => ∃ q, e = .returned q ∧ Asks w' q (leqB O (raiseL T)) ∧ Below w.heap.size w w' := by
  go_enter Try.func22, Try.ntmps22
  go_wp2_with (first | (go_at_call 21; refine (lraise_b h1 (by omega)).mono ?_; rintro e w1 ⟨ao1, m1, cap1, rfl, hr, hl, hb1⟩) | (go_at_call 16; refine (rising2_any w1 (h2.next hb1) hr).mono ?_; rintro e w2 ⟨q, rfl, hq, hb2⟩))
  go_ret
  exact ⟨q, rfl, hq, hb1.trans (hb2.mono hb1.size)⟩
end Go.Proofs.Ytkhnlgbebbhmbab
