/-
  PROVED HERE: plain facts for the statements of layer 3 (no Go text). The labels are fit.
-/
import Derived.Test.YtkhnlgbebbhmbaaChk12
namespace Go.Proofs.Ytkhnlgbebbhmbaa
open Go.ChangeShapes Go.WideShapes Go.ChangeAt Go.RowKit
set_option linter.unusedVariables false

theorem own_nil {L : List (Int × Int)} (h : ownsNo L = true) : owned L = [] := by
  unfold ownsNo at h
  simpa using h
theorem own_pos {L : List (Int × Int)} {n : Nat} (h : (owned L).length = n) (k : ownsNo L = false) : 0 < n := by
  unfold ownsNo at k
  have : ¬ (owned L).length = 0 := by simpa using k
  omega
theorem own_zero {L : List (Int × Int)} {n : Nat} (h : (owned L).length = n) (k : ownsNo L = true) : n = 0 := by
  rw [own_nil k] at h
  exact h.symm
theorem same_leq {A C : List (Int × Int)} (hA : Fit A) (hC : Fit C) : (leqB C A && leqB A C) = sameB A C := by
  rw [Bool.eq_iff_iff, Bool.and_eq_true, sameB_eq]
  exact ⟨fun h => leqB_same hA hC h.2 h.1, fun h => by subst h; exact ⟨leqB_refl hA, leqB_refl hA⟩⟩
theorem fit2_any (w : World) (a0 a1 : Option Addr) (n0 c0 n1 c1 : Nat) (L0 L1 : List (Int × Int)) (h : Labs w [(a0, n0, c0, L0), (a1, n1, c1, L1)]) :
    Calls Try.prog 9 #[.slice (some ⟨w.heap.size, 0, none⟩) 2 2] (w.alloc (.cells #[.slice a0 n0 c0, .slice a1 n1 c1] 23)) fun e w' => e = .returned (.bool (okB [(a0, n0, c0, L0), (a1, n1, c1, L1)])) ∧ Below w.heap.size w w' :=
  fitRow w [(a0, n0, c0, L0), (a1, n1, c1, L1)] (by simp) h
theorem fit3_any (w : World) (a0 a1 a2 : Option Addr) (n0 c0 n1 c1 n2 c2 : Nat) (L0 L1 L2 : List (Int × Int)) (h : Labs w [(a0, n0, c0, L0), (a1, n1, c1, L1), (a2, n2, c2, L2)]) :
    Calls Try.prog 9 #[.slice (some ⟨w.heap.size, 0, none⟩) 3 3] (w.alloc (.cells #[.slice a0 n0 c0, .slice a1 n1 c1, .slice a2 n2 c2] 23)) fun e w' => e = .returned (.bool (okB [(a0, n0, c0, L0), (a1, n1, c1, L1), (a2, n2, c2, L2)])) ∧ Below w.heap.size w w' :=
  fitRow w [(a0, n0, c0, L0), (a1, n1, c1, L1), (a2, n2, c2, L2)] (by simp) h
theorem fit4_any (w : World) (a0 a1 a2 a3 : Option Addr) (n0 c0 n1 c1 n2 c2 n3 c3 : Nat) (L0 L1 L2 L3 : List (Int × Int)) (h : Labs w [(a0, n0, c0, L0), (a1, n1, c1, L1), (a2, n2, c2, L2), (a3, n3, c3, L3)]) :
    Calls Try.prog 9 #[.slice (some ⟨w.heap.size, 0, none⟩) 4 4] (w.alloc (.cells #[.slice a0 n0 c0, .slice a1 n1 c1, .slice a2 n2 c2, .slice a3 n3 c3] 23)) fun e w' => e = .returned (.bool (okB [(a0, n0, c0, L0), (a1, n1, c1, L1), (a2, n2, c2, L2), (a3, n3, c3, L3)])) ∧ Below w.heap.size w w' :=
  fitRow w [(a0, n0, c0, L0), (a1, n1, c1, L1), (a2, n2, c2, L2), (a3, n3, c3, L3)] (by simp) h
theorem fit5_any (w : World) (a0 a1 a2 a3 a4 : Option Addr) (n0 c0 n1 c1 n2 c2 n3 c3 n4 c4 : Nat) (L0 L1 L2 L3 L4 : List (Int × Int)) (h : Labs w [(a0, n0, c0, L0), (a1, n1, c1, L1), (a2, n2, c2, L2), (a3, n3, c3, L3), (a4, n4, c4, L4)]) :
    Calls Try.prog 9 #[.slice (some ⟨w.heap.size, 0, none⟩) 5 5] (w.alloc (.cells #[.slice a0 n0 c0, .slice a1 n1 c1, .slice a2 n2 c2, .slice a3 n3 c3, .slice a4 n4 c4] 23)) fun e w' => e = .returned (.bool (okB [(a0, n0, c0, L0), (a1, n1, c1, L1), (a2, n2, c2, L2), (a3, n3, c3, L3), (a4, n4, c4, L4)])) ∧ Below w.heap.size w w' :=
  fitRow w [(a0, n0, c0, L0), (a1, n1, c1, L1), (a2, n2, c2, L2), (a3, n3, c3, L3), (a4, n4, c4, L4)] (by simp) h
theorem fit6_any (w : World) (a0 a1 a2 a3 a4 a5 : Option Addr) (n0 c0 n1 c1 n2 c2 n3 c3 n4 c4 n5 c5 : Nat) (L0 L1 L2 L3 L4 L5 : List (Int × Int)) (h : Labs w [(a0, n0, c0, L0), (a1, n1, c1, L1), (a2, n2, c2, L2), (a3, n3, c3, L3), (a4, n4, c4, L4), (a5, n5, c5, L5)]) :
    Calls Try.prog 9 #[.slice (some ⟨w.heap.size, 0, none⟩) 6 6] (w.alloc (.cells #[.slice a0 n0 c0, .slice a1 n1 c1, .slice a2 n2 c2, .slice a3 n3 c3, .slice a4 n4 c4, .slice a5 n5 c5] 23)) fun e w' => e = .returned (.bool (okB [(a0, n0, c0, L0), (a1, n1, c1, L1), (a2, n2, c2, L2), (a3, n3, c3, L3), (a4, n4, c4, L4), (a5, n5, c5, L5)])) ∧ Below w.heap.size w w' :=
  fitRow w [(a0, n0, c0, L0), (a1, n1, c1, L1), (a2, n2, c2, L2), (a3, n3, c3, L3), (a4, n4, c4, L4), (a5, n5, c5, L5)] (by simp) h
theorem fit7_any (w : World) (a0 a1 a2 a3 a4 a5 a6 : Option Addr) (n0 c0 n1 c1 n2 c2 n3 c3 n4 c4 n5 c5 n6 c6 : Nat) (L0 L1 L2 L3 L4 L5 L6 : List (Int × Int)) (h : Labs w [(a0, n0, c0, L0), (a1, n1, c1, L1), (a2, n2, c2, L2), (a3, n3, c3, L3), (a4, n4, c4, L4), (a5, n5, c5, L5), (a6, n6, c6, L6)]) :
    Calls Try.prog 9 #[.slice (some ⟨w.heap.size, 0, none⟩) 7 7] (w.alloc (.cells #[.slice a0 n0 c0, .slice a1 n1 c1, .slice a2 n2 c2, .slice a3 n3 c3, .slice a4 n4 c4, .slice a5 n5 c5, .slice a6 n6 c6] 23)) fun e w' => e = .returned (.bool (okB [(a0, n0, c0, L0), (a1, n1, c1, L1), (a2, n2, c2, L2), (a3, n3, c3, L3), (a4, n4, c4, L4), (a5, n5, c5, L5), (a6, n6, c6, L6)])) ∧ Below w.heap.size w w' :=
  fitRow w [(a0, n0, c0, L0), (a1, n1, c1, L1), (a2, n2, c2, L2), (a3, n3, c3, L3), (a4, n4, c4, L4), (a5, n5, c5, L5), (a6, n6, c6, L6)] (by simp) h
end Go.Proofs.Ytkhnlgbebbhmbaa
