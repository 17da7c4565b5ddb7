/-
  PROVED HERE: plain facts for the statements of layer 3 (no Go text). The labels are fit.
-/
import Derived.Test.YtkhnlgbebbhmbaaChk12
namespace Go.Proofs.Ytkhnlgbebbhmbaa
open Go.ChangeShapes Go.WideShapes Go.ChangeAt Go.RowKit
set_option linter.unusedVariables false

theorem own_nil {L : List (Int × Int)} (h : ownsNo L = true) : owned L = [] := by
  unfold ownsNo at h
  simpa using h
theorem own_pos {L : List (Int × Int)} {n : Nat} (h : (owned L).length = n) (k : ownsNo L = false) : 0 < n := by
  unfold ownsNo at k
  have : ¬ (owned L).length = 0 := by simpa using k
  omega
theorem own_zero {L : List (Int × Int)} {n : Nat} (h : (owned L).length = n) (k : ownsNo L = true) : n = 0 := by
  rw [own_nil k] at h
  exact h.symm
theorem same_leq {A C : List (Int × Int)} (hA : Fit A) (hC : Fit C) : (leqB C A && leqB A C) = sameB A C := by
  rw [Bool.eq_iff_iff, Bool.and_eq_true, sameB_eq]
  exact ⟨fun h => leqB_same hA hC h.2 h.1, fun h => by subst h; exact ⟨leqB_refl hA, leqB_refl hA⟩⟩
theorem leq_join_eq {A B C : List (Int × Int)} (hA : Fit A) (hB : Fit B) (hC : Fit C) : leqB (joinL A B) C = (leqB A C && leqB B C) := by
  rw [Bool.eq_iff_iff, Bool.and_eq_true]
  exact ⟨fun h => ⟨leqB_trans hA (joinL_fit hA hB) hC (leq_j1 hA hB) h, leqB_trans hB (joinL_fit hA hB) hC (leq_j2 hA hB) h⟩, fun h => j_leq hA hB hC h.1 h.2⟩
theorem leq_meet1 {A B C : List (Int × Int)} (hA : Fit A) (hB : Fit B) (hC : Fit C) (h : leqB A C = true) : leqB (meetL A B) C = true := leqB_trans (meetL_fit hA hB) hA hC (m1_leq hA hB) h
theorem leq_meet2 {A B C : List (Int × Int)} (hA : Fit A) (hB : Fit B) (hC : Fit C) (h : leqB B C = true) : leqB (meetL A B) C = true := leqB_trans (meetL_fit hA hB) hB hC (m2_leq hA hB) h
theorem exc_z {A C : List (Int × Int)} {n : Nat} (h : (exc A C).length = n) (hA : Fit A) (hC : Fit C) (k : leqB A C = true) : n = 0 := by
  rw [exc_none hA hC k] at h
  exact h.symm
theorem exc_p {A C : List (Int × Int)} {n : Nat} (h : (exc A C).length = n) (hA : Fit A) (hC : Fit C) (k : leqB A C = false) : 0 < n ∧ ((n : Int) == 0) = false := by
  have := exc_some hA hC k
  exact ⟨by omega, by rw [beq_eq_false_iff_ne]; omega⟩
/-- What hides a thread from an observer is owned, where something at least the thread's label is at most the observer's. -/
theorem told_own {T O W G : List (Int × Int)} (hT : Fit T) (hO : Fit O) (hW : Fit W) (h : leqB T O = true) (k : leqB O W = true) : ownsB T G (exc (raiseL T) W) = true := by
  refine ownsB_of fun c hc => .inl ?_
  have h1 := (exc_iff (raiseL_fit hT) hW c).1 hc
  have h2 := (leqB_iff hT hO).1 h c
  have h3 := (leqB_iff hO hW).1 k c
  rw [raiseL_get hT] at h1
  split at h1
  · assumption
  · omega
theorem become_iff {T K N : List (Int × Int)} : (!abvB N && (leqB T N && leqB N K)) = true ↔ abvB N = false ∧ leqB T N = true ∧ leqB N K = true := by simp
theorem spawn_iff {T K N M : List (Int × Int)} : ((!abvB N && !abvB M) && (leqB T N && (leqB N M && leqB M K))) = true ↔ abvB N = false ∧ abvB M = false ∧ leqB T N = true ∧ leqB N M = true ∧ leqB M K = true := by simp [and_assoc]
theorem become_step {T K N M : List (Int × Int)} (hT : Fit T) (hN : Fit N) (hM : Fit M) (h : (!abvB N && (leqB T N && leqB N K)) = true) (k : (!abvB M && (leqB N M && leqB M K)) = true) : (!abvB M && (leqB T M && leqB M K)) = true := by
  rw [become_iff] at *
  exact ⟨k.1, leqB_trans hT hN hM h.2.1 k.2.1, k.2.2⟩
theorem spawn_become {T K N M : List (Int × Int)} (hN : Fit N) (hM : Fit M) (hK : Fit K) (h : ((!abvB N && !abvB M) && (leqB T N && (leqB N M && leqB M K))) = true) : (!abvB N && (leqB T N && leqB N K)) = true := by
  rw [spawn_iff] at h
  rw [become_iff]
  exact ⟨h.1, h.2.2.1, leqB_trans hN hM hK h.2.2.2.1 h.2.2.2.2⟩
theorem spawn_self {T K N M : List (Int × Int)} (hT : Fit T) (hN : Fit N) (hM : Fit M) (h : ((!abvB N && !abvB M) && (leqB T N && (leqB N M && leqB M K))) = true) : ((!abvB M && !abvB M) && (leqB T M && (leqB M M && leqB M K))) = true := by
  rw [spawn_iff] at *
  exact ⟨h.2.1, h.2.1, leqB_trans hT hN hM h.2.2.1 h.2.2.2.1, leqB_refl hM, h.2.2.2.2⟩
theorem become_self {T K : List (Int × Int)} (hT : Fit T) (h : abvB T = false) : (!abvB T && (leqB T T && leqB T K)) = leqB T K := by rw [h, leqB_refl hT]; simp
theorem bool_no {b c : Bool} (h : b = true → c = true) (k : c = false) : b = false := by cases b with | false => rfl | true => rw [h rfl] at k; cases k
/-- Who was hidden and is seen behind a change to n, at least its own label, owned what hid it. -/
theorem back_own {T N W G : List (Int × Int)} (hT : Fit T) (hN : Fit N) (hW : Fit W) (h : leqB T N = true) (k : leqB (raiseL N) W = true) : ownsB T G (exc (raiseL T) W) = true :=
  told_own hT hN hW h (leqB_trans hN (raiseL_fit hN) hW (leq_up hN) k)
/-- Behind a gate it or the gate did. -/
theorem gate_get {T G N : List (Int × Int)} (hT : Fit T) (hG : Fit G) (hN : Fit N) (aT : abvB T = false) (aG : abvB G = false) (h : leqB (lowerL (joinL (raiseL T) (raiseL G))) N = true) (c : Int) : get T c = 0 ∨ get G c = 0 ∨ (get T c ≤ get N c ∧ 1 ≤ get N c) := by
  have fJ := joinL_fit (raiseL_fit hT) (raiseL_fit hG)
  have h1 := (leqB_iff (lowerL_fit fJ) hN).1 h c
  rw [lowerL_get fJ, joinL_get (raiseL_fit hT) (raiseL_fit hG)] at h1
  have t5 := abv_get hT aT c
  have g5 := abv_get hG aG c
  have tr := hT.range c
  have gr := hG.range c
  by_cases t0 : get T c = 0
  · exact .inl t0
  · by_cases g0 : get G c = 0
    · exact .inr (.inl g0)
    · rw [raise_plain hT t0, raise_plain hG g0] at h1
      refine .inr (.inr ?_)
      rcases Int.le_total (get T c) (get G c) with hm | hm
      · rw [Int.max_eq_right hm] at h1
        split at h1 <;> omega
      · rw [Int.max_eq_left hm] at h1
        split at h1 <;> omega
theorem gate_own {T G N W : List (Int × Int)} (hT : Fit T) (hG : Fit G) (hN : Fit N) (hW : Fit W) (aT : abvB T = false) (aG : abvB G = false) (h : leqB (lowerL (joinL (raiseL T) (raiseL G))) N = true) (k : leqB (raiseL N) W = true) : ownsB T G (exc (raiseL T) W) = true := by
  refine ownsB_of fun c hc => ?_
  have h1 := (exc_iff (raiseL_fit hT) hW c).1 hc
  have h2 := (leqB_iff (raiseL_fit hN) hW).1 k c
  have h3 := raise_ge hN c
  rcases gate_get hT hG hN aT aG h c with e | e | e
  · exact .inl e
  · exact .inr e
  · refine .inl ?_
    rw [raiseL_get hT] at h1
    split at h1
    · assumption
    · omega
theorem own_in {N : List (Int × Int)} (hN : Fit N) {k : Nat} (hk : k < (owned N).length) : get N ((owned N).getD k 0) = 0 := by
  obtain ⟨b, r⟩ := hN.rc
  exact owned_at r hk
theorem leq_own {T N : List (Int × Int)} (hT : Fit T) (hN : Fit N) (h : leqB T N = true) {c : Int} (e : get N c = 0) : get T c = 0 := by
  have := (leqB_iff hT hN).1 h c
  have := (hT.range c).1
  omega
theorem gate_zero {T G N : List (Int × Int)} (hT : Fit T) (hG : Fit G) (hN : Fit N) (aT : abvB T = false) (aG : abvB G = false) (h : leqB (lowerL (joinL (raiseL T) (raiseL G))) N = true) {c : Int} (e : get N c = 0) (t0 : get T c ≠ 0) : get G c = 0 := by
  rcases gate_get hT hG hN aT aG h c with e' | e' | e'
  · exact absurd e' t0
  · exact e'
  · omega
theorem enter_iff {T K G Q N M : List (Int × Int)} (h : ((!abvB N && !abvB M) && (leqB T Q && (leqB (lowerL (joinL (raiseL T) (raiseL G))) N && (leqB N M && leqB M (joinL K Q))))) = true) : leqB (lowerL (joinL (raiseL T) (raiseL G))) N = true := by
  simp only [Bool.and_eq_true] at h
  exact h.2.2.1
theorem neq0 {x : Int} (h : x ≠ 0) : (x == 0) = false ∧ (x != 0) = true := by simp [h]
theorem fit2_any (w : World) (a0 a1 : Option Addr) (n0 c0 n1 c1 : Nat) (L0 L1 : List (Int × Int)) (h : Labs w [(a0, n0, c0, L0), (a1, n1, c1, L1)]) :
    Calls Try.prog 9 #[.slice (some ⟨w.heap.size, 0, none⟩) 2 2] (w.alloc (.cells #[.slice a0 n0 c0, .slice a1 n1 c1] 23)) fun e w' => e = .returned (.bool (okB [(a0, n0, c0, L0), (a1, n1, c1, L1)])) ∧ Below w.heap.size w w' :=
  fitRow w [(a0, n0, c0, L0), (a1, n1, c1, L1)] (by simp) h
theorem fit3_any (w : World) (a0 a1 a2 : Option Addr) (n0 c0 n1 c1 n2 c2 : Nat) (L0 L1 L2 : List (Int × Int)) (h : Labs w [(a0, n0, c0, L0), (a1, n1, c1, L1), (a2, n2, c2, L2)]) :
    Calls Try.prog 9 #[.slice (some ⟨w.heap.size, 0, none⟩) 3 3] (w.alloc (.cells #[.slice a0 n0 c0, .slice a1 n1 c1, .slice a2 n2 c2] 23)) fun e w' => e = .returned (.bool (okB [(a0, n0, c0, L0), (a1, n1, c1, L1), (a2, n2, c2, L2)])) ∧ Below w.heap.size w w' :=
  fitRow w [(a0, n0, c0, L0), (a1, n1, c1, L1), (a2, n2, c2, L2)] (by simp) h
theorem fit4_any (w : World) (a0 a1 a2 a3 : Option Addr) (n0 c0 n1 c1 n2 c2 n3 c3 : Nat) (L0 L1 L2 L3 : List (Int × Int)) (h : Labs w [(a0, n0, c0, L0), (a1, n1, c1, L1), (a2, n2, c2, L2), (a3, n3, c3, L3)]) :
    Calls Try.prog 9 #[.slice (some ⟨w.heap.size, 0, none⟩) 4 4] (w.alloc (.cells #[.slice a0 n0 c0, .slice a1 n1 c1, .slice a2 n2 c2, .slice a3 n3 c3] 23)) fun e w' => e = .returned (.bool (okB [(a0, n0, c0, L0), (a1, n1, c1, L1), (a2, n2, c2, L2), (a3, n3, c3, L3)])) ∧ Below w.heap.size w w' :=
  fitRow w [(a0, n0, c0, L0), (a1, n1, c1, L1), (a2, n2, c2, L2), (a3, n3, c3, L3)] (by simp) h
theorem fit5_any (w : World) (a0 a1 a2 a3 a4 : Option Addr) (n0 c0 n1 c1 n2 c2 n3 c3 n4 c4 : Nat) (L0 L1 L2 L3 L4 : List (Int × Int)) (h : Labs w [(a0, n0, c0, L0), (a1, n1, c1, L1), (a2, n2, c2, L2), (a3, n3, c3, L3), (a4, n4, c4, L4)]) :
    Calls Try.prog 9 #[.slice (some ⟨w.heap.size, 0, none⟩) 5 5] (w.alloc (.cells #[.slice a0 n0 c0, .slice a1 n1 c1, .slice a2 n2 c2, .slice a3 n3 c3, .slice a4 n4 c4] 23)) fun e w' => e = .returned (.bool (okB [(a0, n0, c0, L0), (a1, n1, c1, L1), (a2, n2, c2, L2), (a3, n3, c3, L3), (a4, n4, c4, L4)])) ∧ Below w.heap.size w w' :=
  fitRow w [(a0, n0, c0, L0), (a1, n1, c1, L1), (a2, n2, c2, L2), (a3, n3, c3, L3), (a4, n4, c4, L4)] (by simp) h
theorem fit6_any (w : World) (a0 a1 a2 a3 a4 a5 : Option Addr) (n0 c0 n1 c1 n2 c2 n3 c3 n4 c4 n5 c5 : Nat) (L0 L1 L2 L3 L4 L5 : List (Int × Int)) (h : Labs w [(a0, n0, c0, L0), (a1, n1, c1, L1), (a2, n2, c2, L2), (a3, n3, c3, L3), (a4, n4, c4, L4), (a5, n5, c5, L5)]) :
    Calls Try.prog 9 #[.slice (some ⟨w.heap.size, 0, none⟩) 6 6] (w.alloc (.cells #[.slice a0 n0 c0, .slice a1 n1 c1, .slice a2 n2 c2, .slice a3 n3 c3, .slice a4 n4 c4, .slice a5 n5 c5] 23)) fun e w' => e = .returned (.bool (okB [(a0, n0, c0, L0), (a1, n1, c1, L1), (a2, n2, c2, L2), (a3, n3, c3, L3), (a4, n4, c4, L4), (a5, n5, c5, L5)])) ∧ Below w.heap.size w w' :=
  fitRow w [(a0, n0, c0, L0), (a1, n1, c1, L1), (a2, n2, c2, L2), (a3, n3, c3, L3), (a4, n4, c4, L4), (a5, n5, c5, L5)] (by simp) h
theorem fit7_any (w : World) (a0 a1 a2 a3 a4 a5 a6 : Option Addr) (n0 c0 n1 c1 n2 c2 n3 c3 n4 c4 n5 c5 n6 c6 : Nat) (L0 L1 L2 L3 L4 L5 L6 : List (Int × Int)) (h : Labs w [(a0, n0, c0, L0), (a1, n1, c1, L1), (a2, n2, c2, L2), (a3, n3, c3, L3), (a4, n4, c4, L4), (a5, n5, c5, L5), (a6, n6, c6, L6)]) :
    Calls Try.prog 9 #[.slice (some ⟨w.heap.size, 0, none⟩) 7 7] (w.alloc (.cells #[.slice a0 n0 c0, .slice a1 n1 c1, .slice a2 n2 c2, .slice a3 n3 c3, .slice a4 n4 c4, .slice a5 n5 c5, .slice a6 n6 c6] 23)) fun e w' => e = .returned (.bool (okB [(a0, n0, c0, L0), (a1, n1, c1, L1), (a2, n2, c2, L2), (a3, n3, c3, L3), (a4, n4, c4, L4), (a5, n5, c5, L5), (a6, n6, c6, L6)])) ∧ Below w.heap.size w w' :=
  fitRow w [(a0, n0, c0, L0), (a1, n1, c1, L1), (a2, n2, c2, L2), (a3, n3, c3, L3), (a4, n4, c4, L4), (a5, n5, c5, L5), (a6, n6, c6, L6)] (by simp) h
end Go.Proofs.Ytkhnlgbebbhmbaa
