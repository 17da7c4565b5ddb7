/-
  PROVED HERE: codec's need and caught (contracts over this translation): what is thrown is caught at the face.
-/
import Derived.Test.YtbmfehkahjeobaaDoorLv
import Derived.Test.YtbmfehkahjeobaaDoorLabCon3
import Derived.Defers
import Derived.Recover
import Derived.Laws.Pointers
import Derived.Laws.EntriesVeiled
import Derived.WalkSmall
import Derived.Shelf.Abstract
namespace Go.Proofs.YtbmfehkahjeobaaDoor
open Go.RowKit Go.Shelf
set_option linter.unusedVariables false

def thrown (k : Int) : List PanicEntry := [{ v := .iface 25 (.int .i64 k), recovered := false }]

theorem need_yes (k : Int) (w : World) : Calls Tryd.prog 24 #[.bool true, .int .i64 k] w fun e w' => e = .returned (.tuple #[]) ∧ w = w' := by
  go_enter Tryd.func24, Tryd.ntmps24
  go_wp2
  go_end0
  exact ⟨rfl, rfl⟩
theorem need_no (k : Int) (w : World) : Calls Tryd.prog 24 #[.bool false, .int .i64 k] w fun e w' => e = .panicked (thrown k) ∧ w = w' := by
  go_enter Tryd.func24, Tryd.ntmps24
  go_wp2
  exact ⟨rfl, rfl, rfl⟩

theorem need_no' {b : Bool} (hb : b = false) (k : Int) (w : World) : Calls Tryd.prog 24 #[.bool b, .int .i64 k] w fun e w' => e = .panicked (thrown k) ∧ w = w' := by subst hb; exact need_no k w
theorem need_yes' {b : Bool} (hb : b = true) (k : Int) (w : World) : Calls Tryd.prog 24 #[.bool b, .int .i64 k] w fun e w' => e = .returned (.tuple #[]) ∧ w = w' := by subst hb; exact need_yes k w

theorem ta_hit (k : Int) (t : Nat) (w : World) : (Instr.typeAssert (.iface 25 (.int .i64 k)) t 25 true).run Tryd.prog w = .ok (.tuple #[.int .i64 k, .bool true]) w := by
  simp [Instr.typeAssert, run_underlying Tryd.underlying25]
theorem ta_none (t : Nat) (w : World) : (Instr.typeAssert .nilIface t 25 true).run Tryd.prog w = .ok (.tuple #[.int .i64 0, .bool false]) w := by
  have hz : (zeroValue 25).run Tryd.prog w = .ok (.int .i64 0) w := by kernel_rfl
  simp [Instr.typeAssert, run_underlying Tryd.underlying25, hz]

set_option maxRecDepth 100000 in
theorem catch_panicking (p : Addr) (x k : Int) (older : List PanicEntry) (w : World) (hc : w.cell? p = some (.int .i64 x)) (hz : w.frozen? p = false) :
    CallsD Tryd.prog 21 #[.pointer (some p)] (.panicking ({ v := .iface 25 (.int .i64 k), recovered := false } :: older)) w fun e u' w' =>
      e = .returned (.tuple #[]) ∧ u' = .panicking ({ v := .iface 25 (.int .i64 k), recovered := true } :: older) ∧ w' = w.setCell p (.int .i64 k) := by
  refine callsD_of_wpS Tryd.func21 rfl fun c₀ cs hu => ?_
  apply wpS_seq
  apply wpS_region
  simp [wpOpsS, go_sem, recoverD, hu, Tryd.ntmps21, Exit.thenS, ta_hit]
  apply wpS_seq
  apply wpS_region
  simp [wpOpsS, go_sem, Exit.thenS]
  refine wpS_cond (t := true) (by simp [Act.eval, Array.replicate]) ?_
  simp only [if_true]
  apply wpS_region
  simp [wpOpsS, go_sem, hc, hz, bodyPostS, results, Tryd.results21]

set_option maxRecDepth 100000 in
theorem catch_idle (p : Addr) (w : World) :
    CallsD Tryd.prog 21 #[.pointer (some p)] .returning w fun e u' w' => e = .returned (.tuple #[]) ∧ u' = .returning ∧ w' = w := by
  refine callsD_of_wpS Tryd.func21 rfl fun c₀ cs hu => ?_
  apply wpS_seq
  apply wpS_region
  simp [wpOpsS, go_sem, recoverD, hu, Tryd.ntmps21, Exit.thenS, ta_none]
  apply wpS_seq
  apply wpS_region
  simp [wpOpsS, go_sem, Exit.thenS]
  refine wpS_cond (t := false) (by simp [Act.eval, Array.replicate]) ?_
  simp only [Bool.false_eq_true, if_false]
  refine wpS_of_wp (wp_skip ?_)
  cases c₀
  simp_all [bodyPostS, results, Tryd.results21]

theorem errCell (w w1 : World) (hb : Below (w.heap.size + 1) (w.alloc (.cells #[.int .i64 0] 25)) w1) : w1.cell? ⟨w.heap.size, 0, none⟩ = some (.int .i64 0) ∧ w1.frozen? ⟨w.heap.size, 0, none⟩ = false :=
  ⟨(hb.cell (p := ⟨w.heap.size, 0, none⟩) (Nat.lt_succ_self _)).trans (by simp), (hb.frozen (p := ⟨w.heap.size, 0, none⟩) (Nat.lt_succ_self _)).trans (by simp)⟩

/-- What a reader tells is told, beside no error. -/
theorem caught_ok (f : Nat) (lb : Array Value) (ef : ∀ args w, (callFunc f args).run Tryd.prog w = .ok (.enter f args) w) (R : Option Addr → Nat → Nat → World → Prop) (w : World)
    (h : Calls Tryd.prog f lb (w.alloc (.cells #[.int .i64 0] 25)) fun e w' => ∃ ao n cap, e = .returned (.slice ao n cap) ∧ R ao n cap w' ∧ Below (w.heap.size + 1) (w.alloc (.cells #[.int .i64 0] 25)) w') :
    Calls Tryd.prog 10 #[.func (.func f) #[] lb] w fun e w' => ∃ ao n cap w1, e = .returned (.tuple #[.slice ao n cap, .int .i64 0]) ∧ R ao n cap w1 ∧ Below (w.heap.size + 1) (w.alloc (.cells #[.int .i64 0] 25)) w1 ∧ w' = w1.setCell ⟨w.heap.size, 0, none⟩ (.int .i64 0) := by
  have hmf : ∀ (fn : Fn) (first cap : Array Value) (w : World), (Instr.makeFunc fn first cap).run Tryd.prog w = .ok (.func fn first cap) w := fun _ _ _ _ => rfl
  go_enter_defers Tryd.func10, Tryd.ntmps10
  go_wp2_with (go_at_fn f; refine h.mono ?_; rintro e w1 ⟨ao, n, cap, rfl, hR, hb⟩; obtain ⟨hc1, hz1⟩ := errCell w w1 hb)
  refine leaves_cons (f := 21) (args := #[.pointer (some ⟨w.heap.size, 0, none⟩)]) (by simp) (by simp [go_sem]) ?_
  refine (catch_idle ⟨w.heap.size, 0, none⟩ _).mono ?_
  rintro e u' w'' ⟨rfl, rfl, rfl⟩
  have hcs : (w1.setCell ⟨w.heap.size, 0, none⟩ (.int .i64 0)).cell? ⟨w.heap.size, 0, none⟩ = some (.int .i64 0) := World.cell?_setCell_same' _ _ _ (by rw [hc1]; rfl)
  simp [Leaves, settle, results, Tryd.results10, go_sem, hcs]
  exact ⟨ao, n, cap, ⟨rfl, rfl, rfl⟩, w1, hR, hb, rfl⟩

theorem caught_err (f : Nat) (lb : Array Value) (ef : ∀ args w, (callFunc f args).run Tryd.prog w = .ok (.enter f args) w) (k : Int) (w : World)
    (h : Calls Tryd.prog f lb (w.alloc (.cells #[.int .i64 0] 25)) fun e w' => e = .panicked (thrown k) ∧ Below (w.heap.size + 1) (w.alloc (.cells #[.int .i64 0] 25)) w') :
    Calls Tryd.prog 10 #[.func (.func f) #[] lb] w fun e w' => e = .returned (.tuple #[.slice none 0 0, .int .i64 k]) ∧ Below w.heap.size w w' := by
  have hmf : ∀ (fn : Fn) (first cap : Array Value) (w : World), (Instr.makeFunc fn first cap).run Tryd.prog w = .ok (.func fn first cap) w := fun _ _ _ _ => rfl
  go_enter_defers Tryd.func10, Tryd.ntmps10
  go_wp2_with (go_at_fn f; refine h.mono ?_; rintro e w1 ⟨rfl, hb⟩; dsimp only [thrown])
  obtain ⟨hc1, hz1⟩ := errCell w w1 hb
  refine leaves_cons (f := 21) (args := #[.pointer (some ⟨w.heap.size, 0, none⟩)]) (by simp) (by simp [go_sem]) ?_
  refine (catch_panicking ⟨w.heap.size, 0, none⟩ 0 k [] _ hc1 hz1).mono ?_
  rintro e u' w'' ⟨rfl, rfl, rfl⟩
  have hcs : (w1.setCell ⟨w.heap.size, 0, none⟩ (.int .i64 k)).cell? ⟨w.heap.size, 0, none⟩ = some (.int .i64 k) := World.cell?_setCell_same' _ _ _ (by rw [hc1]; rfl)
  simp [Leaves, settle, results, Tryd.results10, go_sem, hcs]
  exact (((Below.refl _ w).alloc (Nat.le_refl _) _).trans (hb.mono (Nat.le_succ _))).setCell (Nat.le_refl _) _
end Go.Proofs.YtbmfehkahjeobaaDoor
