/-
 PROVED HERE: what Join, Meet, Raise and Lower of package label return when they are called (contracts over this translation. What is asked stands at each.
-/
import Derived.Test.YtiiaohejldchdaaGreatZ5
import Derived.Test.YtiiaohejldchdaaGreatZ7
namespace Go.Proofs.YtiiaohejldchdaaGreat
set_option maxRecDepth 100000
set_option maxHeartbeats 8000000
open Go.ChangeShapes Go.WideShapes Go.ChangeAt Go.RowKit
set_option linter.unusedVariables false

theorem each1_any (g : Nat) (eg : ∀ args w, (callFunc g args).run Tryz.prog w = .ok (.enter g args) w) (op : Int → Int) (hf : ∀ (x : Int) (W : World), Calls Tryz.prog g #[.int .i64 x] W fun e W' => e = .returned (.int .i64 (op x)) ∧ W' = W)
  (x y : Int) (Bf : Nat) (w : World) (hc : w.cell? ⟨Bf, 0, none⟩ = some (.func (.func g) #[] #[])) :
  Calls Tryz.prog 136 #[.int .i64 x, .int .i64 y, .pointer (some ⟨Bf, 0, none⟩)] w fun e W' => e = .returned (.int .i64 (op x)) ∧ Below w.heap.size w W' := by
 go_enter Tryz.func136, Tryz.ntmps136
 go_wp2_with (refine (hf _ _).mono ?_; rintro e w1 ⟨rfl, rfl⟩)
 go_ret
 exact ⟨rfl, Below.refl _ _⟩
theorem each_any {w : World} {ao : Option Addr} {k cap : Nat} {A : List (Int × Int)} (hA : Lab w.heap.size w ao k cap A) (hk : k < 274877906944)
  (g : Nat) (eg : ∀ args w, (callFunc g args).run Tryz.prog w = .ok (.enter g args) w) (op : Int → Int) (hf : ∀ (x : Int) (W : World), Calls Tryz.prog g #[.int .i64 x] W fun e W' => e = .returned (.int .i64 (op x)) ∧ W' = W) :
  Calls Tryz.prog 132 #[.slice ao k cap, .func (.func g) #[] #[]] w fun e w' => ∃ ao1 n1 cap1, e = .returned (.slice ao1 n1 cap1) ∧ OwnL w.heap.size w' ao1 n1 cap1 (foldP (fun x _ => op x) (both A [])) ∧ Below w.heap.size w w' := by
 have hB0 := (Below.refl w.heap.size w).alloc (Nat.le_refl _) (.cells #[.func (.func g) #[] #[]] 119)
 have bF := Boxed.new w 119 (.func (.func g) #[] #[])
 have hA1 := hA.next hB0
 have hC1 := Lab.nil (w.alloc (.cells #[.func (.func g) #[] #[]] 119)).heap.size (w.alloc (.cells #[.func (.func g) #[] #[]] 119))
 go_enter Tryz.func132, Tryz.ntmps132
 go_wp2_with (go_at_call 135; refine (fold_any hA1 hC1 hk (by omega) 136 #[.pointer (some ⟨w.heap.size, 0, none⟩)] (enters_of Tryz.func136 (by kernel_rfl) rfl) (fun x _ => op x) (fun x y W hW => by simpa using each1_any g eg op hf x y w.heap.size W (cell_later hW bF.cell))).mono ?_; rintro e w1 ⟨ao1, n1, cap1, rfl, ho, hb⟩)
 go_ret
 refine ⟨_, _, _, rfl, ?_, hB0.trans (hb.mono (by simp))⟩
 exact ownL_base (by simp) ho
theorem lraise_any {w : World} {ao : Option Addr} {k cap : Nat} {A : List (Int × Int)} (hA : Lab w.heap.size w ao k cap A) (hk : k < 274877906944) :
  Calls Tryz.prog 126 #[.slice ao k cap] w fun e w' => ∃ ao1 n1 cap1, e = .returned (.slice ao1 n1 cap1) ∧ OwnL w.heap.size w' ao1 n1 cap1 (foldP (fun x _ => Lv.raise x) (both A [])) ∧ Below w.heap.size w w' := by
 go_enter Tryz.func126, Tryz.ntmps126
 go_wp2_with (go_at_call 132; refine (each_any hA hk 133 (enters_of Tryz.func133 (by kernel_rfl) rfl) Lv.raise (fun x W => raise_any x W)).mono ?_; rintro e w1 ⟨ao1, n1, cap1, rfl, ho, hb⟩)
 go_ret
 exact ⟨_, _, _, rfl, ho, hb⟩
end Go.Proofs.YtiiaohejldchdaaGreat
