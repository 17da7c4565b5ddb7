/-
 PROVED HERE: what Join, Meet, Raise and Lower of package label return when they are called (contracts over this translation. What is asked stands at each.
-/
import Derived.Test.YtklnneiblmakmaaGreatZ5
import Derived.Test.YtklnneiblmakmaaGreatZ7
namespace Go.Proofs.YtklnneiblmakmaaGreat
set_option maxRecDepth 100000
set_option maxHeartbeats 8000000
set_option linter.unusedVariables false
open Go.Proofs.Tryz
section
open Go.ChangeShapes Go.WideShapes Go.ChangeAt Go.RowKit
theorem uWz {w : World} {ao ao' : Option Addr} {k k' cap cap' : Nat} {A C : List (Int × Int)} (hA : Lab w.heap.size w ao k cap A) (hC : Lab w.heap.size w ao' k' cap' C) (hk : k < 274877906944) (hk' : k' < 274877906944) :
  Calls prog 103 #[.slice ao k cap, .slice ao' k' cap'] w fun e w' => ∃ ao1 n1 cap1, e = .returned (.slice ao1 n1 cap1) ∧ OwnL w.heap.size w' ao1 n1 cap1 (w2z Lv.join (both A C)) ∧ Below w.heap.size w w' := by
 go_enter func103, ntmps103
 go_wp2_with (go_at_call 128; refine (ygz hA hC hk hk' 129 #[] (enters_of func129 (by kernel_rfl) rfl) Lv.join (fun x y W _ => by simpa using join_any x y W)).mono ?_; rintro e w1 ⟨ao1, n1, cap1, rfl, ho, hb⟩)
 go_ret
 exact ⟨_, _, _, rfl, ho, hb⟩
theorem gsz (g : Nat) (eg : ∀ args w, (callFunc g args).run prog w = .ok (.enter g args) w) (op : Int → Int) (hf : ∀ (x : Int) (W : World), Calls prog g #[.int .i64 x] W fun e W' => e = .returned (.int .i64 (op x)) ∧ W' = W)
  (x y : Int) (Bf : Nat) (w : World) (hc : w.cell? ⟨Bf, 0, none⟩ = some (.func (.func g) #[] #[])) :
  Calls prog 163 #[.int .i64 x, .int .i64 y, .pointer (some ⟨Bf, 0, none⟩)] w fun e W' => e = .returned (.int .i64 (op x)) ∧ Below w.heap.size w W' := by
 go_enter func163, ntmps163
 go_wp2_with (refine (hf _ _).mono ?_; rintro e w1 ⟨rfl, rfl⟩)
 go_ret
 exact ⟨rfl, Below.refl _ _⟩
theorem each_any {w : World} {ao : Option Addr} {k cap : Nat} {A : List (Int × Int)} (hA : Lab w.heap.size w ao k cap A) (hk : k < 274877906944)
  (g : Nat) (eg : ∀ args w, (callFunc g args).run prog w = .ok (.enter g args) w) (op : Int → Int) (hf : ∀ (x : Int) (W : World), Calls prog g #[.int .i64 x] W fun e W' => e = .returned (.int .i64 (op x)) ∧ W' = W) :
  Calls prog 130 #[.slice ao k cap, .func (.func g) #[] #[]] w fun e w' => ∃ ao1 n1 cap1, e = .returned (.slice ao1 n1 cap1) ∧ OwnL w.heap.size w' ao1 n1 cap1 (w2z (fun x _ => op x) (both A [])) ∧ Below w.heap.size w w' := by
 have hB0 := (Below.refl w.heap.size w).alloc (Nat.le_refl _) (.cells #[.func (.func g) #[] #[]] 123)
 have bF := Boxed.new w 123 (.func (.func g) #[] #[])
 have hA1 := hA.next hB0
 have hC1 := Lab.nil (w.alloc (.cells #[.func (.func g) #[] #[]] 123)).heap.size (w.alloc (.cells #[.func (.func g) #[] #[]] 123))
 go_enter func130, ntmps130
 go_wp2_with (go_at_call 128; refine (ygz hA1 hC1 hk (by omega) 163 #[.pointer (some ⟨w.heap.size, 0, none⟩)] (enters_of func163 (by kernel_rfl) rfl) (fun x _ => op x) (fun x y W hW => by simpa using gsz g eg op hf x y w.heap.size W (cell_later hW bF.cell))).mono ?_; rintro e w1 ⟨ao1, n1, cap1, rfl, ho, hb⟩)
 go_ret
 refine ⟨_, _, _, rfl, ?_, hB0.trans (hb.mono (by simp))⟩
 exact uOz (by simp) ho
theorem yMz {w : World} {ao : Option Addr} {k cap : Nat} {A : List (Int × Int)} (hA : Lab w.heap.size w ao k cap A) (hk : k < 274877906944) :
  Calls prog 104 #[.slice ao k cap] w fun e w' => ∃ ao1 n1 cap1, e = .returned (.slice ao1 n1 cap1) ∧ OwnL w.heap.size w' ao1 n1 cap1 (w2z (fun x _ => Lv.raise x) (both A [])) ∧ Below w.heap.size w w' := by
 go_enter func104, ntmps104
 go_wp2_with (go_at_call 130; refine (each_any hA hk 131 (enters_of func131 (by kernel_rfl) rfl) Lv.raise (fun x W => uDz x W)).mono ?_; rintro e w1 ⟨ao1, n1, cap1, rfl, ho, hb⟩)
 go_ret
 exact ⟨_, _, _, rfl, ho, hb⟩
end
end Go.Proofs.YtklnneiblmakmaaGreat
