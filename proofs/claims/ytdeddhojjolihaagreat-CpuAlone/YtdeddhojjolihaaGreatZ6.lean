/-
 PROVED HERE: what Join, Meet, Raise and Lower of package label return when they are called (contracts over this translation. What is asked stands at each.
-/
import Derived.Test.YtdeddhojjolihaaGreatRows
import Derived.WalkKit
import Derived.ProofKit
import Derived.OpenShut
import Derived.Below
import Derived.Deep.SlicePairs
import Derived.Deep.RegionHeld
import Derived.Test.YtdeddhojjolihaaGreatZ1
import Derived.Test.YtdeddhojjolihaaGreatZ3
import Derived.Test.YtdeddhojjolihaaGreatZ4
import Derived.Test.YtdeddhojjolihaaGreatZ5
namespace Go.Proofs.YtdeddhojjolihaaGreat
set_option maxRecDepth 100000
set_option maxHeartbeats 8000000
set_option linter.unusedVariables false
open Go.Proofs.Tryz
section
open Go.ChangeShapes Go.WideShapes Go.ChangeAt Go.RowKit
theorem gkz (g : Nat) (eg : ∀ args w, (callFunc g args).run prog w = .ok (.enter g args) w) (op : Int → Int) (hf : ∀ (x : Int) (W : World), Calls prog g #[.int .i64 x] W fun e W' => e = .returned (.int .i64 (op x)) ∧ W' = W)
  (x y : Int) (Bf : Nat) (w : World) (hc : w.cell? ⟨Bf, 0, none⟩ = some (.func (.func g) #[] #[])) :
  Calls prog 193 #[.int .i64 x, .int .i64 y, .pointer (some ⟨Bf, 0, none⟩)] w fun e W' => e = .returned (.int .i64 (op x)) ∧ Below w.heap.size w W' := by
 go_enter func193, ntmps193
 go_wp2_with (refine (hf _ _).mono ?_; rintro e w1 ⟨rfl, rfl⟩)
 go_ret
 exact ⟨rfl, Below.refl _ _⟩
variable {A : List (Int × Int)}
theorem each_any {w : World} {ao : Option Addr} {k cap : Nat} (hA : Lab w.heap.size w ao k cap A) (hk : k < 274877906944)
  (g : Nat) (eg : ∀ args w, (callFunc g args).run prog w = .ok (.enter g args) w) (op : Int → Int) (hf : ∀ (x : Int) (W : World), Calls prog g #[.int .i64 x] W fun e W' => e = .returned (.int .i64 (op x)) ∧ W' = W) :
  Calls prog 189 #[.slice ao k cap, .func (.func g) #[] #[]] w fun e w' => ∃ ao1 n1 cap1, e = .returned (.slice ao1 n1 cap1) ∧ OwnL w.heap.size w' ao1 n1 cap1 (xrz (fun x _ => op x) (both A [])) ∧ Below w.heap.size w w' := by
 have hB0 := (Below.refl w.heap.size w).alloc (Nat.le_refl _) (.cells #[.func (.func g) #[] #[]] 155)
 have bF := Boxed.new w 155 (.func (.func g) #[] #[])
 have hA1 := hA.next hB0
 have hC1 := Lab.nil (w.alloc (.cells #[.func (.func g) #[] #[]] 155)).heap.size (w.alloc (.cells #[.func (.func g) #[] #[]] 155))
 go_enter func189, ntmps189
 go_wp2_with (go_at_call 192; refine (fold_any hA1 hC1 hk (by omega) 193 #[.pointer (some ⟨w.heap.size, 0, none⟩)] (enters_of func193 (by kernel_rfl) rfl) (fun x _ => op x) (fun x y W hW => by simpa using gkz g eg op hf x y w.heap.size W (cell_later hW bF.cell))).mono ?_; rintro e w1 ⟨ao1, n1, cap1, rfl, ho, hb⟩)
 go_ret
 refine ⟨_, _, _, rfl, ?_, hB0.trans (hb.mono (by simp))⟩
 exact uHz (by simp) ho
theorem k5z {w : World} {ao : Option Addr} {k cap : Nat} (hA : Lab w.heap.size w ao k cap A) (hk : k < 274877906944) :
  Calls prog 183 #[.slice ao k cap] w fun e w' => ∃ ao1 n1 cap1, e = .returned (.slice ao1 n1 cap1) ∧ OwnL w.heap.size w' ao1 n1 cap1 (xrz (fun x _ => Lv.raise x) (both A [])) ∧ Below w.heap.size w w' := by
 go_enter func183, ntmps183
 go_wp2_with (go_at_call 189; refine (each_any hA hk 190 (enters_of func190 (by kernel_rfl) rfl) Lv.raise (fun x W => uyz x W)).mono ?_; rintro e w1 ⟨ao1, n1, cap1, rfl, ho, hb⟩)
 go_ret
 exact ⟨_, _, _, rfl, ho, hb⟩
end
section
open Go.ChangeShapes Go.WideShapes Go.ChangeAt Go.RowKit
theorem laidOut : laidOutB prog = true := by kernel_rfl
def numV : Value → Int
 | .int _ n => n
 | _ => 0
theorem vFz {H : Type} {enc : TypeId × Value → H} {w : World} {ao : Option Addr} {n cap : Nat} {d : DataW H} {ps : List MemPlace}
  (h : DataW.Trod enc prog w 0 (fun _ => true) true 34 (.slice ao n cap) d ps) : ∃ L, Lab w.heap.size w ao n cap L := by
 obtain ⟨fuel, hf⟩ := h
 rcases Go.Deep.open_slice_pairs underlying34 underlying111 (by kernel_rfl) rfl rfl (by kernel_rfl) (by kernel_rfl) hf with ⟨e, _⟩ | ⟨a, len, cap', m, n', V0, V1, D0, D1, P0, P1, e, hb, hl, hm, hmm, _, hx⟩
 ·simp [Value.cells] at e
  obtain ⟨rfl, rfl, rfl⟩ := e
  exact ⟨[], Lab.nil _ _⟩
 ·simp [Value.cells] at e
  obtain ⟨rfl, rfl, rfl⟩ := e
  have hmc : m = cap := by rw [hmm]; rfl
  have key : ∀ i, i < n → w.cell? (a.add (i * 2)) = some (.int .u64 (numV (V0 i))) ∧ w.cell? (a.add (i * 2 + 1)) = some (.int .i64 (numV (V1 i))) := by
   intro i hi
   obtain ⟨c0, c1, t0, t1⟩ := hx i (by omega)
   obtain ⟨x, hx0, _, _⟩ := DataW.trod_int underlying22 t0
   obtain ⟨y, hy0, _, _⟩ := DataW.trod_int underlying3 t1
   simp at hx0 hy0
   rw [hx0] at c0
   rw [hy0] at c1
   rw [hx0, hy0]
   exact ⟨c0, c1⟩
  refine ⟨(List.range n).map fun i => (numV (V0 i), numV (V1 i)), by simp, hl, ⟨by unfold maxLen at hm; omega, fun hz => by cases hz⟩, fun hn => ?_⟩
  have hs : a.spot = none := by
   have h0 := (key 0 hn).1
   have ha : a.add (0 * 2) = a := by simp [Addr.add]
   rw [ha] at h0
   unfold World.cell? at h0
   cases hsp : a.spot with
   | none => rfl
   | some s => split at h0 <;> simp [hsp] at h0
  have hea : a = ⟨a.block, a.off, none⟩ := by cases a; simp at hs; simp [hs]
  have hadd : ∀ j, a.add j = ⟨a.block, a.off + j, none⟩ := by
   intro j
   unfold Addr.add
   split
   ·rename_i hj; subst hj; rw [Nat.add_zero]; exact hea
   ·rfl
  refine ⟨a.block, a.off, by rw [← hea], ?_, fun i hi => ?_⟩
  ·have h0 := (key 0 hn).1
   have := World.block_lt_of_cell? w _ h0
   rwa [hadd] at this
  ·have hk := key i hi
   rw [hadd, hadd] at hk
   have hg : ((List.range n).map fun i => (numV (V0 i), numV (V1 i))).getD i (0, 0) = (numV (V0 i), numV (V1 i)) := by
    rw [List.getD_eq_getElem?_getD, List.getElem?_eq_getElem (by simpa using hi)]; simp
   rw [hg]
   exact ⟨hk.1, by rw [Nat.add_assoc]; exact hk.2⟩
end
section
open Go.ChangeShapes Go.WideShapes Go.ChangeAt Go.RowKit
def Labs (w : World) (ls : List (Option Addr × Nat × Nat × List (Int × Int))) : Prop := ∀ x ∈ ls, Lab w.heap.size w x.1 x.2.1 x.2.2.1 x.2.2.2
theorem Labs.nil (w : World) : Labs w [] := fun x hx => by cases hx
variable {ls : List (Option Addr × Nat × Nat × List (Int × Int))} {ao : Option Addr} {w : World} {L : List (Int × Int)}
theorem Labs.push (h : Labs w ls) {n cap : Nat} (l : Lab w.heap.size w ao n cap L) : Labs w ((ao, n, cap, L) :: ls) := fun x hx => by
 rcases List.mem_cons.1 hx with rfl | hx
 ·exact l
 ·exact h x hx
theorem Labs.next {w w' : World} (h : Labs w ls) (k : Below w.heap.size w w') : Labs w' ls := fun x hx => (h x hx).next k
theorem Labs.get (h : Labs w ls) {n cap : Nat} (hm : (ao, n, cap, L) ∈ ls) : Lab w.heap.size w ao n cap L := h _ hm
theorem lraise_b {k cap : Nat} {A : List (Int × Int)} (hA : Lab w.heap.size w ao k cap A) (hk : k < 274877906944) :
  Calls prog 183 #[.slice ao k cap] w fun e w' => ∃ ao1 n1 cap1, e = .returned (.slice ao1 n1 cap1) ∧ Lab w'.heap.size w' ao1 n1 cap1 (wAz A) ∧ n1 ≤ k ∧ Below w.heap.size w w' := by
 refine (k5z hA hk).mono ?_
 rintro e w' ⟨ao1, n1, cap1, rfl, ho, hb⟩
 refine ⟨ao1, n1, cap1, rfl, ho.lab, ?_, hb⟩
 have h1 := ho.1
 have h2 := j9z (fun x _ => Lv.raise x) (both A [])
 have h3 := yhz A []
 have h4 := hA.1
 simp at h3
 omega
/- What the walks make of 'few'. -/
/-! The order and the lattice, as the statements ask for them. -/
end
section
def Ri : Int → List Int → Prop
 | _, [] => True
 | b, x :: r => b < x ∧ Ri x r
theorem Ri.low {b b' : Int} {C : List Int} (h : Ri b C) (k : b' ≤ b) : Ri b' C := by
 cases C with
 | nil => trivial
 | cons x r => exact ⟨by have := h.1; omega, h.2⟩
end
end Go.Proofs.YtdeddhojjolihaaGreat
