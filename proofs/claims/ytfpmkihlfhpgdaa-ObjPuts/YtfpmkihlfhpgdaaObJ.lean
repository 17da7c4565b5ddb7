/-
  PROVED HERE: small facts for the laws' walks: answers that are known ahead; rows of objects that keep off some blocks; three that may come up. No condition.
-/
import Derived.Test.YtfpmkihlfhpgdaaObI
namespace Go.Proofs.Ytfpmkihlfhpgdaa
section
open Go.RowKit Go.Shelf
set_option linter.unusedVariables false
attribute [local go_sem] Oper.semAt_some

theorem Asks.val {f : FuncId} {args : Array Value} {X : Prop} {W : World} {b : Bool} (h : Asks f args X W) (hb : Hid (b = true ↔ X)) : Calls Try.prog f args W fun e w' => e = .returned (.bool b) ∧ Below W.heap.size W w' := by
  refine h.mono ?_
  rintro e w' ⟨b', rfl, h', k⟩
  refine ⟨?_, k⟩
  have := hb.out
  have := h'.out
  cases b <;> cases b' <;> simp_all
theorem Asks.sure {f : FuncId} {args : Array Value} {X : Prop} {W : World} (h : Asks f args X W) (hX : X) : Calls Try.prog f args W fun e w' => e = .returned (.bool true) ∧ Below W.heap.size W w' := h.val (b := true) (by show _ ↔ _; exact ⟨fun _ => hX, fun _ => rfl⟩)
theorem bool_of (X : Prop) : ∃ b : Bool, Hid (b = true ↔ X) := by
  rcases Classical.em X with h | h
  · exact ⟨true, fun _ => h, fun _ => rfl⟩
  · exact ⟨false, fun e => absurd e Bool.false_ne_true, fun e => absurd e h⟩
/-- The blocks that there are, but those of Ps. -/
abbrev Nx (Ps : List Nat) (W : World) : Nat → Prop := fun b => b < W.heap.size ∧ b ∉ Ps
theorem obs_nx {W W' : World} {Ps Ps' : List Nat} {ao : Option Addr} {n cap : Nat} {l : List Ob} (h : ObsD (Nx Ps W) (Nx Ps W) W ao n cap l) (k : Below W.heap.size W W') (hp : ∀ p ∈ Ps', p ∈ Ps ∨ W.heap.size ≤ p) : ObsD (Nx Ps' W') (Nx Ps' W') W' ao n cap l := by
  have key : ∀ b, Nx Ps W b → Nx Ps' W' b := fun b hb => ⟨Nat.lt_of_lt_of_le hb.1 k.size, fun q => by
    rcases hp b q with r | r
    · exact hb.2 r
    · have := hb.1; omega⟩
  exact (h.laterK (fun b hb => k.block b hb.1) (fun b hb => k.block b hb.1)).wide key key
/-- What was made in a call keeps off what was there. -/
theorem obs_new {w W W' : World} {Ps : List Nat} {N : Nat} {ao : Option Addr} {n cap : Nat} {l : List Ob} (h : ObsD (New W W') (fun b => LtN w b ∨ New W W' b) W' ao n cap l) (hw : w.heap.size ≤ N) (hN : N ≤ W.heap.size) (hk : W.heap.size ≤ W'.heap.size) (hp : ∀ p ∈ Ps, N ≤ p ∧ p < W.heap.size) : ObsD (Nx Ps W') (Nx Ps W') W' ao n cap l := by
  have key : ∀ b, New W W' b → Nx Ps W' b := fun b hb => ⟨hb.2, fun q => by have := (hp b q).2; have := hb.1; omega⟩
  refine h.wide (fun b hb => ?_) key
  rcases hb with q | q
  · have q' : b < w.heap.size := q
    exact ⟨by omega, fun r => by have := (hp b r).1; omega⟩
  · exact key b q
theorem obs_oth {W W' : World} {Ps : List Nat} {P : Nat} {ao : Option Addr} {n cap : Nat} {l : List Ob} (h : ObsD (Nx Ps W) (Nx Ps W) W ao n cap l) (k : Oth P W W') (hP : P ∈ Ps) : ObsD (Nx Ps W') (Nx Ps W') W' ao n cap l := by
  have key : ∀ b, Nx Ps W b → W'.heap[b]? = W.heap[b]? := fun b hb => k.block b fun e => hb.2 (by rw [e]; exact hP)
  exact (h.laterK key key).wide (fun b hb => ⟨by rw [k.size]; exact hb.1, hb.2⟩) (fun b hb => ⟨by rw [k.size]; exact hb.1, hb.2⟩)
theorem obs_lt {W : World} {Ps : List Nat} {ao : Option Addr} {n cap : Nat} {l : List Ob} (h : ObsD (Nx Ps W) (Nx Ps W) W ao n cap l) : Obs W ao n cap l := h.wide (fun _ hb => hb.1) (fun _ hb => hb.1)
theorem ob_nx {W W' : World} {Ps Ps' : List Nat} {C : Array Value} {x : Ob} (h : ObD (Nx Ps W) W C x) (k : Below W.heap.size W W') (hp : ∀ p ∈ Ps', p ∈ Ps ∨ W.heap.size ≤ p) : ObD (Nx Ps' W') W' C x :=
  (h.laterK fun b hb => k.block b hb.1).wide fun b hb => ⟨Nat.lt_of_lt_of_le hb.1 k.size, fun q => by
    rcases hp b q with r | r
    · exact hb.2 r
    · have := hb.1; omega⟩
theorem labD_next {w w' : World} {ao : Option Addr} {n cap : Nat} {L : Lb} (h : LabD (LtN w) w ao n cap L) (k : Below w.heap.size w w') : LabD (LtN w') w' ao n cap L := (LabD.laterK h fun b hb => k.block b hb).wide fun b hb => Nat.lt_of_lt_of_le hb k.size
theorem smalls_put {X : List Ob} {x : Ob} (h : Smalls X) (k : Small x) : Smalls (puR X x) := fun y hy => by
  rcases mem_puR.1 hy with rfl | ⟨q, _⟩
  · exact k
  · exact h y q
theorem smalls_drp {X : List Ob} {i : Int} (h : Smalls X) : Smalls (drpL X i) := fun y hy => h y (mem_drp.1 hy).1
theorem smalls_of {t ke ro : Int} {X : List Ob} (h : fewP X) (k : fitW ⟨t, ke, ro, X⟩ = true) : Smalls X := fun x hx => by
  obtain ⟨i, hi, rfl⟩ := List.getElem_of_mem hx
  have h1 := h.2 i hi
  have h2 := (fitW_iff.1 k).2.2.2.2 i hi
  rw [oat_get hi] at h1 h2
  exact small_of h1 h2
theorem small_z : Small zOb := by
  refine ⟨?_, ?_, ?_, ?_, ?_, ?_, ?_, ?_, ?_, ?_, ?_, ?_, ?_, ?_⟩ <;> decide
end
section
open Go.RowKit Go.Shelf

theorem obs_mk {W W' : World} {ao : Option Addr} {n cap : Nat} {l : List Ob} (h : ObsD (New W W') (fun b => LtN W b ∨ New W W' b) W' ao n cap l) (k : Below W.heap.size W W') : Obs W' ao n cap l :=
  h.wide (fun b hb => by rcases hb with q | q; exact Nat.lt_of_lt_of_le q k.size; exact q.2) (fun b hb => hb.2)
end
section
open Go.RowKit Go.Shelf

section
variable {ops : Array Oper} {Q : Exit → Act → World → Prop} {S : World → Prop} {w : World} {m : Nat} {a : Act} {l : Array Bool}
theorem wpAnyH_three {i j k : Nat} {n : Nat} (hm : m = n + 1) (hr : Region.ready .any ops l = [i, j, k]) (h : wpOp Try.prog ops Q i (fun a' w' => S w' ∧ wpAnyH Try.prog .any ops Q S n (l.setIfInBounds i true) a' w') a w) (h' : wpOp Try.prog ops Q j (fun a' w' => S w' ∧ wpAnyH Try.prog .any ops Q S n (l.setIfInBounds j true) a' w') a w) (h'' : wpOp Try.prog ops Q k (fun a' w' => S w' ∧ wpAnyH Try.prog .any ops Q S n (l.setIfInBounds k true) a' w') a w) : wpAnyH Try.prog .any ops Q S m l a w := by
  subst hm
  refine wpAnyH_all hr (by simp) ?_
  intro q hq
  rw [List.mem_cons, List.mem_cons, List.mem_singleton] at hq
  rcases hq with rfl | rfl | rfl
  · exact h
  · exact h'
  · exact h''
end
end
end Go.Proofs.Ytfpmkihlfhpgdaa
