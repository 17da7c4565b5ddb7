/-
 PROVED HERE: what package pages' Fit and Same, and the document's Fit and Same, return when they are called (contracts over. What is asked stands at each.
-/
import Derived.Deep.RegionWith
import Derived.Test.YtiiaohejldchdaaGreatZ11
namespace Go.Proofs.YtiiaohejldchdaaGreat.PgM
set_option maxRecDepth 100000
set_option maxHeartbeats 8000000
open Go.RowKit Go.Shelf
set_option linter.unusedVariables false
attribute [local go_sem] Oper.semAt_some
open Pg

theorem all_succ {p : Nat → Bool} {k : Nat} (h : ∀ i, i < k → p i = true) (hk : p k = true) : ∀ i, i < k + 1 → p i = true := fun i hi => by
 rcases Nat.lt_or_ge i k with h' | h'
 ·exact h i h'
 ·have : i = k := by omega
  rw [this]; exact hk
theorem below_drewN {B : Nat} {w W : World} (h : Below B w W) (m : Nat) : Below B w (W.drewN m) := h.trans ⟨rfl, rfl, rfl, Nat.le_refl _, fun _ _ => rfl⟩
theorem region_out {P : Program} {ops : Array Oper} {Q : Exit → Act → World → Prop} {S : World → Prop} {id : Nat} {a : Act} {w : World} (hm : P.follows .mixedOrders = true)
  (hS : S w.drew) (h : S w.drew → wpAnyH P .any ops Q S ops.size (Array.replicate ops.size false) a w.drew) : (Code.region id ops true).wp P Q a w :=
 wp_region_any hm (wpAny_of_held _ _ _ _ (h hS))
def It (W : World) (b o : Nat) (v0 v1 v2 v3 v4 : Int) (v5 : Bool) : Prop := W.cell? ⟨b, o, none⟩ = some (.int .i64 v0) ∧ W.cell? ⟨b, o + 1, none⟩ = some (.int .i64 v1) ∧ W.cell? ⟨b, o + 2, none⟩ = some (.int .u64 v2) ∧ W.cell? ⟨b, o + 3, none⟩ = some (.int .u64 v3) ∧ W.cell? ⟨b, o + 4, none⟩ = some (.int .i64 v4) ∧ W.cell? ⟨b, o + 5, none⟩ = some (.bool v5)
theorem It.next {X Y : World} {b o : Nat} {v0 v1 v2 v3 v4 : Int} {v5 : Bool} (h : It X b o v0 v1 v2 v3 v4 v5) (hb : Below X.heap.size X Y) : It Y b o v0 v1 v2 v3 v4 v5 := by
 have f : ∀ {a : Addr} {v : Value}, X.cell? a = some v → Y.cell? a = some v := fun h => (hb.cell (World.block_lt_of_cell? _ _ h)).trans h
 obtain ⟨a0, a1, a2, a3, a4, a5⟩ := h
 exact ⟨f a0, f a1, f a2, f a3, f a4, f a5⟩
def Pq (w2 : World) (b o o' : Nat) (v0 v1 u0 u1 u2 u3 u4 : Int) (u5 : Bool) (W : World) : Prop :=
 W.cell? ⟨b, o, none⟩ = some (.int .i64 v0) ∧ W.cell? ⟨b, o + 1, none⟩ = some (.int .i64 v1) ∧ W.cell? ⟨b, o', none⟩ = some (.int .i64 u0) ∧ W.cell? ⟨b, o' + 1, none⟩ = some (.int .i64 u1) ∧ W.cell? ⟨b, o' + 2, none⟩ = some (.int .u64 u2) ∧ W.cell? ⟨b, o' + 3, none⟩ = some (.int .u64 u3) ∧ W.cell? ⟨b, o' + 4, none⟩ = some (.int .i64 u4) ∧ W.cell? ⟨b, o' + 5, none⟩ = some (.bool u5) ∧ Below w2.heap.size w2 W
theorem Pq.next {w2 X Y : World} {b o o' : Nat} {v0 v1 u0 u1 u2 u3 u4 : Int} {u5 : Bool} (h : Pq w2 b o o' v0 v1 u0 u1 u2 u3 u4 u5 X) (hb : Below X.heap.size X Y) : Pq w2 b o o' v0 v1 u0 u1 u2 u3 u4 u5 Y := by
 have f : ∀ {a : Addr} {v : Value}, X.cell? a = some v → Y.cell? a = some v := fun h => (hb.cell (World.block_lt_of_cell? _ _ h)).trans h
 obtain ⟨a0, a1, b0, b1, b2, b3, b4, b5, hB⟩ := h
 exact ⟨f a0, f a1, f b0, f b1, f b2, f b3, f b4, f b5, hB.trans (hb.mono hB.size)⟩
theorem Pq.bel {w2 X : World} {b o o' : Nat} {v0 v1 u0 u1 u2 u3 u4 : Int} {u5 : Bool} (h : Pq w2 b o o' v0 v1 u0 u1 u2 u3 u4 u5 X) : Below w2.heap.size w2 X := h.2.2.2.2.2.2.2.2
theorem rfit_any {w : World} {ao : Option Addr} {n cap : Nat} {L : List Mp} (hL : Mps w.heap.size w ao n cap L) :
  Calls Tryz.prog 51 #[.slice ao n cap] w fun e w' => e = .returned (.bool (fitB L)) ∧ Below w.heap.size w w' := by
 have hln : Hid (L.length = n) := hL.1
 have hmx : Tryz.prog.follows .mixedOrders = true := by kernel_rfl
 by_cases h16 : 16 < n
 ·have hr : Hid (fitB L = false) := fitB_long (by rw [hln.out]; exact h16)
  rw [hr.out]
  go_enter Tryz.func51, Tryz.ntmps51
  go_wp2
  go_ret
  exact ⟨rfl, Below.refl _ _⟩
 ·have hn16 : n ≤ 16 := by omega
  have hn16' : Hid (n ≤ 16) := hn16
  go_enter Tryz.func51, Tryz.ntmps51
  go_wp2
  go_loopw [3] (fun i wr => ∃ k : Nat, k ≤ n ∧ i = .int .i64 k ∧ Hid (∀ i, i < k → okAt L i = true) ∧ Below w.heap.size w wr) (fun i _ => n - (intOf i).toNat)
  case atStart => exact ⟨0, Nat.zero_le _, rfl, fun j hj => absurd hj (by omega), Below.refl _ _⟩
  case round =>
   obtain ⟨k, hk, rfl, hal, hb⟩ := hrel
   by_cases hkn : k < n
   ·obtain ⟨b, off, va, nn, cont, seg, of, wrt, rfl, hbb, hx, c0, c1, c2, c3, c4, c5⟩ := MpsD.at (hL.later hb) hkn
    have hkl : Hid (k < L.length) := by show k < L.length; rw [hln.out]; exact hkn
    have hkn' : (k : Int) < n := by omega
    have hbs := hb.size
    have hfit := fun W => rone_any va nn cont seg of wrt W
    cases h1 : oneB ⟨va, nn, cont, seg, of, wrt⟩ with
    | false =>
     rw [h1] at hfit
     have hr : Hid (fitB L = false) := fitB_no hkl.out (by unfold okAt; rw [hx.out, h1]; rfl)
     clear h1
     go_wp2
     refine region_out (S := fun W => It W b (off + k * 6) va nn cont seg of wrt) hmx (It.next ⟨c0, c1, c2, c3, c4, c5⟩ (Below.refl _ _).drew) (fun hS => ?_)
     have hBd : Below w.heap.size w wr.drew := hb.drew
     generalize wr.drew = W3 at hS hBd ⊢
     refine wpAnyH_take (i := 0) (v := .slice (some ⟨b, off, none⟩) n cap) rfl (by kernel_rfl) (by kernel_rfl) (by kernel_rfl) (fun _ _ _ h => h) (Or.inl ⟨by kernel_rfl, fun w2 hS2 => by go_simp⟩) hS ?_
     simp only [Act.put]
     refine wpAnyH_take (i := 1) (v := .int .i64 (k : Int)) rfl (by kernel_rfl) (by kernel_rfl) (by kernel_rfl) (fun _ _ _ h => h) (Or.inl ⟨by kernel_rfl, fun w2 hS2 => by go_simp⟩) hS ?_
     simp only [Act.put]
     refine wpAnyH_take (i := 2) (v := .pointer (some ⟨b, off + k * 6, none⟩)) rfl (by kernel_rfl) (by kernel_rfl) (by kernel_rfl) (fun _ _ _ h => h) (Or.inl ⟨by kernel_rfl, fun w2 hS2 => by go_simp⟩) hS ?_
     simp only [Act.put]
     refine wpAnyH_take (i := 3) (v := .agg #[.int .i64 va, .int .i64 nn, .int .u64 cont, .int .u64 seg, .int .i64 of, .bool wrt]) rfl (by kernel_rfl) (by kernel_rfl) (by kernel_rfl) (fun _ _ _ h => h) (Or.inl ⟨by kernel_rfl, fun w2 hS2 => by obtain ⟨q0, q1, q2, q3, q4, q5⟩ := hS2; go_simp⟩) hS ?_
     simp only [Act.put]
     refine wpAnyH_ready (rs := [4]) (by kernel_rfl) (by simp) ?_
     refine AllReadyH.cons rfl (fun K hK => ?_) AllReadyH.nil
     go_simp
     refine (hfit _).mono ?_
     rintro e w1 ⟨rfl, hb1⟩
     have hS : It w1 b (off + k * 6) va nn cont seg of wrt := It.next hS hb1
     have hB3 : Below w.heap.size w w1 := hBd.trans (hb1.mono hBd.size)
     refine hK.out _ _ hS (fun hS => ?_)
     clear hK K
     refine wpAnyH_take (i := 5) (v := .bool true) rfl (by kernel_rfl) (by kernel_rfl) (by kernel_rfl) (fun _ _ _ h => h) (Or.inl ⟨by kernel_rfl, fun w2 hS2 => by go_simp⟩) hS ?_
     simp only [Act.put]
     refine wpAnyH_take (i := 6) (v := .bool true) rfl (by kernel_rfl) (by kernel_rfl) (by kernel_rfl) (fun _ _ _ h => h) (Or.inl ⟨by kernel_rfl, fun w2 hS2 => by go_simp⟩) hS ?_
     simp only [Act.put]
     refine wpAnyH_take (i := 7) (v := undef) rfl (by kernel_rfl) (by kernel_rfl) (by kernel_rfl) (fun _ _ _ h => h) (Or.inr ⟨by kernel_rfl, rfl⟩) hS ?_
     simp only [Act.put]
     refine wpAnyH_take (i := 8) (v := undef) rfl (by kernel_rfl) (by kernel_rfl) (by kernel_rfl) (fun _ _ _ h => h) (Or.inr ⟨by kernel_rfl, rfl⟩) hS ?_
     simp only [Act.put]
     refine wpAnyH_take (i := 9) (v := undef) rfl (by kernel_rfl) (by kernel_rfl) (by kernel_rfl) (fun _ _ _ h => h) (Or.inr ⟨by kernel_rfl, rfl⟩) hS ?_
     simp only [Act.put]
     refine wpAnyH_take (i := 10) (v := undef) rfl (by kernel_rfl) (by kernel_rfl) (by kernel_rfl) (fun _ _ _ h => h) (Or.inr ⟨by kernel_rfl, rfl⟩) hS ?_
     simp only [Act.put]
     refine wpAnyH_take (i := 11) (v := undef) rfl (by kernel_rfl) (by kernel_rfl) (by kernel_rfl) (fun _ _ _ h => h) (Or.inr ⟨by kernel_rfl, rfl⟩) hS ?_
     simp only [Act.put]
     refine wpAnyH_take (i := 12) (v := undef) rfl (by kernel_rfl) (by kernel_rfl) (by kernel_rfl) (fun _ _ _ h => h) (Or.inr ⟨by kernel_rfl, rfl⟩) hS ?_
     simp only [Act.put]
     refine wpAnyH_take (i := 13) (v := undef) rfl (by kernel_rfl) (by kernel_rfl) (by kernel_rfl) (fun _ _ _ h => h) (Or.inr ⟨by kernel_rfl, rfl⟩) hS ?_
     simp only [Act.put]
     refine wpAnyH_take (i := 14) (v := undef) rfl (by kernel_rfl) (by kernel_rfl) (by kernel_rfl) (fun _ _ _ h => h) (Or.inr ⟨by kernel_rfl, rfl⟩) hS ?_
     simp only [Act.put]
     refine wpAnyH_take (i := 15) (v := undef) rfl (by kernel_rfl) (by kernel_rfl) (by kernel_rfl) (fun _ _ _ h => h) (Or.inr ⟨by kernel_rfl, rfl⟩) hS ?_
     simp only [Act.put]
     refine wpAnyH_take (i := 16) (v := undef) rfl (by kernel_rfl) (by kernel_rfl) (by kernel_rfl) (fun _ _ _ h => h) (Or.inr ⟨by kernel_rfl, rfl⟩) hS ?_
     simp only [Act.put]
     refine wpAnyH_take (i := 17) (v := undef) rfl (by kernel_rfl) (by kernel_rfl) (by kernel_rfl) (fun _ _ _ h => h) (Or.inr ⟨by kernel_rfl, rfl⟩) hS ?_
     simp only [Act.put]
     refine wpAnyH_take (i := 18) (v := undef) rfl (by kernel_rfl) (by kernel_rfl) (by kernel_rfl) (fun _ _ _ h => h) (Or.inr ⟨by kernel_rfl, rfl⟩) hS ?_
     simp only [Act.put]
     refine wpAnyH_take (i := 19) (v := undef) rfl (by kernel_rfl) (by kernel_rfl) (by kernel_rfl) (fun _ _ _ h => h) (Or.inr ⟨by kernel_rfl, rfl⟩) hS ?_
     simp only [Act.put]
     refine wpAnyH_take (i := 20) (v := undef) rfl (by kernel_rfl) (by kernel_rfl) (by kernel_rfl) (fun _ _ _ h => h) (Or.inr ⟨by kernel_rfl, rfl⟩) hS ?_
     simp only [Act.put]
     refine wpAnyH_take (i := 21) (v := undef) rfl (by kernel_rfl) (by kernel_rfl) (by kernel_rfl) (fun _ _ _ h => h) (Or.inr ⟨by kernel_rfl, rfl⟩) hS ?_
     simp only [Act.put]
     refine wpAnyH_take (i := 22) (v := undef) rfl (by kernel_rfl) (by kernel_rfl) (by kernel_rfl) (fun _ _ _ h => h) (Or.inr ⟨by kernel_rfl, rfl⟩) hS ?_
     simp only [Act.put]
     refine wpAnyH_take (i := 23) (v := undef) rfl (by kernel_rfl) (by kernel_rfl) (by kernel_rfl) (fun _ _ _ h => h) (Or.inr ⟨by kernel_rfl, rfl⟩) hS ?_
     simp only [Act.put]
     refine wpAnyH_take (i := 24) (v := undef) rfl (by kernel_rfl) (by kernel_rfl) (by kernel_rfl) (fun _ _ _ h => h) (Or.inr ⟨by kernel_rfl, rfl⟩) hS ?_
     simp only [Act.put]
     refine wpAnyH_take (i := 25) (v := undef) rfl (by kernel_rfl) (by kernel_rfl) (by kernel_rfl) (fun _ _ _ h => h) (Or.inr ⟨by kernel_rfl, rfl⟩) hS ?_
     simp only [Act.put]
     refine wpAnyH_take (i := 26) (v := undef) rfl (by kernel_rfl) (by kernel_rfl) (by kernel_rfl) (fun _ _ _ h => h) (Or.inr ⟨by kernel_rfl, rfl⟩) hS ?_
     simp only [Act.put]
     refine wpAnyH_take (i := 27) (v := undef) rfl (by kernel_rfl) (by kernel_rfl) (by kernel_rfl) (fun _ _ _ h => h) (Or.inr ⟨by kernel_rfl, rfl⟩) hS ?_
     simp only [Act.put]
     refine wpAnyH_take (i := 28) (v := undef) rfl (by kernel_rfl) (by kernel_rfl) (by kernel_rfl) (fun _ _ _ h => h) (Or.inr ⟨by kernel_rfl, rfl⟩) hS ?_
     simp only [Act.put]
     refine wpAnyH_take (i := 29) (v := undef) rfl (by kernel_rfl) (by kernel_rfl) (by kernel_rfl) (fun _ _ _ h => h) (Or.inr ⟨by kernel_rfl, rfl⟩) hS ?_
     simp only [Act.put]
     refine wpAnyH_take (i := 30) (v := .bool true) rfl (by kernel_rfl) (by kernel_rfl) (by kernel_rfl) (fun _ _ _ h => h) (Or.inl ⟨by kernel_rfl, fun w2 hS2 => by go_simp⟩) hS ?_
     simp only [Act.put]
     refine wpAnyH_done (by kernel_rfl) ?_ _
     go_simp
     go_wp2
     go_ret
     exact ⟨by rw [hr.out]; rfl, hB3⟩
    | true =>
     rw [h1] at hfit
     by_cases hk0 : k = 0
     ·have hal2 : Hid (∀ i, i < k + 1 → okAt L i = true) := all_succ hal.out (by unfold okAt; rw [hx.out, h1, hk0]; rfl)
      have hk0' : ¬ 0 < k := by omega
      clear h1 hk0
      go_wp2
      refine region_out (S := fun W => It W b (off + k * 6) va nn cont seg of wrt) hmx (It.next ⟨c0, c1, c2, c3, c4, c5⟩ (Below.refl _ _).drew) (fun hS => ?_)
      have hBd : Below w.heap.size w wr.drew := hb.drew
      generalize wr.drew = W3 at hS hBd ⊢
      refine wpAnyH_take (i := 0) (v := .slice (some ⟨b, off, none⟩) n cap) rfl (by kernel_rfl) (by kernel_rfl) (by kernel_rfl) (fun _ _ _ h => h) (Or.inl ⟨by kernel_rfl, fun w2 hS2 => by go_simp⟩) hS ?_
      simp only [Act.put]
      refine wpAnyH_take (i := 1) (v := .int .i64 (k : Int)) rfl (by kernel_rfl) (by kernel_rfl) (by kernel_rfl) (fun _ _ _ h => h) (Or.inl ⟨by kernel_rfl, fun w2 hS2 => by go_simp⟩) hS ?_
      simp only [Act.put]
      refine wpAnyH_take (i := 2) (v := .pointer (some ⟨b, off + k * 6, none⟩)) rfl (by kernel_rfl) (by kernel_rfl) (by kernel_rfl) (fun _ _ _ h => h) (Or.inl ⟨by kernel_rfl, fun w2 hS2 => by go_simp⟩) hS ?_
      simp only [Act.put]
      refine wpAnyH_take (i := 3) (v := .agg #[.int .i64 va, .int .i64 nn, .int .u64 cont, .int .u64 seg, .int .i64 of, .bool wrt]) rfl (by kernel_rfl) (by kernel_rfl) (by kernel_rfl) (fun _ _ _ h => h) (Or.inl ⟨by kernel_rfl, fun w2 hS2 => by obtain ⟨q0, q1, q2, q3, q4, q5⟩ := hS2; go_simp⟩) hS ?_
      simp only [Act.put]
      refine wpAnyH_ready (rs := [4]) (by kernel_rfl) (by simp) ?_
      refine AllReadyH.cons rfl (fun K hK => ?_) AllReadyH.nil
      go_simp
      refine (hfit _).mono ?_
      rintro e w1 ⟨rfl, hb1⟩
      have hS : It w1 b (off + k * 6) va nn cont seg of wrt := It.next hS hb1
      have hB3 : Below w.heap.size w w1 := hBd.trans (hb1.mono hBd.size)
      refine hK.out _ _ hS (fun hS => ?_)
      clear hK K
      refine wpAnyH_take (i := 5) (v := .bool false) rfl (by kernel_rfl) (by kernel_rfl) (by kernel_rfl) (fun _ _ _ h => h) (Or.inl ⟨by kernel_rfl, fun w2 hS2 => by go_simp⟩) hS ?_
      simp only [Act.put]
      refine wpAnyH_take (i := 6) (v := .bool false) rfl (by kernel_rfl) (by kernel_rfl) (by kernel_rfl) (fun _ _ _ h => h) (Or.inl ⟨by kernel_rfl, fun w2 hS2 => by go_simp⟩) hS ?_
      simp only [Act.put]
      refine wpAnyH_take (i := 7) (v := .int .i64 (k : Int)) rfl (by kernel_rfl) (by kernel_rfl) (by kernel_rfl) (fun _ _ _ h => h) (Or.inl ⟨by kernel_rfl, fun w2 hS2 => by go_simp⟩) hS ?_
      simp only [Act.put]
      refine wpAnyH_take (i := 8) (v := .bool false) rfl (by kernel_rfl) (by kernel_rfl) (by kernel_rfl) (fun _ _ _ h => h) (Or.inl ⟨by kernel_rfl, fun w2 hS2 => by go_simp⟩) hS ?_
      simp only [Act.put]
      refine wpAnyH_take (i := 9) (v := .bool false) rfl (by kernel_rfl) (by kernel_rfl) (by kernel_rfl) (fun _ _ _ h => h) (Or.inl ⟨by kernel_rfl, fun w2 hS2 => by go_simp⟩) hS ?_
      simp only [Act.put]
      refine wpAnyH_take (i := 10) (v := undef) rfl (by kernel_rfl) (by kernel_rfl) (by kernel_rfl) (fun _ _ _ h => h) (Or.inr ⟨by kernel_rfl, rfl⟩) hS ?_
      simp only [Act.put]
      refine wpAnyH_take (i := 11) (v := undef) rfl (by kernel_rfl) (by kernel_rfl) (by kernel_rfl) (fun _ _ _ h => h) (Or.inr ⟨by kernel_rfl, rfl⟩) hS ?_
      simp only [Act.put]
      refine wpAnyH_take (i := 12) (v := undef) rfl (by kernel_rfl) (by kernel_rfl) (by kernel_rfl) (fun _ _ _ h => h) (Or.inr ⟨by kernel_rfl, rfl⟩) hS ?_
      simp only [Act.put]
      refine wpAnyH_take (i := 13) (v := undef) rfl (by kernel_rfl) (by kernel_rfl) (by kernel_rfl) (fun _ _ _ h => h) (Or.inr ⟨by kernel_rfl, rfl⟩) hS ?_
      simp only [Act.put]
      refine wpAnyH_take (i := 14) (v := undef) rfl (by kernel_rfl) (by kernel_rfl) (by kernel_rfl) (fun _ _ _ h => h) (Or.inr ⟨by kernel_rfl, rfl⟩) hS ?_
      simp only [Act.put]
      refine wpAnyH_take (i := 15) (v := undef) rfl (by kernel_rfl) (by kernel_rfl) (by kernel_rfl) (fun _ _ _ h => h) (Or.inr ⟨by kernel_rfl, rfl⟩) hS ?_
      simp only [Act.put]
      refine wpAnyH_take (i := 16) (v := undef) rfl (by kernel_rfl) (by kernel_rfl) (by kernel_rfl) (fun _ _ _ h => h) (Or.inr ⟨by kernel_rfl, rfl⟩) hS ?_
      simp only [Act.put]
      refine wpAnyH_take (i := 17) (v := undef) rfl (by kernel_rfl) (by kernel_rfl) (by kernel_rfl) (fun _ _ _ h => h) (Or.inr ⟨by kernel_rfl, rfl⟩) hS ?_
      simp only [Act.put]
      refine wpAnyH_take (i := 18) (v := undef) rfl (by kernel_rfl) (by kernel_rfl) (by kernel_rfl) (fun _ _ _ h => h) (Or.inr ⟨by kernel_rfl, rfl⟩) hS ?_
      simp only [Act.put]
      refine wpAnyH_take (i := 19) (v := undef) rfl (by kernel_rfl) (by kernel_rfl) (by kernel_rfl) (fun _ _ _ h => h) (Or.inr ⟨by kernel_rfl, rfl⟩) hS ?_
      simp only [Act.put]
      refine wpAnyH_take (i := 20) (v := undef) rfl (by kernel_rfl) (by kernel_rfl) (by kernel_rfl) (fun _ _ _ h => h) (Or.inr ⟨by kernel_rfl, rfl⟩) hS ?_
      simp only [Act.put]
      refine wpAnyH_take (i := 21) (v := undef) rfl (by kernel_rfl) (by kernel_rfl) (by kernel_rfl) (fun _ _ _ h => h) (Or.inr ⟨by kernel_rfl, rfl⟩) hS ?_
      simp only [Act.put]
      refine wpAnyH_take (i := 22) (v := undef) rfl (by kernel_rfl) (by kernel_rfl) (by kernel_rfl) (fun _ _ _ h => h) (Or.inr ⟨by kernel_rfl, rfl⟩) hS ?_
      simp only [Act.put]
      refine wpAnyH_take (i := 23) (v := undef) rfl (by kernel_rfl) (by kernel_rfl) (by kernel_rfl) (fun _ _ _ h => h) (Or.inr ⟨by kernel_rfl, rfl⟩) hS ?_
      simp only [Act.put]
      refine wpAnyH_take (i := 24) (v := undef) rfl (by kernel_rfl) (by kernel_rfl) (by kernel_rfl) (fun _ _ _ h => h) (Or.inr ⟨by kernel_rfl, rfl⟩) hS ?_
      simp only [Act.put]
      refine wpAnyH_take (i := 25) (v := undef) rfl (by kernel_rfl) (by kernel_rfl) (by kernel_rfl) (fun _ _ _ h => h) (Or.inr ⟨by kernel_rfl, rfl⟩) hS ?_
      simp only [Act.put]
      refine wpAnyH_take (i := 26) (v := undef) rfl (by kernel_rfl) (by kernel_rfl) (by kernel_rfl) (fun _ _ _ h => h) (Or.inr ⟨by kernel_rfl, rfl⟩) hS ?_
      simp only [Act.put]
      refine wpAnyH_take (i := 27) (v := undef) rfl (by kernel_rfl) (by kernel_rfl) (by kernel_rfl) (fun _ _ _ h => h) (Or.inr ⟨by kernel_rfl, rfl⟩) hS ?_
      simp only [Act.put]
      refine wpAnyH_take (i := 28) (v := undef) rfl (by kernel_rfl) (by kernel_rfl) (by kernel_rfl) (fun _ _ _ h => h) (Or.inr ⟨by kernel_rfl, rfl⟩) hS ?_
      simp only [Act.put]
      refine wpAnyH_take (i := 29) (v := .bool false) rfl (by kernel_rfl) (by kernel_rfl) (by kernel_rfl) (fun _ _ _ h => h) (Or.inl ⟨by kernel_rfl, fun w2 hS2 => by go_simp⟩) hS ?_
      simp only [Act.put]
      refine wpAnyH_take (i := 30) (v := .bool false) rfl (by kernel_rfl) (by kernel_rfl) (by kernel_rfl) (fun _ _ _ h => h) (Or.inl ⟨by kernel_rfl, fun w2 hS2 => by go_simp⟩) hS ?_
      simp only [Act.put]
      refine wpAnyH_done (by kernel_rfl) ?_ _
      go_simp
      go_wp2
      go_roundw
      case rel => exact ⟨k + 1, by omega, by simp, hal2, hB3⟩
      case measure => simp [intOf]; omega
     ·obtain ⟨j, hj⟩ : ∃ j, Hid (k = j + 1) := ⟨k - 1, by show _ = _; omega⟩
      have hw : IntKind.i64.wrap ((k : Int) - 1) = (j : Int) := by have := hj.out; rw [IntKind.wrap_i64]; omega
      have hkp : 0 < k := by omega
      have hjn : j < n := by have := hj.out; omega
      have hjn' : (j : Int) < n := by omega
      obtain ⟨b', off', va0, nn0, cont0, seg0, of0, wrt0, e0, _, hx0, d0, d1, _⟩ := MpsD.at (hL.later hb) hjn
      cases e0
      have h10 : oneB ⟨va0, nn0, cont0, seg0, of0, wrt0⟩ = true := by
       have := hal.out j (by rw [hj.out]; omega)
       unfold okAt at this
       rw [hx0.out, Bool.and_eq_true] at this
       exact this.1
      have h10' := oneB_iff.1 h10
      simp only at h10'
      have hok : Hid (okAt L k = decide (va0 + nn0 ≤ va)) := by
       show _ = _
       unfold okAt
       rw [show k - 1 = j by rw [hj.out]; omega, hx.out, hx0.out, h1, decide_eq_false hk0]
       rfl
      have hw2 : IntKind.i64.wrap (va0 + nn0) = va0 + nn0 := by rw [IntKind.wrap_i64]; omega
      clear h10 h10' hk0 h1
      by_cases hq : va0 + nn0 ≤ va
      ·have hal2 : Hid (∀ i, i < k + 1 → okAt L i = true) := all_succ hal.out (by rw [hok.out, decide_eq_true hq])
       have hq' : decide (va < va0 + nn0) = false := by rw [decide_eq_false_iff_not]; omega
       clear hok
       go_wp2
       have HS : Pq wr b (off + j * 6) (off + k * 6) va0 nn0 va nn cont seg of wrt wr.drew := Pq.next ⟨d0, d1, c0, c1, c2, c3, c4, c5, Below.refl _ _⟩ (Below.refl _ _).drew
       clear d0 d1 c0 c1 c2 c3 c4 c5
       go_region_held3 (fun W => W.cell? ⟨b, off + j * 6, none⟩ = some (.int .i64 va0) ∧ W.cell? ⟨b, off + j * 6 + 1, none⟩ = some (.int .i64 nn0) ∧ W.cell? ⟨b, off + k * 6, none⟩ = some (.int .i64 va) ∧ W.cell? ⟨b, off + k * 6 + 1, none⟩ = some (.int .i64 nn) ∧ W.cell? ⟨b, off + k * 6 + 2, none⟩ = some (.int .u64 cont) ∧ W.cell? ⟨b, off + k * 6 + 3, none⟩ = some (.int .u64 seg) ∧ W.cell? ⟨b, off + k * 6 + 4, none⟩ = some (.int .i64 of) ∧ W.cell? ⟨b, off + k * 6 + 5, none⟩ = some (.bool wrt) ∧ Below wr.heap.size wr W) (first | exact HS | exact Pq.next (by assumption) hb2 | go_keep | fail) (first | (go_at_call 73; (with_reducible refine (hfit _).mono ?_); rintro e w' ⟨rfl, hb2⟩) | fail)
       have hfin : Below wr.heap.size wr w' := Pq.bel (by assumption : Pq wr b (off + j * 6) (off + k * 6) va0 nn0 va nn cont seg of wrt w')
       have hB3 : Below w.heap.size w w' := hb.trans (hfin.mono hb.size)
       go_wp2
       go_roundw
       case rel => exact ⟨k + 1, by omega, by simp, hal2, hB3⟩
       case measure => simp [intOf]; omega
      ·have hr : Hid (fitB L = false) := fitB_no hkl.out (by rw [hok.out, decide_eq_false hq])
       have hq' : decide (va < va0 + nn0) = true := by rw [decide_eq_true_iff]; omega
       clear hok
       go_wp2
       have HS : Pq wr b (off + j * 6) (off + k * 6) va0 nn0 va nn cont seg of wrt wr.drew := Pq.next ⟨d0, d1, c0, c1, c2, c3, c4, c5, Below.refl _ _⟩ (Below.refl _ _).drew
       clear d0 d1 c0 c1 c2 c3 c4 c5
       go_region_held3 (fun W => W.cell? ⟨b, off + j * 6, none⟩ = some (.int .i64 va0) ∧ W.cell? ⟨b, off + j * 6 + 1, none⟩ = some (.int .i64 nn0) ∧ W.cell? ⟨b, off + k * 6, none⟩ = some (.int .i64 va) ∧ W.cell? ⟨b, off + k * 6 + 1, none⟩ = some (.int .i64 nn) ∧ W.cell? ⟨b, off + k * 6 + 2, none⟩ = some (.int .u64 cont) ∧ W.cell? ⟨b, off + k * 6 + 3, none⟩ = some (.int .u64 seg) ∧ W.cell? ⟨b, off + k * 6 + 4, none⟩ = some (.int .i64 of) ∧ W.cell? ⟨b, off + k * 6 + 5, none⟩ = some (.bool wrt) ∧ Below wr.heap.size wr W) (first | exact HS | exact Pq.next (by assumption) hb2 | go_keep | fail) (first | (go_at_call 73; (with_reducible refine (hfit _).mono ?_); rintro e w' ⟨rfl, hb2⟩) | fail)
       have hfin : Below wr.heap.size wr w' := Pq.bel (by assumption : Pq wr b (off + j * 6) (off + k * 6) va0 nn0 va nn cont seg of wrt w')
       have hB3 : Below w.heap.size w w' := hb.trans (hfin.mono hb.size)
       go_wp2
       go_ret
       exact ⟨by rw [hr.out]; rfl, hB3⟩
   ·obtain rfl : k = n := by omega
    have hr : Hid (fitB L = true) := fitB_yes (by rw [hln.out]; exact hn16'.out) (fun i hi => hal.out i (by rw [hln.out] at hi; exact hi))
    go_wp2
    go_ret
    exact ⟨by rw [hr.out]; rfl, hb⟩
end Go.Proofs.YtiiaohejldchdaaGreat.PgM
namespace Go.Proofs.YtiiaohejldchdaaGreat.PgM
set_option maxRecDepth 100000
set_option maxHeartbeats 8000000
open Go.RowKit Go.Shelf
set_option linter.unusedVariables false
attribute [local go_sem] Oper.semAt_some
open Pg

theorem eqB_no {x y : Mp} (h : ¬ x = y) : eqB x y = false := by
 cases hq : eqB x y with
 | false => rfl
 | true => exact absurd (eqB_iff.1 hq) h
theorem diff {a0 a1 a2 a3 a4 : Int} {a5 : Bool} {b0 b1 b2 b3 b4 : Int} {b5 : Bool} (h : ¬ (⟨a0, a1, a2, a3, a4, a5⟩ : Mp) = ⟨b0, b1, b2, b3, b4, b5⟩) :
  (a0 == b0) = false ∨ (a0 = b0 ∧ (a1 == b1) = false) ∨ (a0 = b0 ∧ a1 = b1 ∧ (a2 == b2) = false) ∨ (a0 = b0 ∧ a1 = b1 ∧ a2 = b2 ∧ (a3 == b3) = false) ∨ (a0 = b0 ∧ a1 = b1 ∧ a2 = b2 ∧ a3 = b3 ∧ (a4 == b4) = false) ∨ (a0 = b0 ∧ a1 = b1 ∧ a2 = b2 ∧ a3 = b3 ∧ a4 = b4 ∧ (a5 == b5) = false) := by
 by_cases h0 : a0 = b0
 ·by_cases h1 : a1 = b1
  ·by_cases h2 : a2 = b2
   ·by_cases h3 : a3 = b3
    ·by_cases h4 : a4 = b4
     ·by_cases h5 : a5 = b5
      ·exact absurd (by rw [h0, h1, h2, h3, h4, h5]) h
      ·exact .inr (.inr (.inr (.inr (.inr ⟨h0, h1, h2, h3, h4, by rw [beq_eq_false_iff_ne]; exact h5⟩))))
     ·exact .inr (.inr (.inr (.inr (.inl ⟨h0, h1, h2, h3, by rw [beq_eq_false_iff_ne]; exact h4⟩))))
    ·exact .inr (.inr (.inr (.inl ⟨h0, h1, h2, by rw [beq_eq_false_iff_ne]; exact h3⟩)))
   ·exact .inr (.inr (.inl ⟨h0, h1, by rw [beq_eq_false_iff_ne]; exact h2⟩))
  ·exact .inr (.inl ⟨h0, by rw [beq_eq_false_iff_ne]; exact h1⟩)
 ·exact .inl (by rw [beq_eq_false_iff_ne]; exact h0)
theorem eqs_succ {p q : Nat → Mp} {k : Nat} (h : ∀ i, i < k → eqB (p i) (q i) = true) (hk : eqB (p k) (q k) = true) : ∀ i, i < k + 1 → eqB (p i) (q i) = true := fun i hi => by
 rcases Nat.lt_or_ge i k with h' | h'
 ·exact h i h'
 ·have : i = k := by omega
  rw [this]; exact hk
theorem rsame_any {w : World} {a a' : Option Addr} {n c n' c' : Nat} {L M : List Mp} (h : Mps w.heap.size w a n c L) (h' : Mps w.heap.size w a' n' c' M) :
  Calls Tryz.prog 35 #[.slice a n c, .slice a' n' c'] w fun e w' => e = .returned (.bool (sameB L M)) ∧ Below w.heap.size w w' := by
 have hn : Hid (L.length = n) := h.1
 have hn' : Hid (M.length = n') := h'.1
 have hnc := h.2.1
 have hcm := h.2.2.1.1
 have hnc' := h'.2.1
 have hcm' := h'.2.2.1.1
 by_cases hnn : n = n'
 ·subst hnn
  go_enter Tryz.func35, Tryz.ntmps35
  go_wp2
  go_loopw [5] (fun i wr => ∃ k : Nat, k ≤ n ∧ i = .int .i64 k ∧ Hid (∀ j, j < k → eqB (mat L j) (mat M j) = true) ∧ Below w.heap.size w wr) (fun i _ => n - (intOf i).toNat)
  case atStart => exact ⟨0, Nat.zero_le _, rfl, fun j hj => absurd hj (by omega), Below.refl _ _⟩
  case round =>
   obtain ⟨k, hk, rfl, hal, hb⟩ := hrel
   by_cases hkn : k < n
   ·obtain ⟨b, off, va, nn, cont, seg, of, wrt, rfl, hB, hx, c0, c1, c2, c3, c4, c5⟩ := MpsD.at (h.later hb) hkn
    obtain ⟨b', off', va', nn', cont', seg', of', wrt', rfl, hB', hx', d0, d1, d2, d3, d4, d5⟩ := MpsD.at (h'.later hb) hkn
    have hkn' : (k : Int) < n := by omega
    by_cases hxx : (⟨va, nn, cont, seg, of, wrt⟩ : Mp) = ⟨va', nn', cont', seg', of', wrt'⟩
    ·have hal2 : Hid (∀ j, j < k + 1 → eqB (mat L j) (mat M j) = true) := eqs_succ hal.out (by rw [hx.out, hx'.out, hxx]; exact eqB_refl _)
     simp only [Mp.mk.injEq] at hxx
     obtain ⟨rfl, rfl, rfl, rfl, rfl, rfl⟩ := hxx
     go_wp2
     go_quiet (fail)
     go_wp2
     go_roundw
     case rel => exact ⟨k + 1, by omega, by go_num, hal2, below_drewN hb _⟩
     case measure => simp [intOf]; omega
    ·have hf : Hid (sameB L M = false) := sameB_at (k := k) (by rw [hn.out]; exact hkn) (by rw [hx.out, hx'.out]; exact eqB_no hxx)
     rcases diff hxx with hd | ⟨rfl, hd⟩ | ⟨rfl, rfl, hd⟩ | ⟨rfl, rfl, rfl, hd⟩ | ⟨rfl, rfl, rfl, rfl, hd⟩ | ⟨rfl, rfl, rfl, rfl, rfl, hd⟩
     ·clear hxx
      go_wp2
      go_quiet (fail)
      go_wp2
      go_ret
      exact ⟨(by rw [hf.out]; rfl), below_drewN hb _⟩
     ·clear hxx
      go_wp2
      go_quiet (fail)
      go_wp2
      go_ret
      exact ⟨(by rw [hf.out]; rfl), below_drewN hb _⟩
     ·clear hxx
      go_wp2
      go_quiet (fail)
      go_wp2
      go_ret
      exact ⟨(by rw [hf.out]; rfl), below_drewN hb _⟩
     ·clear hxx
      go_wp2
      go_quiet (fail)
      go_wp2
      go_ret
      exact ⟨(by rw [hf.out]; rfl), below_drewN hb _⟩
     ·clear hxx
      go_wp2
      go_quiet (fail)
      go_wp2
      go_ret
      exact ⟨(by rw [hf.out]; rfl), below_drewN hb _⟩
     ·clear hxx
      go_wp2
      go_quiet (fail)
      go_wp2
      go_ret
      exact ⟨(by rw [hf.out]; rfl), below_drewN hb _⟩
   ·obtain rfl : k = n := by omega
    have hf : Hid (sameB L M = true) := sameB_all (by rw [hn.out, hn'.out]) (fun i hi => hal.out i (by rw [hn.out] at hi; exact hi))
    go_wp2
    go_ret
    exact ⟨(by rw [hf.out]; rfl), hb⟩
 ·have hf : Hid (sameB L M = false) := sameB_len (by rw [hn.out, hn'.out]; exact hnn)
  have hne : ((n : Int) == (n' : Int)) = false := by simp; omega
  go_enter Tryz.func35, Tryz.ntmps35
  go_wp2
  go_ret
  exact ⟨(by rw [hf.out]; rfl), Below.refl _ _⟩
end Go.Proofs.YtiiaohejldchdaaGreat.PgM
