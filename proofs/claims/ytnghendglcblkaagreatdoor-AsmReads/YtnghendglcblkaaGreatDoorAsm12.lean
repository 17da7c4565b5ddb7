/-
  PROVED HERE: what withNumber and withPart of package asm return when they are called (contracts over this translation). Texts of at most 65536 bytes.
-/
import Derived.Test.YtnghendglcblkaaGreatDoorAsm11
namespace Go.Proofs.YtnghendglcblkaaGreatDoor
open Go.RowKit Go.Shelf
set_option linter.unusedVariables false
open Asm

section
variable {W : World} {B : Nat} {m : ByteArray} {op a b c i : Int} {tt : ByteArray}
theorem Lb.setA (h : Lb W B m op a b c i tt) (x : Int) : Lb (W.setCell ⟨B, 2, none⟩ (.int .i64 x)) B m op x b c i tt := (heap_setCell_same W B 2 _ 37 (.int .i64 x) h).trans (by simp)
theorem Lb.setB (h : Lb W B m op a b c i tt) (x : Int) : Lb (W.setCell ⟨B, 3, none⟩ (.int .i64 x)) B m op a x c i tt := (heap_setCell_same W B 3 _ 37 (.int .i64 x) h).trans (by simp)
theorem Lb.setC (h : Lb W B m op a b c i tt) (x : Int) : Lb (W.setCell ⟨B, 4, none⟩ (.int .i64 x)) B m op a b x i tt := (heap_setCell_same W B 4 _ 37 (.int .i64 x) h).trans (by simp)
theorem Lb.setI (h : Lb W B m op a b c i tt) (x : Int) : Lb (W.setCell ⟨B, 5, none⟩ (.int .i32 x)) B m op a b c x tt := (heap_setCell_same W B 5 _ 37 (.int .i32 x) h).trans (by simp)
theorem Lb.setT (h : Lb W B m op a b c i tt) (x : ByteArray) : Lb (W.setCell ⟨B, 6, none⟩ (.string x)) B m op a b c i x := (heap_setCell_same W B 6 _ 37 (.string x) h).trans (by simp)
def set7 (W : World) (B : Nat) (m : ByteArray) (op a b c i : Int) (tt : ByteArray) : World := ((((((W.setCell ⟨B, 0, none⟩ (.string m)).setCell ⟨B, 1, none⟩ (.int .i64 op)).setCell ⟨B, 2, none⟩ (.int .i64 a)).setCell ⟨B, 3, none⟩ (.int .i64 b)).setCell ⟨B, 4, none⟩ (.int .i64 c)).setCell ⟨B, 5, none⟩ (.int .i32 i)).setCell ⟨B, 6, none⟩ (.string tt)
theorem Lb.set7 (h : Lb W B m op a b c i tt) (m' : ByteArray) (op' a' b' c' i' : Int) (t' : ByteArray) : Lb (set7 W B m' op' a' b' c' i' t') B m' op' a' b' c' i' t' := by
  have h1 := heap_setCell_same W B 0 _ 37 (.string m') h
  have h2 := heap_setCell_same _ B 1 _ 37 (.int .i64 op') h1
  have h3 := heap_setCell_same _ B 2 _ 37 (.int .i64 a') h2
  have h4 := heap_setCell_same _ B 3 _ 37 (.int .i64 b') h3
  have h5 := heap_setCell_same _ B 4 _ 37 (.int .i64 c') h4
  have h6 := heap_setCell_same _ B 5 _ 37 (.int .i32 i') h5
  have h7 := heap_setCell_same _ B 6 _ 37 (.string t') h6
  exact h7.trans (by simp)
theorem set7_from {w : World} {C : Nat} (h : Below C w W) (hB : C ≤ B) (m : ByteArray) (op a b c i : Int) (tt : ByteArray) : Below C w (set7 W B m op a b c i tt) :=
  ((((((h.setCell (p := ⟨B, 0, none⟩) hB _).setCell (p := ⟨B, 1, none⟩) hB _).setCell (p := ⟨B, 2, none⟩) hB _).setCell (p := ⟨B, 3, none⟩) hB _).setCell (p := ⟨B, 4, none⟩) hB _).setCell (p := ⟨B, 5, none⟩) hB _).setCell (p := ⟨B, 6, none⟩) hB _
end
def wNum (x : Ln) (t : ByteArray) : Ln :=
  if hP t ⟨#[64]⟩ then ⟨x.mark, x.op, x.a, x.b, x.c, wrap32 (numI (bl (c2 (tP t ⟨#[64]⟩) ⟨#[43]⟩))), c1 (tP t ⟨#[64]⟩) ⟨#[43]⟩⟩ else ⟨x.mark, x.op, x.a, x.b, x.c, wrap32 (numI (bl t)), x.to⟩
theorem tP_size (s p : ByteArray) : (tP s p).size ≤ s.size := by
  unfold tP
  rw [sb_size, ← bl_len]
  unfold Lib.trimPrefix
  split
  · rw [List.length_drop]; omega
  · omega
theorem c1_size (s p : ByteArray) : (c1 s p).size ≤ s.size := by
  unfold c1
  rw [sb_size, ← bl_len]
  unfold Lib.cut
  split
  · rw [List.length_take]; omega
  · exact Nat.le_refl _
theorem c2_size (s p : ByteArray) : (c2 s p).size ≤ s.size := by
  unfold c2
  rw [sb_size, ← bl_len]
  unfold Lib.cut
  split
  · rw [List.length_drop]; omega
  · exact Nat.zero_le _
set_option maxRecDepth 100000 in
set_option maxHeartbeats 2000000 in
theorem withNumber_any (x : Ln) (t : ByteArray) (ht : t.size ≤ 65536) (w : World) (hv : AVars w) :
    Calls Tryz.prog 53 #[.agg (lnV x), .string t] w fun e w' => e = .returned (.agg (lnV (wNum x t))) ∧ Below w.heap.size w w' := by
  obtain ⟨m, op, a, b, c, i, tt⟩ := x
  have hB2 : Below w.heap.size w ((w.alloc (.cells #[.string m, .int .i64 op, .int .i64 a, .int .i64 b, .int .i64 c, .int .i32 i, .string tt] 37)).alloc (.cells #[.string ⟨#[]⟩, .int .i64 0, .int .i64 0, .int .i64 0, .int .i64 0, .int .i32 0, .string ⟨#[]⟩] 37)) := ((Below.refl _ w).alloc (Nat.le_refl _) _).alloc (by simp) _
  have hL1 := (Lb.new w m op a b c i tt).alloc (.cells #[.string ⟨#[]⟩, .int .i64 0, .int .i64 0, .int .i64 0, .int .i64 0, .int .i32 0, .string ⟨#[]⟩] 37)
  have hR1 := Lb.new (w.alloc (.cells #[.string m, .int .i64 op, .int .i64 a, .int .i64 b, .int .i64 c, .int .i32 i, .string tt] 37)) ⟨#[]⟩ 0 0 0 0 0 ⟨#[]⟩
  simp only [World.size_alloc] at hR1
  have hV2 := hv.later hB2
  go_enter Tryz.func53, Tryz.ntmps53
  cases hg : hP t ⟨#[64]⟩ with
  | false =>
    have hr : Hid (lnV (wNum ⟨m, op, a, b, c, i, tt⟩ t) = #[.string m, .int .i64 op, .int .i64 a, .int .i64 b, .int .i64 c, .int .i32 (wrap32 (numI (bl t))), .string tt]) := by show _ = _; unfold wNum; rw [hg]; rfl
    unfold lnV
    dsimp only
    have hcp := fun W => cutPrefix_any t ⟨#[64]⟩ W
    simp only [hg] at hcp
    go_wp2_with (first | (go_at_call 77; refine (hcp _).mono ?_; rintro e w1 ⟨rfl, rfl⟩) | (go_at_call 78; refine (parseInt_any t ht _ hV2).mono ?_; rintro e w3 ⟨⟨u, rfl⟩, hb3⟩; have hL3 := hL1.next hb3; obtain ⟨d0, d1, d2, d3, d4, d5, d6⟩ := hL3.cells; have df := hL3.frozen; have hL4 := hL3.setI (wrap32 (numI (bl t))); obtain ⟨e0, e1, e2, e3, e4, e5, e6⟩ := hL4.cells; have hR4 := (hR1.next hb3).other (g := w.heap.size) (j := 5) (x := .int .i32 (wrap32 (numI (bl t)))) (by omega); obtain ⟨f0, f1, f2, f3, f4, f5, f6⟩ := hR4.cells; have ff := hR4.frozen))
    have hL5 := hR4.set7 m op a b c (wrap32 (numI (bl t))) tt
    obtain ⟨g0, g1, g2, g3, g4, g5, g6⟩ := hL5.cells
    unfold set7 at g0 g1 g2 g3 g4 g5 g6
    refine bodyPost_ret (v := .agg #[.string m, .int .i64 op, .int .i64 a, .int .i64 b, .int .i64 c, .int .i32 (wrap32 (numI (bl t))), .string tt]) (by simp [results, Tryz.f53, go_sem, g0, g1, g2, g3, g4, g5, g6]) rfl ?_
    have hB3 := (hB2.trans (hb3.mono hB2.size)).setCell (p := ⟨w.heap.size, 5, none⟩) (Nat.le_refl _) (.int .i32 (wrap32 (numI (bl t))))
    exact ⟨by rw [← hr.out]; rfl, set7_from hB3 (Nat.le_succ _) _ _ _ _ _ _ _⟩
  | true =>
    have hcp := fun W => cutPrefix_any t ⟨#[64]⟩ W
    simp only [hg] at hcp
    have hz1 := tP_size t ⟨#[64]⟩
    have hz2 := c2_size (tP t ⟨#[64]⟩) ⟨#[43]⟩
    have hr : Hid (lnV (wNum ⟨m, op, a, b, c, i, tt⟩ t) = #[.string m, .int .i64 op, .int .i64 a, .int .i64 b, .int .i64 c, .int .i32 (wrap32 (numI (bl (c2 (tP t ⟨#[64]⟩) ⟨#[43]⟩)))), .string (c1 (tP t ⟨#[64]⟩) ⟨#[43]⟩)]) := by show _ = _; unfold wNum; rw [hg]; rfl
    unfold lnV
    dsimp only
    have hct := fun W2 hV2 => cut_any (tP t ⟨#[64]⟩) ⟨#[43]⟩ W2 (by omega) hV2
    have hpi := fun W2 hV2 => parseInt_any (c2 (tP t ⟨#[64]⟩) ⟨#[43]⟩) (by omega) W2 hV2
    obtain ⟨q, hq⟩ : ∃ q, c2 (tP t ⟨#[64]⟩) ⟨#[43]⟩ = q := ⟨_, rfl⟩
    obtain ⟨p, hp⟩ : ∃ p, c1 (tP t ⟨#[64]⟩) ⟨#[43]⟩ = p := ⟨_, rfl⟩
    simp only [hq, hp] at hct hpi
    rw [hq, hp] at hr
    clear hq hp hz1 hz2
    go_wp2_with (first | (go_at_call 77; refine (hcp _).mono ?_; rintro e w1 ⟨rfl, rfl⟩) | (go_at_call 23; refine (hct _ hV2).mono ?_; rintro e w2 ⟨rfl, hb2⟩; have hL2 := hL1.next hb2; obtain ⟨k0, k1, k2, k3, k4, k5, k6⟩ := hL2.cells; have kf := hL2.frozen; have hL2t := hL2.setT p; have hR2t := (hR1.next hb2).other (g := w.heap.size) (j := 6) (x := .string p) (by omega); have hB2t := (hB2.trans (hb2.mono hB2.size)).setCell (p := ⟨w.heap.size, 6, none⟩) (Nat.le_refl _) (.string p)) | (go_at_call 78; refine (hpi _ (hv.later hB2t)).mono ?_; rintro e w3 ⟨⟨u, rfl⟩, hb3⟩; have hL3 := hL2t.next hb3; obtain ⟨d0, d1, d2, d3, d4, d5, d6⟩ := hL3.cells; have df := hL3.frozen; have hL4 := hL3.setI (wrap32 (numI (bl q))); obtain ⟨e0, e1, e2, e3, e4, e5, e6⟩ := hL4.cells; have hR4 := (hR2t.next hb3).other (g := w.heap.size) (j := 5) (x := .int .i32 (wrap32 (numI (bl q)))) (by omega); obtain ⟨f0, f1, f2, f3, f4, f5, f6⟩ := hR4.cells; have ff := hR4.frozen))
    have hL5 := hR4.set7 m op a b c (wrap32 (numI (bl q))) p
    obtain ⟨g0, g1, g2, g3, g4, g5, g6⟩ := hL5.cells
    unfold set7 at g0 g1 g2 g3 g4 g5 g6
    refine bodyPost_ret (v := .agg #[.string m, .int .i64 op, .int .i64 a, .int .i64 b, .int .i64 c, .int .i32 (wrap32 (numI (bl q))), .string p]) (by simp [results, Tryz.f53, go_sem, g0, g1, g2, g3, g4, g5, g6]) rfl ?_
    have hB3 := (hB2t.trans (hb3.mono hB2t.size)).setCell (p := ⟨w.heap.size, 5, none⟩) (Nat.le_refl _) (.int .i32 (wrap32 (numI (bl q))))
    exact ⟨by rw [← hr.out]; rfl, set7_from hB3 (Nat.le_succ _) _ _ _ _ _ _ _⟩
end Go.Proofs.YtnghendglcblkaaGreatDoor
