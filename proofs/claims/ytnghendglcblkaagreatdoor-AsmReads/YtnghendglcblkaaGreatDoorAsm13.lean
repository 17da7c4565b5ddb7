/-
  PROVED HERE: what withPart of package asm returns when it is called, for each letter of a shape (a contract over this translation). Texts of at most 65536 bytes.
-/
import Derived.Test.YtnghendglcblkaaGreatDoorAsm12
namespace Go.Proofs.YtnghendglcblkaaGreatDoor
open Go.RowKit Go.Shelf
set_option linter.unusedVariables false
open Asm

def wPart (x : Ln) (l : Int) (t : ByteArray) : Ln :=
  if l = 105 then wNum x t
  else if l = 97 then ⟨x.mark, x.op, atoI (bl (tP t ⟨#[114]⟩)), x.b, x.c, x.i, x.to⟩
  else if l = 98 then ⟨x.mark, x.op, x.a, atoI (bl (tP t ⟨#[114]⟩)), x.c, x.i, x.to⟩
  else if l = 99 then ⟨x.mark, x.op, x.a, x.b, atoI (bl (tP t ⟨#[114]⟩)), x.i, x.to⟩
  else x
theorem wNum_i (x : Ln) (t : ByteArray) : -2147483648 ≤ (wNum x t).i ∧ (wNum x t).i < 2147483648 := by
  unfold wNum
  split <;> (unfold wrap32; dsimp only; omega)
theorem wPart_i {x : Ln} (h : -2147483648 ≤ x.i ∧ x.i < 2147483648) (l : Int) (t : ByteArray) : -2147483648 ≤ (wPart x l t).i ∧ (wPart x l t).i < 2147483648 := by
  unfold wPart
  split
  · exact wNum_i x t
  · repeat' split
    all_goals exact h
set_option maxRecDepth 100000 in
set_option maxHeartbeats 2000000 in
theorem withPart_any (x : Ln) (l : Int) (hl : l = 97 ∨ l = 98 ∨ l = 99 ∨ l = 105) (t : ByteArray) (ht : t.size ≤ 65536) (w : World) (hv : AVars w) :
    Calls Tryz.prog 28 #[.agg (lnV x), .int .i32 l, .string t] w fun e w' => e = .returned (.agg (lnV (wPart x l t))) ∧ Below w.heap.size w w' := by
  have hwn := fun W hV => withNumber_any x t ht W hV
  obtain ⟨m, op, a, b, c, i, tt⟩ := x
  have hB2 : Below w.heap.size w ((w.alloc (.cells #[.string m, .int .i64 op, .int .i64 a, .int .i64 b, .int .i64 c, .int .i32 i, .string tt] 37)).alloc (.cells #[.string ⟨#[]⟩, .int .i64 0, .int .i64 0, .int .i64 0, .int .i64 0, .int .i32 0, .string ⟨#[]⟩] 37)) := ((Below.refl _ w).alloc (Nat.le_refl _) _).alloc (by simp) _
  have hL1 := (Lb.new w m op a b c i tt).alloc (.cells #[.string ⟨#[]⟩, .int .i64 0, .int .i64 0, .int .i64 0, .int .i64 0, .int .i32 0, .string ⟨#[]⟩] 37)
  have hR1 := Lb.new (w.alloc (.cells #[.string m, .int .i64 op, .int .i64 a, .int .i64 b, .int .i64 c, .int .i32 i, .string tt] 37)) ⟨#[]⟩ 0 0 0 0 0 ⟨#[]⟩
  simp only [World.size_alloc] at hR1
  have hV2 := hv.later hB2
  have hz1 := tP_size t ⟨#[114]⟩
  have hat := fun W2 hV2 => atoi_any (tP t ⟨#[114]⟩) (by omega) W2 hV2
  obtain ⟨n, hn⟩ : ∃ n, atoI (bl (tP t ⟨#[114]⟩)) = n := ⟨_, rfl⟩
  simp only [hn] at hat
  go_enter Tryz.func28, Tryz.ntmps28
  rcases hl with rfl | rfl | rfl | rfl
  · have hr : Hid (lnV (wPart ⟨m, op, a, b, c, i, tt⟩ 97 t) = #[.string m, .int .i64 op, .int .i64 n, .int .i64 b, .int .i64 c, .int .i32 i, .string tt]) := by show _ = _; rw [← hn]; rfl
    unfold lnV
    dsimp only
    go_wp2_with (first | (go_at_call 55; refine (trimPrefix_any _ _ _).mono ?_; rintro e w1 ⟨rfl, rfl⟩) | (go_at_call 54; refine (hat _ hV2).mono ?_; rintro e w3 ⟨⟨u, rfl⟩, hb3⟩; have hL3 := hL1.next hb3; obtain ⟨d0, d1, d2, d3, d4, d5, d6⟩ := hL3.cells; have df := hL3.frozen; have hL4 := hL3.setA n; obtain ⟨e0, e1, e2, e3, e4, e5, e6⟩ := hL4.cells; have hR4 := (hR1.next hb3).other (g := w.heap.size) (j := 2) (x := .int .i64 n) (by omega); obtain ⟨f0, f1, f2, f3, f4, f5, f6⟩ := hR4.cells; have ff := hR4.frozen))
    have hL5 := hR4.set7 m op n b c i tt
    obtain ⟨g0, g1, g2, g3, g4, g5, g6⟩ := hL5.cells
    unfold set7 at g0 g1 g2 g3 g4 g5 g6
    refine bodyPost_ret (v := .agg #[.string m, .int .i64 op, .int .i64 n, .int .i64 b, .int .i64 c, .int .i32 i, .string tt]) (by simp [results, Tryz.f28, go_sem, g0, g1, g2, g3, g4, g5, g6]) rfl ?_
    have hB3 := (hB2.trans (hb3.mono hB2.size)).setCell (p := ⟨w.heap.size, 2, none⟩) (Nat.le_refl _) (.int .i64 n)
    exact ⟨by rw [← hr.out]; rfl, set7_from hB3 (Nat.le_succ _) _ _ _ _ _ _ _⟩
  · have hr : Hid (lnV (wPart ⟨m, op, a, b, c, i, tt⟩ 98 t) = #[.string m, .int .i64 op, .int .i64 a, .int .i64 n, .int .i64 c, .int .i32 i, .string tt]) := by show _ = _; rw [← hn]; rfl
    unfold lnV
    dsimp only
    go_wp2_with (first | (go_at_call 55; refine (trimPrefix_any _ _ _).mono ?_; rintro e w1 ⟨rfl, rfl⟩) | (go_at_call 54; refine (hat _ hV2).mono ?_; rintro e w3 ⟨⟨u, rfl⟩, hb3⟩; have hL3 := hL1.next hb3; obtain ⟨d0, d1, d2, d3, d4, d5, d6⟩ := hL3.cells; have df := hL3.frozen; have hL4 := hL3.setB n; obtain ⟨e0, e1, e2, e3, e4, e5, e6⟩ := hL4.cells; have hR4 := (hR1.next hb3).other (g := w.heap.size) (j := 3) (x := .int .i64 n) (by omega); obtain ⟨f0, f1, f2, f3, f4, f5, f6⟩ := hR4.cells; have ff := hR4.frozen))
    have hL5 := hR4.set7 m op a n c i tt
    obtain ⟨g0, g1, g2, g3, g4, g5, g6⟩ := hL5.cells
    unfold set7 at g0 g1 g2 g3 g4 g5 g6
    refine bodyPost_ret (v := .agg #[.string m, .int .i64 op, .int .i64 a, .int .i64 n, .int .i64 c, .int .i32 i, .string tt]) (by simp [results, Tryz.f28, go_sem, g0, g1, g2, g3, g4, g5, g6]) rfl ?_
    have hB3 := (hB2.trans (hb3.mono hB2.size)).setCell (p := ⟨w.heap.size, 3, none⟩) (Nat.le_refl _) (.int .i64 n)
    exact ⟨by rw [← hr.out]; rfl, set7_from hB3 (Nat.le_succ _) _ _ _ _ _ _ _⟩
  · have hr : Hid (lnV (wPart ⟨m, op, a, b, c, i, tt⟩ 99 t) = #[.string m, .int .i64 op, .int .i64 a, .int .i64 b, .int .i64 n, .int .i32 i, .string tt]) := by show _ = _; rw [← hn]; rfl
    unfold lnV
    dsimp only
    go_wp2_with (first | (go_at_call 55; refine (trimPrefix_any _ _ _).mono ?_; rintro e w1 ⟨rfl, rfl⟩) | (go_at_call 54; refine (hat _ hV2).mono ?_; rintro e w3 ⟨⟨u, rfl⟩, hb3⟩; have hL3 := hL1.next hb3; obtain ⟨d0, d1, d2, d3, d4, d5, d6⟩ := hL3.cells; have df := hL3.frozen; have hL4 := hL3.setC n; obtain ⟨e0, e1, e2, e3, e4, e5, e6⟩ := hL4.cells; have hR4 := (hR1.next hb3).other (g := w.heap.size) (j := 4) (x := .int .i64 n) (by omega); obtain ⟨f0, f1, f2, f3, f4, f5, f6⟩ := hR4.cells; have ff := hR4.frozen))
    have hL5 := hR4.set7 m op a b n i tt
    obtain ⟨g0, g1, g2, g3, g4, g5, g6⟩ := hL5.cells
    unfold set7 at g0 g1 g2 g3 g4 g5 g6
    refine bodyPost_ret (v := .agg #[.string m, .int .i64 op, .int .i64 a, .int .i64 b, .int .i64 n, .int .i32 i, .string tt]) (by simp [results, Tryz.f28, go_sem, g0, g1, g2, g3, g4, g5, g6]) rfl ?_
    have hB3 := (hB2.trans (hb3.mono hB2.size)).setCell (p := ⟨w.heap.size, 4, none⟩) (Nat.le_refl _) (.int .i64 n)
    exact ⟨by rw [← hr.out]; rfl, set7_from hB3 (Nat.le_succ _) _ _ _ _ _ _ _⟩
  · have hr : Hid (wPart ⟨m, op, a, b, c, i, tt⟩ 105 t = wNum ⟨m, op, a, b, c, i, tt⟩ t) := rfl
    obtain ⟨y, hy⟩ : ∃ y, wNum ⟨m, op, a, b, c, i, tt⟩ t = y := ⟨_, rfl⟩
    simp only [hy] at hwn
    rw [hy] at hr
    clear hy
    obtain ⟨m', op', a', b', c', i', t'⟩ := y
    unfold lnV at hwn
    dsimp only at hwn
    have hr2 : Hid (lnV (wPart ⟨m, op, a, b, c, i, tt⟩ 105 t) = #[.string m', .int .i64 op', .int .i64 a', .int .i64 b', .int .i64 c', .int .i32 i', .string t']) := by show _ = _; rw [hr.out]; rfl
    unfold lnV
    dsimp only
    go_wp2_with (first | (go_at_call 53; refine (hwn _ hV2).mono ?_; rintro e w3 ⟨rfl, hb3⟩; have hR4 := hR1.next hb3; obtain ⟨f0, f1, f2, f3, f4, f5, f6⟩ := hR4.cells; have ff := hR4.frozen))
    have hL5 := hR4.set7 m' op' a' b' c' i' t'
    obtain ⟨g0, g1, g2, g3, g4, g5, g6⟩ := hL5.cells
    unfold set7 at g0 g1 g2 g3 g4 g5 g6
    refine bodyPost_ret (v := .agg #[.string m', .int .i64 op', .int .i64 a', .int .i64 b', .int .i64 c', .int .i32 i', .string t']) (by simp [results, Tryz.f28, go_sem, g0, g1, g2, g3, g4, g5, g6]) rfl ?_
    exact ⟨by rw [← hr2.out]; rfl, set7_from (hB2.trans (hb3.mono hB2.size)) (Nat.le_succ _) _ _ _ _ _ _ _⟩
end Go.Proofs.YtnghendglcblkaaGreatDoor
