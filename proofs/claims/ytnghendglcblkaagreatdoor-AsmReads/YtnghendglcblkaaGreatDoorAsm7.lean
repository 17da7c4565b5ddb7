/-
  PROVED HERE: what aimed and settled of package asm return when they are called (contracts over this translation). At most 4000 lines.
-/
import Derived.Test.YtnghendglcblkaaGreatDoorAsm6
namespace Go.Proofs.YtnghendglcblkaaGreatDoor
open Go.RowKit Go.Shelf
set_option linter.unusedVariables false
open Asm

def aimI (op i p mk : Int) : Int := if op = 1 then mk + i else mk - p - 1
set_option maxRecDepth 100000 in
theorem aimed_any (op a b c i : Int) (p mk : Nat) (hp : p ≤ 65536) (hm : mk ≤ 65536) (hi0 : -2147483648 ≤ i) (hi1 : i < 2147483648) (w : World) :
    Calls Tryz.prog 42 #[.agg #[.int .i64 op, .int .i64 a, .int .i64 b, .int .i64 c, .int .i32 i], .int .i64 (p : Int), .int .i64 (mk : Int)] w fun e w' => e = .returned (.int .i64 (aimI op i p mk)) ∧ Below w.heap.size w w' := by
  have hB : Below w.heap.size w (w.alloc (.cells #[.int .i64 op, .int .i64 a, .int .i64 b, .int .i64 c, .int .i32 i] 35)) := (Below.refl _ w).alloc (Nat.le_refl _) _
  go_enter Tryz.func42, Tryz.ntmps42
  by_cases h1 : op = 1
  · have hr : Hid (aimI op i p mk = mk + i) := if_pos h1
    subst h1
    go_wp2
    go_ret
    exact ⟨by rw [hr.out]; rfl, hB⟩
  · have hr : Hid (aimI op i p mk = mk - p - 1) := if_neg h1
    go_wp2
    go_ret
    exact ⟨by rw [hr.out]; rfl, hB⟩
theorem aim_em {l : List Ln} {p : Nat} {x : Ln} (h : emB x.to = true) : aim l p x = x.i ∧ err2 l p x = 0 := by
  unfold aim err2; rw [if_pos h, if_pos h]; exact ⟨rfl, rfl⟩
theorem aim_to {l : List Ln} {p mk : Nat} {x : Ln} (h : emB x.to = false) (e : fnd x.to l 0 = some mk) : aim l p x = aimI x.op x.i p mk ∧ err2 l p x = if inR (aimI x.op x.i p mk) then 0 else 13 := by
  have ha : aim l p x = aimI x.op x.i p mk := by
    unfold aim tgt aimI; rw [if_neg (by rw [h]; simp), e]; rfl
  refine ⟨ha, ?_⟩
  unfold err2
  rw [if_neg (by rw [h]; simp), e, ha]; rfl
theorem err_none {l : List Ln} {p : Nat} {x : Ln} (h : emB x.to = false) (e : fnd x.to l 0 = none) : err2 l p x = 1 := by
  unfold err2; rw [if_neg (by rw [h]; simp), e]; rfl
theorem set5_from {w W : World} {C B : Nat} (h : Below C w W) (hB : C ≤ B) (op a b c i : Int) : Below C w (set5 W B op a b c i) :=
  ((((h.setCell (p := ⟨B, 0, none⟩) hB _).setCell (p := ⟨B, 1, none⟩) hB _).setCell (p := ⟨B, 2, none⟩) hB _).setCell (p := ⟨B, 3, none⟩) hB _).setCell (p := ⟨B, 4, none⟩) hB _
set_option maxRecDepth 100000 in
set_option maxHeartbeats 400000 in
theorem settled_any (x : Ln) (hok : x.ok) (p : Nat) (hp : p ≤ 65536) (l : List Ln) (hl : l.length ≤ 65536) (M : Nat) (w : World) (hM : MapAt w M (mks l 0)) :
    Calls Tryz.prog 17 #[.agg (lnV x), .int .i64 (p : Int), .map (some M)] w fun e w' => Below w.heap.size w w' ∧
      ((Hid (err2 l p x = 0) ∧ Hid (-2147483648 ≤ aim l p x ∧ aim l p x < 2147483648) ∧ e = .returned (.tuple #[.agg #[.int .i64 x.op, .int .i64 x.a, .int .i64 x.b, .int .i64 x.c, .int .i32 (aim l p x)], .int .i64 0])) ∨
       (∃ er : Nat, Hid (err2 l p x = er ∧ er ≠ 0) ∧ er ≤ 13 ∧ e = .returned (.tuple #[.agg #[.int .i64 0, .int .i64 0, .int .i64 0, .int .i64 0, .int .i32 0], .int .i64 (er : Int)]))) := by
  obtain ⟨m, op, a, b, c, i, to⟩ := x
  obtain ⟨_, _, _, _, hi0, hi1⟩ := hok
  have hi0 : -2147483648 ≤ i := hi0
  have hi1 : i < 2147483648 := hi1
  unfold lnV
  dsimp only
  have he := em_list to
  have hB1 : Below w.heap.size w (w.alloc (.cells #[.string m, .int .i64 op, .int .i64 a, .int .i64 b, .int .i64 c, .int .i32 i, .string to] 37)) := (Below.refl _ w).alloc (Nat.le_refl _) _
  have hB2 : Below w.heap.size w ((w.alloc (.cells #[.string m, .int .i64 op, .int .i64 a, .int .i64 b, .int .i64 c, .int .i32 i, .string to] 37)).alloc (.cells #[.int .i64 0, .int .i64 0, .int .i64 0, .int .i64 0, .int .i32 0] 35)) := hB1.alloc hB1.size _
  have hL1 := (Lb.new w m op a b c i to).alloc (.cells #[.int .i64 0, .int .i64 0, .int .i64 0, .int .i64 0, .int .i32 0] 35)
  have hR1 := Ib.new (w.alloc (.cells #[.string m, .int .i64 op, .int .i64 a, .int .i64 b, .int .i64 c, .int .i32 i, .string to] 37)) 0 0 0 0 0
  simp only [World.size_alloc] at hR1
  have hlk := map_get2 (hM.next hB2) to
  rw [mks_look] at hlk
  go_enter Tryz.func17, Tryz.ntmps17
  cases hem : emB to with
  | true =>
    rw [hem] at he
    obtain ⟨h1, h2⟩ : Hid (aim l p ⟨m, op, a, b, c, i, to⟩ = i) ∧ Hid (err2 l p ⟨m, op, a, b, c, i, to⟩ = 0) := aim_em (l := l) (p := p) (x := ⟨m, op, a, b, c, i, to⟩) hem
    go_wp2
    have hR2 := Ib.new (w.alloc (.cells #[.string m, .int .i64 op, .int .i64 a, .int .i64 b, .int .i64 c, .int .i32 i, .string to] 37)) op a b c i
    simp only [World.size_alloc] at hR2
    obtain ⟨g0, g1, g2, g3, g4⟩ := hR2.cells
    refine bodyPost_ret (v := .tuple #[.agg #[.int .i64 op, .int .i64 a, .int .i64 b, .int .i64 c, .int .i32 i], .int .i64 0]) (by simp [results, Tryz.f17, go_sem, g0, g1, g2, g3, g4]) rfl ?_
    exact ⟨hB1.alloc hB1.size _, .inl ⟨⟨by rw [h1.out]; exact hi0, by rw [h1.out]; exact hi1⟩, by rw [h1.out]⟩⟩
  | false =>
    rw [hem] at he
    cases hf : fnd to l 0 with
    | none =>
      have hr : Hid (err2 l p ⟨m, op, a, b, c, i, to⟩ = 1 ∧ 1 ≠ 0) := ⟨err_none hem hf, by omega⟩
      rw [hf] at hlk
      go_wp2
      obtain ⟨g0, g1, g2, g3, g4⟩ := hR1.cells
      refine bodyPost_ret (v := .tuple #[.agg #[.int .i64 0, .int .i64 0, .int .i64 0, .int .i64 0, .int .i32 0], .int .i64 1]) (by simp [results, Tryz.f17, go_sem, g0, g1, g2, g3, g4]) rfl ?_
      exact ⟨hB2, .inr ⟨1, hr, by omega, rfl⟩⟩
    | some mk =>
      obtain ⟨h1, h2⟩ := aim_to (l := l) (p := p) (x := ⟨m, op, a, b, c, i, to⟩) hem hf
      have hmk : mk ≤ 65536 := by have := fnd_bounds hf; have := cnt_le l; omega
      have hA : Hid (aim l p ⟨m, op, a, b, c, i, to⟩ = aimI op i p mk) := h1
      rw [hf] at hlk
      cases hR : inR (aimI op i p mk) with
      | true =>
        have hE : Hid (err2 l p ⟨m, op, a, b, c, i, to⟩ = 0) := by show _ = _; rw [h2]; show (if inR (aimI op i p mk) then 0 else 13) = 0; rw [hR]; rfl
        obtain ⟨r0, r1⟩ : -2147483648 ≤ aimI op i p mk ∧ aimI op i p mk ≤ 2147483647 := by unfold inR at hR; simp at hR; exact hR
        clear h1 h2 hR
        go_wp2_with (go_at_call 42; refine (aimed_any _ _ _ _ _ _ _ hp hmk hi0 hi1 _).mono ?_; rintro e w' ⟨rfl, hb1⟩; obtain ⟨d0, d1, d2, d3, d4, d5, d6⟩ := (hL1.next hb1).cells; have hR3 := (hR1.next hb1).alloc (.cells #[.int .i64 op, .int .i64 a, .int .i64 b, .int .i64 c, .int .i32 (aimI op i p mk)] 35); obtain ⟨f0, f1, f2, f3, f4⟩ := hR3.cells; have fz := hR3.frozen)
        obtain ⟨g0, g1, g2, g3, g4⟩ := (hR3.set5 op a b c (aimI op i p mk)).cells
        unfold set5 at g0 g1 g2 g3 g4
        refine bodyPost_ret (v := .tuple #[.agg #[.int .i64 op, .int .i64 a, .int .i64 b, .int .i64 c, .int .i32 (aimI op i p mk)], .int .i64 0]) (by simp [results, Tryz.f17, go_sem, g0, g1, g2, g3, g4]) rfl ?_
        have hB3 := hB2.trans (hb1.mono hB2.size)
        exact ⟨set5_from (hB3.alloc hB3.size _) (Nat.le_succ _) _ _ _ _ _, .inl ⟨hE, ⟨by rw [hA.out]; exact r0, by rw [hA.out]; omega⟩, by rw [hA.out]⟩⟩
      | false =>
        have hE : Hid (err2 l p ⟨m, op, a, b, c, i, to⟩ = 13 ∧ 13 ≠ 0) := by refine ⟨?_, by omega⟩; rw [h2]; show (if inR (aimI op i p mk) then 0 else 13) = 13; rw [hR]; rfl
        clear h1 h2
        by_cases r0 : -2147483648 ≤ aimI op i p mk
        · have r1 : ¬ aimI op i p mk ≤ 2147483647 := by unfold inR at hR; simp at hR; omega
          go_wp2_with (go_at_call 42; refine (aimed_any _ _ _ _ _ _ _ hp hmk hi0 hi1 _).mono ?_; rintro e w' ⟨rfl, hb1⟩; obtain ⟨d0, d1, d2, d3, d4, d5, d6⟩ := (hL1.next hb1).cells; obtain ⟨f0, f1, f2, f3, f4⟩ := (hR1.next hb1).cells; have fz := (hR1.next hb1).frozen)
          obtain ⟨g0, g1, g2, g3, g4⟩ := ((hR1.next hb1).set5 0 0 0 0 0).cells
          unfold set5 at g0 g1 g2 g3 g4
          refine bodyPost_ret (v := .tuple #[.agg #[.int .i64 0, .int .i64 0, .int .i64 0, .int .i64 0, .int .i32 0], .int .i64 13]) (by simp [results, Tryz.f17, go_sem, g0, g1, g2, g3, g4]) rfl ?_
          exact ⟨set5_from (hB2.trans (hb1.mono hB2.size)) (Nat.le_succ _) _ _ _ _ _, .inr ⟨13, hE, by omega, rfl⟩⟩
        · go_wp2_with (go_at_call 42; refine (aimed_any _ _ _ _ _ _ _ hp hmk hi0 hi1 _).mono ?_; rintro e w' ⟨rfl, hb1⟩; obtain ⟨d0, d1, d2, d3, d4, d5, d6⟩ := (hL1.next hb1).cells; obtain ⟨f0, f1, f2, f3, f4⟩ := (hR1.next hb1).cells; have fz := (hR1.next hb1).frozen)
          obtain ⟨g0, g1, g2, g3, g4⟩ := ((hR1.next hb1).set5 0 0 0 0 0).cells
          unfold set5 at g0 g1 g2 g3 g4
          refine bodyPost_ret (v := .tuple #[.agg #[.int .i64 0, .int .i64 0, .int .i64 0, .int .i64 0, .int .i32 0], .int .i64 13]) (by simp [results, Tryz.f17, go_sem, g0, g1, g2, g3, g4]) rfl ?_
          exact ⟨set5_from (hB2.trans (hb1.mono hB2.size)) (Nat.le_succ _) _ _ _ _ _, .inr ⟨13, hE, by omega, rfl⟩⟩
end Go.Proofs.YtnghendglcblkaaGreatDoor
