/-
  PROVED HERE: what good and Good of package curtilageref10 return when they are called: is a line one, are all? (contracts over this translation). Names of at most 65536 bytes.
-/
import Derived.Test.YtnghendglcblkaaGreatDoorAsm18
namespace Go.Proofs.YtnghendglcblkaaGreatDoor
open Go.RowKit Go.Shelf
set_option linter.unusedVariables false
open Asm

theorem good_mark {x : Ln} (h : emB x.mark = false) : goodB x = (nameB x.mark && emB x.to && zeroB x) := by
  unfold goodB insB
  rw [h]
  simp [markB]
theorem good_ins {x : Ln} (h : emB x.mark = true) : goodB x = (Ins.fitB x.op x.a x.b x.c x.i && (emB x.to || (nameB x.to && ((jmpB x.op && x.i == 0) || x.op == 1)))) := by
  unfold goodB insB
  rw [em_nomark h, h]
  rfl
set_option maxRecDepth 100000 in
set_option maxHeartbeats 2000000 in
theorem rgood_any (x : Ln) (hsm : x.mark.size ≤ 65536) (hst : x.to.size ≤ 65536) (w : World) :
    Calls Tryz.prog 33 #[.agg (lnV x)] w fun e w' => e = .returned (.bool (goodB x)) ∧ Below w.heap.size w w' := by
  obtain ⟨m, op, a, b, c, i, tt⟩ := x
  have hsm : m.size ≤ 65536 := hsm
  have hst : tt.size ≤ 65536 := hst
  unfold lnV
  have hB : Below w.heap.size w (w.alloc (.cells #[.string m, .int .i64 op, .int .i64 a, .int .i64 b, .int .i64 c, .int .i32 i, .string tt] 37)) := (Below.refl _ w).alloc (Nat.le_refl _) _
  have hL := Lb.new w m op a b c i tt
  have he := em_list tt
  have hm := em_list m
  have gM : Hid (emB m = false → goodB ⟨m, op, a, b, c, i, tt⟩ = (nameB m && emB tt && (op == 0 && a == 0 && b == 0 && c == 0 && i == 0))) := fun h => good_mark h
  have gI : Hid (emB m = true → goodB ⟨m, op, a, b, c, i, tt⟩ = (Ins.fitB op a b c i && (emB tt || (nameB tt && ((jmpB op && i == 0) || op == 1))))) := fun h => good_ins h
  go_enter Tryz.func33, Tryz.ntmps33
  cases hz : emB m with
  | false =>
    rw [hz] at hm
    have hr : Hid _ := gM.out hz
    clear gM gI hz
    cases hn : nameB m with
    | false =>
      have hrr : Hid (goodB ⟨m, op, a, b, c, i, tt⟩ = false) := by show _ = _; rw [hr.out, hn]; rfl
      clear hr
      go_wp2_with (go_at_call 60; refine (rword_any _ (by assumption) _).mono ?_; rintro e w' ⟨rfl, rfl⟩)
      go_ret
      exact ⟨by rw [hrr.out]; rfl, hB⟩
    | true =>
      cases hy : emB tt with
      | false =>
        rw [hy] at he
        have hrr : Hid (goodB ⟨m, op, a, b, c, i, tt⟩ = false) := by show _ = _; rw [hr.out, hy, Bool.and_false]; rfl
        clear hr
        go_wp2_with (go_at_call 60; refine (rword_any _ (by assumption) _).mono ?_; rintro e w' ⟨rfl, rfl⟩)
        go_ret
        exact ⟨by rw [hrr.out]; rfl, hB⟩
      | true =>
        rw [hy] at he
        have hrr : Hid (goodB ⟨m, op, a, b, c, i, tt⟩ = (op == 0 && a == 0 && b == 0 && c == 0 && i == 0)) := by show _ = _; rw [hr.out, hn, hy]; rfl
        clear hr hy
        go_wp2_with (go_at_call 60; refine (rword_any _ (by assumption) _).mono ?_; rintro e w' ⟨rfl, rfl⟩)
        all_goals (go_ret; refine ⟨?_, (Below.refl _ w).alloc (Nat.le_refl _) _⟩; rw [hrr.out]; simp [*])
  | true =>
    rw [hz] at hm
    have hr : Hid _ := gI.out hz
    clear gM gI hz
    cases hf : Ins.fitB op a b c i with
    | false =>
      have hrr : Hid (goodB ⟨m, op, a, b, c, i, tt⟩ = false) := by show _ = _; rw [hr.out, hf]; rfl
      clear hr
      go_wp2_with (go_at_call 61; refine (rfit_any _ _ _ _ _ _).mono ?_; rintro e w' ⟨rfl, hb⟩)
      go_ret
      exact ⟨by rw [hrr.out]; rfl, hB.trans (hb.mono (by simp))⟩
    | true =>
      cases hy : emB tt with
      | true =>
        rw [hy] at he
        have hrr : Hid (goodB ⟨m, op, a, b, c, i, tt⟩ = true) := by show _ = _; rw [hr.out, hf, hy]; rfl
        clear hr
        go_wp2_with (go_at_call 61; refine (rfit_any _ _ _ _ _ _).mono ?_; rintro e w' ⟨rfl, hb⟩; obtain ⟨c0, c1, c2, c3, c4, c5, c6⟩ := (hL.next hb).cells)
        go_ret
        exact ⟨by rw [hrr.out]; rfl, hB.trans (hb.mono (by simp))⟩
      | false =>
        rw [hy] at he
        cases hn : nameB tt with
        | false =>
          have hrr : Hid (goodB ⟨m, op, a, b, c, i, tt⟩ = false) := by show _ = _; rw [hr.out, hf, hy, hn]; rfl
          clear hr
          go_wp2_with (first | (go_at_call 60; refine (rword_any _ (by assumption) _).mono ?_; rintro e w2 ⟨rfl, rfl⟩) | (go_at_call 61; refine (rfit_any _ _ _ _ _ _).mono ?_; rintro e w' ⟨rfl, hb⟩; obtain ⟨c0, c1, c2, c3, c4, c5, c6⟩ := (hL.next hb).cells))
          go_ret
          exact ⟨by rw [hrr.out]; rfl, hB.trans (hb.mono (by simp))⟩
        | true =>
          have hrr : Hid (goodB ⟨m, op, a, b, c, i, tt⟩ = ((jmpB op && i == 0) || op == 1)) := by show _ = _; rw [hr.out, hf, hy, hn]; rfl
          clear hr
          have hg := fun W => rgoes_any op W
          by_cases h1 : op = 1
          · subst h1
            have hj : jmpB 1 = false := by decide
            rw [hj] at hrr
            simp only [hj] at hg
            go_wp2_with (first | (go_at_call 60; refine (rword_any _ (by assumption) _).mono ?_; rintro e w2 ⟨rfl, rfl⟩) | (go_at_call 61; refine (rfit_any _ _ _ _ _ _).mono ?_; rintro e w' ⟨rfl, hb⟩; obtain ⟨c0, c1, c2, c3, c4, c5, c6⟩ := (hL.next hb).cells) | (go_at_call 62; refine (hg _).mono ?_; rintro e w3 ⟨rfl, rfl⟩))
            go_ret
            exact ⟨by rw [hrr.out]; rfl, hB.trans (hb.mono (by simp))⟩
          · have hb1 : (op == 1) = false := by simpa using h1
            rw [hb1, Bool.or_false] at hrr
            cases hj : jmpB op with
            | false =>
              rw [hj] at hrr
              simp only [hj] at hg
              go_wp2_with (first | (go_at_call 60; refine (rword_any _ (by assumption) _).mono ?_; rintro e w2 ⟨rfl, rfl⟩) | (go_at_call 61; refine (rfit_any _ _ _ _ _ _).mono ?_; rintro e w' ⟨rfl, hb⟩; obtain ⟨c0, c1, c2, c3, c4, c5, c6⟩ := (hL.next hb).cells) | (go_at_call 62; refine (hg _).mono ?_; rintro e w3 ⟨rfl, rfl⟩))
              go_ret
              exact ⟨by rw [hrr.out]; simp, hB.trans (hb.mono (by simp))⟩
            | true =>
              rw [hj, Bool.true_and] at hrr
              simp only [hj] at hg
              by_cases hi : i = 0
              · subst hi
                go_wp2_with (first | (go_at_call 60; refine (rword_any _ (by assumption) _).mono ?_; rintro e w2 ⟨rfl, rfl⟩) | (go_at_call 61; refine (rfit_any _ _ _ _ _ _).mono ?_; rintro e w' ⟨rfl, hb⟩; obtain ⟨c0, c1, c2, c3, c4, c5, c6⟩ := (hL.next hb).cells) | (go_at_call 62; refine (hg _).mono ?_; rintro e w3 ⟨rfl, rfl⟩))
                go_ret
                exact ⟨by rw [hrr.out]; rfl, hB.trans (hb.mono (by simp))⟩
              · go_wp2_with (first | (go_at_call 60; refine (rword_any _ (by assumption) _).mono ?_; rintro e w2 ⟨rfl, rfl⟩) | (go_at_call 61; refine (rfit_any _ _ _ _ _ _).mono ?_; rintro e w' ⟨rfl, hb⟩; obtain ⟨c0, c1, c2, c3, c4, c5, c6⟩ := (hL.next hb).cells) | (go_at_call 62; refine (hg _).mono ?_; rintro e w3 ⟨rfl, rfl⟩))
                go_ret
                exact ⟨by rw [hrr.out]; simp, hB.trans (hb.mono (by simp))⟩
end Go.Proofs.YtnghendglcblkaaGreatDoor
