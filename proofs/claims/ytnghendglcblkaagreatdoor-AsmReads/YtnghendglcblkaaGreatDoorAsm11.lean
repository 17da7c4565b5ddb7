/-
  PROVED HERE: what textOf of package asm returns when it is called: a line as a text (a contract over this translation). Names of at most 65536 bytes.
-/
import Derived.Test.YtnghendglcblkaaGreatDoorAsm10
namespace Go.Proofs.YtnghendglcblkaaGreatDoor
open Go.RowKit Go.Shelf
set_option linter.unusedVariables false
open Asm

/-- A line as a text. -/
def lineT (x : Ln) : ByteArray := if markB x then x.mark ++ ⟨#[58]⟩ else if insB x then (if emB x.to then txS x.op x.a x.b x.c x.i else stemS x.op x.a x.b x.c ++ ⟨#[64]⟩ ++ x.to ++ addS x.i) else ⟨#[]⟩
theorem nameB_size {s : ByteArray} (h : nameB s = true) : s.size ≤ 16 ∧ 0 < s.size := by
  by_cases h1 : s.size = 0 ∨ 16 < s.size
  · rw [nameB_false h1] at h; cases h
  · omega
theorem addS_size {i : Int} (h0 : -2147483648 ≤ i) (h1 : i < 2147483648) : (addS i).size ≤ 22 := by
  unfold addS
  split
  · show 0 ≤ 22; omega
  · rw [ByteArray.size_append]
    have := itS_size (v := i) (by omega) (by omega)
    show 1 + (itS i).size ≤ 22
    omega
theorem tS_size (s p : ByteArray) : (tS s p).size ≤ s.size := by
  unfold tS
  rw [sb_size, ← bl_len]
  unfold Lib.trimSuffix
  split
  · rw [List.length_take]; omega
  · omega
theorem stemS_size {op a b c : Int} (ha : I64 a) (hb : I64 b) (hc : I64 c) : (stemS op a b c).size ≤ 74 :=
  Nat.le_trans (tS_size _ _) (txS_size ha hb hc ⟨by omega, by omega⟩)
theorem fit_64 {op a b c i : Int} (h : Ins.fitB op a b c i = true) : I64 a ∧ I64 b ∧ I64 c := by
  obtain ⟨_, h1, h2, h3⟩ := Ins.fit_bounds h
  exact ⟨⟨by omega, by omega⟩, ⟨by omega, by omega⟩, by omega, by omega⟩
/-- A drawing region outside a round. -/
theorem region_out {P : Program} {ops : Array Oper} {Q : Exit → Act → World → Prop} {S : World → Prop} {id : Nat} {a : Act} {w : World} (hm : P.follows .mixedOrders = true)
    (hS : S w.drew) (h : S w.drew → wpAnyH P .any ops Q S ops.size (Array.replicate ops.size false) a w.drew) : (Code.region id ops true).wp P Q a w :=
  wp_region_any hm (wpAny_of_held _ _ _ _ (h hS))
set_option maxRecDepth 100000 in
set_option maxHeartbeats 2000000 in
theorem textOf_any (x : Ln) (hi0 : -2147483648 ≤ x.i) (hi1 : x.i < 2147483648) (hsm : x.mark.size ≤ 65536) (hst : x.to.size ≤ 65536) (w : World) (hv : Vars w) :
    Calls Tryz.prog 13 #[.agg (lnV x)] w fun e w' => e = .returned (.string (lineT x)) ∧ Below w.heap.size w w' := by
  obtain ⟨m, op, a, b, c, i, tt⟩ := x
  have hi0 : -2147483648 ≤ i := hi0
  have hi1 : i < 2147483648 := hi1
  have hL1 := Lb.new w m op a b c i tt
  have hB1 : Below w.heap.size w (w.alloc (.cells #[.string m, .int .i64 op, .int .i64 a, .int .i64 b, .int .i64 c, .int .i32 i, .string tt] 37)) := (Below.refl _ w).alloc (Nat.le_refl _) _
  have hma := mark_any ⟨m, op, a, b, c, i, tt⟩ hsm (w.alloc (.cells #[.string m, .int .i64 op, .int .i64 a, .int .i64 b, .int .i64 c, .int .i32 i, .string tt] 37))
  have hia := fun W => ins_any ⟨m, op, a, b, c, i, tt⟩ hst hi0 hi1 W
  have he := em_list tt
  unfold lnV at hma hia ⊢
  dsimp only at hma hia ⊢
  go_enter Tryz.func13, Tryz.ntmps13
  cases hmB : markB ⟨m, op, a, b, c, i, tt⟩ with
  | true =>
    have hsz : m.size ≤ 16 := by unfold markB at hmB; simp only [Bool.and_eq_true] at hmB; exact (nameB_size hmB.1.1).1
    have hr : Hid (lineT ⟨m, op, a, b, c, i, tt⟩ = m ++ ⟨#[58]⟩) := by show _ = _; unfold lineT; rw [hmB]; rfl
    rw [hmB] at hma
    go_wp2_with (go_at_call 29; refine hma.mono ?_; rintro e w' ⟨rfl, hb1⟩; obtain ⟨d0, d1, d2, d3, d4, d5, d6⟩ := (hL1.next hb1).cells)
    go_ret
    exact ⟨by rw [hr.out]; rfl, hB1.trans (hb1.mono hB1.size)⟩
  | false =>
    rw [hmB] at hma
    cases hiB : insB ⟨m, op, a, b, c, i, tt⟩ with
    | false =>
      have hr : Hid (lineT ⟨m, op, a, b, c, i, tt⟩ = ⟨#[]⟩) := by show _ = _; unfold lineT; rw [hmB, hiB]; rfl
      rw [hiB] at hia
      go_wp2_with (first | (go_at_call 29; refine hma.mono ?_; rintro e w' ⟨rfl, hb1⟩; obtain ⟨d0, d1, d2, d3, d4, d5, d6⟩ := (hL1.next hb1).cells) | (go_at_call 30; refine (hia _).mono ?_; rintro e w2 ⟨rfl, hb2⟩))
      go_ret
      exact ⟨by rw [hr.out]; rfl, (hB1.trans (hb1.mono hB1.size)).trans (hb2.mono (Nat.le_trans hB1.size hb1.size))⟩
    | true =>
      rw [hiB] at hia
      have hfit : Ins.fitB op a b c i = true := by unfold insB at hiB; simp only [Bool.and_eq_true] at hiB; exact hiB.1.2
      obtain ⟨ha6, hb6, hc6⟩ := fit_64 hfit
      cases hem : emB tt with
      | true =>
        have hr : Hid (lineT ⟨m, op, a, b, c, i, tt⟩ = txS op a b c i) := by show _ = _; unfold lineT; rw [hmB, hiB]; show (if emB tt then _ else _) = _; rw [hem]; rfl
        rw [hem] at he
        go_wp2_with (first | (go_at_call 29; refine hma.mono ?_; rintro e w' ⟨rfl, hb1⟩; obtain ⟨d0, d1, d2, d3, d4, d5, d6⟩ := (hL1.next hb1).cells) | (go_at_call 30; refine (hia _).mono ?_; rintro e w2 ⟨rfl, hb2⟩; obtain ⟨e0, e1, e2, e3, e4, e5, e6⟩ := ((hL1.next hb1).next hb2).cells) | (go_at_call 20; refine (text_any _ _ _ _ _ hi0 hi1 _ (((hv.later hB1).later hb1).later hb2)).mono ?_; rintro e w3 ⟨rfl, hb3⟩))
        go_ret
        exact ⟨by rw [hr.out]; rfl, ((hB1.trans (hb1.mono hB1.size)).trans (hb2.mono (Nat.le_trans hB1.size hb1.size))).trans (hb3.mono (Nat.le_trans (Nat.le_trans hB1.size hb1.size) hb2.size))⟩
      | false =>
        have hr : Hid (lineT ⟨m, op, a, b, c, i, tt⟩ = stemS op a b c ++ ⟨#[64]⟩ ++ tt ++ addS i) := by show _ = _; unfold lineT; rw [hmB, hiB]; show (if emB tt then _ else _) = _; rw [hem]; rfl
        have hts : tt.size ≤ 16 := by
          unfold insB at hiB
          simp only [Bool.and_eq_true, Bool.or_eq_true] at hiB
          rcases hiB.2 with h | h
          · rw [show emB tt = true from h] at hem; cases hem
          · exact (nameB_size h.1).1
        have hss := stemS_size (op := op) ha6 hb6 hc6
        have has := addS_size hi0 hi1
        rw [hem] at he
        clear hmB hiB hfit hem
        go_wp2_with (first | (go_at_call 29; refine hma.mono ?_; rintro e w' ⟨rfl, hb1⟩; obtain ⟨d0, d1, d2, d3, d4, d5, d6⟩ := (hL1.next hb1).cells) | (go_at_call 30; refine (hia _).mono ?_; rintro e w2 ⟨rfl, hb2⟩; obtain ⟨e0, e1, e2, e3, e4, e5, e6⟩ := ((hL1.next hb1).next hb2).cells))
        have hmx : Tryz.prog.follows .mixedOrders = true := by kernel_rfl
        have hL2 := (hL1.next hb1).next hb2
        have hB2 := (hB1.trans (hb1.mono hB1.size)).trans (hb2.mono (Nat.le_trans hB1.size hb1.size))
        have hV2 := hv.later hB2
        have hz1 : (9223372036854775807 < (stemS op a b c).size + 1) = False := by simp; omega
        have hz2 : (9223372036854775807 < (stemS op a b c).size + 1 + tt.size) = False := by simp; omega
        have hz3 : (9223372036854775807 < (stemS op a b c).size + 1 + tt.size + (addS i).size) = False := by simp; omega
        refine region_out (S := fun W2 => Below w2.heap.size w2 W2) hmx (Below.refl _ w2).drew (fun hS => ?_)
        refine wpAnyH_take (i := 0) (v := .pointer (some ⟨w.heap.size, 1, none⟩)) rfl (by kernel_rfl) (by kernel_rfl) (by kernel_rfl) (fun _ _ _ h => h) (Or.inl ⟨by rfl, fun w9 hS2 => by go_simp⟩) hS ?_
        simp only [Act.put]
        refine wpAnyH_take (i := 1) (v := .agg #[.int .i64 op, .int .i64 a, .int .i64 b, .int .i64 c, .int .i32 i]) rfl (by kernel_rfl) (by kernel_rfl) (by kernel_rfl) (fun _ _ _ h => h) (Or.inl ⟨by rfl, fun w9 hS2 => by obtain ⟨g0, g1, g2, g3, g4, g5, g6⟩ := (hL2.next hS2).cells; go_simp⟩) hS ?_
        simp only [Act.put]
        refine wpAnyH_take (i := 4) (v := .pointer (some ⟨w.heap.size, 6, none⟩)) rfl (by kernel_rfl) (by kernel_rfl) (by kernel_rfl) (fun _ _ _ h => h) (Or.inl ⟨by rfl, fun w9 hS2 => by go_simp⟩) hS ?_
        simp only [Act.put]
        refine wpAnyH_take (i := 5) (v := .string tt) rfl (by kernel_rfl) (by kernel_rfl) (by kernel_rfl) (fun _ _ _ h => h) (Or.inl ⟨by rfl, fun w9 hS2 => by obtain ⟨g0, g1, g2, g3, g4, g5, g6⟩ := (hL2.next hS2).cells; go_simp⟩) hS ?_
        simp only [Act.put]
        refine wpAnyH_take (i := 7) (v := .pointer (some ⟨w.heap.size, 1, none⟩)) rfl (by kernel_rfl) (by kernel_rfl) (by kernel_rfl) (fun _ _ _ h => h) (Or.inl ⟨by rfl, fun w9 hS2 => by go_simp⟩) hS ?_
        simp only [Act.put]
        refine wpAnyH_take (i := 8) (v := .pointer (some ⟨w.heap.size, 5, none⟩)) rfl (by kernel_rfl) (by kernel_rfl) (by kernel_rfl) (fun _ _ _ h => h) (Or.inl ⟨by rfl, fun w9 hS2 => by go_simp⟩) hS ?_
        simp only [Act.put]
        refine wpAnyH_take (i := 9) (v := .int .i32 i) rfl (by kernel_rfl) (by kernel_rfl) (by kernel_rfl) (fun _ _ _ h => h) (Or.inl ⟨by rfl, fun w9 hS2 => by obtain ⟨g0, g1, g2, g3, g4, g5, g6⟩ := (hL2.next hS2).cells; go_simp⟩) hS ?_
        simp only [Act.put]
        refine wpAnyH_ready (rs := [2]) (by kernel_rfl) (by simp) ?_
        refine AllReadyH.cons rfl (fun K hK => ?_) AllReadyH.nil
        go_simp
        refine (stem_any op a b c i ha6 hb6 hc6 _ (hV2.later hS)).mono ?_
        rintro e w3 ⟨rfl, hb3⟩
        have hS : Below w2.heap.size w2 w3 := hS.trans (hb3.mono hS.size)
        refine hK.out _ _ hS (fun hS => ?_)
        clear hK K
        refine wpAnyH_take (i := 3) (v := .string (stemS op a b c ++ ⟨#[64]⟩)) rfl (by kernel_rfl) (by kernel_rfl) (by kernel_rfl) (fun _ _ _ h => h) (Or.inl ⟨by rfl, fun w9 hS2 => by go_simp⟩) hS ?_
        simp only [Act.put]
        refine wpAnyH_take (i := 6) (v := .string (stemS op a b c ++ ⟨#[64]⟩ ++ tt)) rfl (by kernel_rfl) (by kernel_rfl) (by kernel_rfl) (fun _ _ _ h => h) (Or.inl ⟨by rfl, fun w9 hS2 => by go_simp⟩) hS ?_
        simp only [Act.put]
        refine wpAnyH_ready (rs := [10]) (by kernel_rfl) (by simp) ?_
        refine AllReadyH.cons rfl (fun K hK => ?_) AllReadyH.nil
        go_simp
        refine (added_any i hi0 hi1 _ (hV2.later hS)).mono ?_
        rintro e w4 ⟨rfl, hb4⟩
        have hS : Below w2.heap.size w2 w4 := hS.trans (hb4.mono hS.size)
        refine hK.out _ _ hS (fun hS => ?_)
        clear hK K
        refine wpAnyH_take (i := 11) (v := .string (stemS op a b c ++ ⟨#[64]⟩ ++ tt ++ addS i)) rfl (by kernel_rfl) (by kernel_rfl) (by kernel_rfl) (fun _ _ _ h => h) (Or.inl ⟨by rfl, fun w9 hS2 => by go_simp⟩) hS ?_
        simp only [Act.put]
        refine wpAnyH_take (i := 12) (v := .string (stemS op a b c ++ ⟨#[64]⟩ ++ tt ++ addS i)) rfl (by kernel_rfl) (by kernel_rfl) (by kernel_rfl) (fun _ _ _ h => h) (Or.inl ⟨by rfl, fun w9 hS2 => by go_simp⟩) hS ?_
        simp only [Act.put]
        refine wpAnyH_done (by kernel_rfl) ?_ _
        go_simp
        go_wp2
        go_ret
        exact ⟨by rw [hr.out]; rfl, hB2.trans (hS.mono hB2.size)⟩
end Go.Proofs.YtnghendglcblkaaGreatDoor
