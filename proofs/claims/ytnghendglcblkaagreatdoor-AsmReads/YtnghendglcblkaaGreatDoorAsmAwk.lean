/-
  PROVED HERE: the examples of chapter 10, that every statement of layer 10 asks, hold (a contract over this translation). No condition.
-/
import Derived.Test.YtnghendglcblkaaGreatDoorAsmAwake
namespace Go.Proofs.YtnghendglcblkaaGreatDoor
open Go.RowKit Go.Shelf
set_option linter.unusedVariables false
open Asm

theorem list_ex : lstS [18446744069414584338] = ⟨#[106, 109, 112, 32, 45, 49, 10]⟩ := by
  have hd : Ins.decB 18446744069414584338 = true := by decide +kernel
  have hf : Ins.fOp 18446744069414584338 = 18 ∧ Ins.fA 18446744069414584338 = 0 ∧ Ins.fB 18446744069414584338 = 0 ∧ Ins.fC 18446744069414584338 = 0 ∧ Ins.fI 18446744069414584338 = -1 := by decide +kernel
  have ht : txS 18 0 0 0 (-1) = ⟨#[106, 109, 112, 32, 45, 49]⟩ := by
    have hf : Ins.fitB 18 0 0 0 (-1) = true := by decide +kernel
    have hs : Ins.shp 18 = [105] := by decide +kernel
    have h1 : itS (-1) = ⟨#[45, 49]⟩ := by show (⟨(Lib.itoa (-((1 : Nat) : Int))).toArray⟩ : ByteArray) = _; rw [Lib.itoa_neg 1 (by omega), Lib.decDigits_one (by omega)]; rfl
    unfold txS
    rw [hf, if_pos rfl, hs]
    refine ba_ext ?_
    simp [accT, stepT, ltr, prt, tldS, List.range_succ, ByteArray.data_append, h1, nmS]
  refine ba_ext ?_
  show ([18446744069414584338].flatMap fun x => (lnW x).data.toList) = _
  unfold lnW
  simp only [List.flatMap_cons, List.flatMap_nil, List.append_nil, hd, if_true, hf.1, hf.2.1, hf.2.2.1, hf.2.2.2.1, hf.2.2.2.2, ht]
  rfl
theorem lns_lit (W : World) (l : List Ln) (hl : l.length ≤ 65536) : Lns (W.alloc (.cells (lnC l).toArray 37)).heap.size (W.alloc (.cells (lnC l).toArray 37)) (some ⟨W.heap.size, 0, none⟩) l.length l.length l := by
  refine ⟨rfl, Nat.le_refl _, ⟨by omega, fun e => by cases e⟩, fun hn => ⟨W.heap.size, 0, rfl, by simp, fun i hi j v hv => ?_⟩⟩
  rw [Lib.cell_of_heap (World.alloc_heap_new W (.cells (lnC l).toArray 37))]
  have := lnC_at hi hv
  simpa using this
theorem ok_lit {x : Ln} (h : x.op = 0 ∨ x.op = 18) (ha : x.a = 0) (hb : x.b = 0) (hc : x.c = 0) (hi : x.i = 0) (hm : x.mark.size ≤ 1) (ht : x.to.size ≤ 1) : x.ok ∧ x.mark.size ≤ 65536 ∧ x.to.size ≤ 65536 := by
  refine ⟨⟨?_, ?_, ?_, ?_, ?_, ?_⟩, by omega, by omega⟩
  · unfold I64; omega
  · unfold I64; omega
  · unfold I64; omega
  · unfold I64; omega
  · omega
  · omega
theorem put_first (W : World) : Calls Tryz.prog 8 #[.slice (some ⟨W.heap.size, 0, none⟩) 2 2] (W.alloc (.cells #[.string ⟨#[97]⟩, .int .i64 0, .int .i64 0, .int .i64 0, .int .i64 0, .int .i32 0, .string ⟨#[]⟩, .string ⟨#[]⟩, .int .i64 18, .int .i64 0, .int .i64 0, .int .i64 0, .int .i32 0, .string ⟨#[97]⟩] 37)) fun e w' => Below W.heap.size W w' ∧ ∃ ao cap, e = .returned (.tuple #[.slice ao 1 cap, .int .i64 0, .int .i64 0]) ∧ Wds w'.heap.size w' ao 1 cap [18446744069414584338] := by
  have hl := lns_lit W [⟨⟨#[97]⟩, 0, 0, 0, 0, 0, ⟨#[]⟩⟩, ⟨⟨#[]⟩, 18, 0, 0, 0, 0, ⟨#[97]⟩⟩] (by decide)
  refine (put_any _ 2 2 _ _ (by omega) hl (fun x hx => ?_)).mono ?_
  · rcases List.mem_cons.1 hx with rfl | hx
    · exact ok_lit (.inl rfl) rfl rfl rfl rfl (by decide) (by decide)
    · rw [List.mem_singleton.1 hx]; exact ok_lit (.inr rfl) rfl rfl rfl rfl (by decide) (by decide)
  · rintro e w' ⟨hb, v, rfl, hrow⟩
    rw [put_ex1.1] at hrow
    obtain ⟨ao, cap, rfl, hw⟩ := wds_of_row hrow rfl
    refine ⟨((Below.refl _ W).alloc (Nat.le_refl _) _).trans (hb.mono (by simp)), ao, cap, ?_, hw⟩
    rw [put_ex1.2.1, put_ex1.2.2]; rfl
theorem put_snd (W : World) : Calls Tryz.prog 8 #[.slice (some ⟨W.heap.size, 0, none⟩) 1 1] (W.alloc (.cells #[.string ⟨#[]⟩, .int .i64 18, .int .i64 0, .int .i64 0, .int .i64 0, .int .i32 0, .string ⟨#[98]⟩] 37)) fun e w' => Below W.heap.size W w' ∧ ∃ ao cap, e = .returned (.tuple #[.slice ao 0 cap, .int .i64 0, .int .i64 1]) := by
  have hl := lns_lit W [⟨⟨#[]⟩, 18, 0, 0, 0, 0, ⟨#[98]⟩⟩] (by decide)
  refine (put_any _ 1 1 _ _ (by omega) hl (fun x hx => ?_)).mono ?_
  · rw [List.mem_singleton.1 hx]; exact ok_lit (.inr rfl) rfl rfl rfl rfl (by decide) (by decide)
  · rintro e w' ⟨hb, v, rfl, hrow⟩
    rw [put_ex2.1] at hrow
    obtain ⟨ao, cap, rfl⟩ := row_slice hrow
    refine ⟨((Below.refl _ W).alloc (Nat.le_refl _) _).trans (hb.mono (by simp)), ao, cap, ?_⟩
    rw [put_ex2.2.1, put_ex2.2.2]; rfl
theorem read_a (W : World) (hv : AVars W) : Calls Tryz.prog 5 #[.string ⟨#[97, 58]⟩] W fun e w' => Below W.heap.size W w' ∧ ∃ b off cap, e = .returned (.tuple #[.slice (some ⟨b, off, none⟩) 1 cap, .int .i64 0, .int .i64 0]) ∧ w'.cell? ⟨b, off, none⟩ = some (.string ⟨#[97]⟩) := by
  refine (read_any ⟨#[97, 58]⟩ (by decide) W hv).mono ?_
  rintro e w' ⟨hb, v, rfl, hrow⟩
  rw [read_ex.1] at hrow
  obtain ⟨ao, cap, rfl, hl⟩ := lns_of_row hrow
  obtain ⟨b, off, m', op, a, b', c, i', tt, rfl, _, hx, c0, _⟩ := LnsD.at hl (i := 0) (by decide)
  have hm : m' = ⟨#[97]⟩ := by have := congrArg Ln.mark hx.out; exact this.symm
  subst hm
  refine ⟨hb, b, off, cap, ?_, by simpa using c0⟩
  rw [read_ex.2.1, read_ex.2.2]; rfl
set_option maxRecDepth 100000 in
set_option maxHeartbeats 2000000 in
theorem awake_any (w : World) (hv : AVars w) :
    Calls Tryz.prog 4 #[] w fun e w' => e = .returned (.bool true) ∧ Below w.heap.size w w' := by
  have hli := fun ao cap W h hV => list_any ao 1 cap [18446744069414584338] W (by omega) h (fun x hx => by rw [List.mem_singleton.1 hx]; omega) hV
  simp only [list_ex] at hli
  go_enter Tryz.func4, Tryz.ntmps4
  go_wp2_with (first | (go_at_call 8; (with_reducible refine (put_first _).mono ?_); rintro e w1 ⟨hb1, ao1, cap1, rfl, hw1⟩) | (go_at_call 8; (with_reducible refine (put_snd _).mono ?_); rintro e w2 ⟨hb2, ao2, cap2, rfl⟩) | (go_at_call 5; refine (read_a _ ((hv.later hb1).later hb2)).mono ?_; rintro e w3 ⟨hb3, b, off, cap3, rfl, hc3⟩) | (go_at_call 9; refine (hli ao1 cap1 _ ((hw1.next hb2).next hb3) (((hv.later hb1).later hb2).later hb3).1).mono ?_; rintro e w4 ⟨rfl, hb4⟩; have hc4 := (hb4.cell (World.block_lt_of_cell? _ _ hc3)).trans hc3))
  go_ret
  exact ⟨rfl, ((hb1.trans (hb2.mono hb1.size)).trans (hb3.mono (Nat.le_trans hb1.size hb2.size))).trans (hb4.mono (Nat.le_trans (Nat.le_trans hb1.size hb2.size) hb3.size))⟩
end Go.Proofs.YtnghendglcblkaaGreatDoor
