/-
  PROVED HERE: that the law's own examples of chapter 8 hold when they are called (a contract over this translation), and what lies in memory while InstTells asks. Condition: the library's table of powers of ten is as the program's text lays it.
-/
import Derived.Test.YtdacepaebmcfbaaDoorIns13
namespace Go.Proofs.YtdacepaebmcfbaaDoor
open Go.RowKit Go.Shelf
set_option linter.unusedVariables false

theorem dec26 : Ins.decB 26 = false := by decide +kernel
theorem word_ex : Ins.wordI 1 1 0 0 7 = 30064771329 := by decide +kernel
theorem text_ex : txS 23 2 3 0 (-1) = ⟨#[108, 111, 97, 100, 32, 114, 50, 32, 114, 51, 32, 45, 49]⟩ := by
  have hf : Ins.fitB 23 2 3 0 (-1) = true := by decide +kernel
  have hs : Ins.shp 23 = [97, 98, 105] := by decide +kernel
  have h2 : itS 2 = ⟨#[50]⟩ := by show (⟨(Lib.itoa ((2 : Nat) : Int)).toArray⟩ : ByteArray) = _; rw [Lib.itoa_nonneg, Lib.decDigits_one (by omega)]; rfl
  have h3 : itS 3 = ⟨#[51]⟩ := by show (⟨(Lib.itoa ((3 : Nat) : Int)).toArray⟩ : ByteArray) = _; rw [Lib.itoa_nonneg, Lib.decDigits_one (by omega)]; rfl
  have h1 : itS (-1) = ⟨#[45, 49]⟩ := by show (⟨(Lib.itoa (-((1 : Nat) : Int))).toArray⟩ : ByteArray) = _; rw [Lib.itoa_neg 1 (by omega), Lib.decDigits_one (by omega)]; rfl
  unfold txS
  rw [hf, if_pos rfl, hs]
  refine ba_ext ?_
  simp [accT, stepT, ltr, prt, tldS, List.range_succ, ByteArray.data_append, h1, h2, h3, nmS]
set_option maxRecDepth 100000 in
set_option maxHeartbeats 1000000 in
theorem awake8_any (w : World) (hv : Vars w) :
    Calls Tryd.prog 16 #[] w fun e w' => e = .returned (.bool true) ∧ Below w.heap.size w w' := by
  have h1 := word_ex
  have h2 := text_ex
  have HV : Hid (Vars w) := hv
  clear hv
  go_enter Tryd.func16, Tryd.ntmps16
  go_wp2_with (first | (go_at_call 6; refine (decode_no 26 (by omega) (by omega) dec26 _).mono ?_; rintro e w1 ⟨rfl, hb1⟩) | (go_at_call 10; refine (encode_any _ _ _ _ _ (by omega) (by omega) _).mono ?_; rintro e w2 ⟨rfl, hb2⟩; have hB2 : Below w.heap.size w w2 := (hb1.alloc hb1.size _).trans (hb2.mono (by have := hb1.size; simp; omega)); rw [h1]) | (go_at_call 12; refine (text_any _ _ _ _ _ (by omega) (by omega) _ (HV.out.later hB2)).mono ?_; rintro e w3 ⟨rfl, hb3⟩; have hB3 := hB2.trans (hb3.mono hB2.size); rw [h2]))
  go_ret
  exact ⟨rfl, hB3⟩

/-- What lies in memory while InstTells asks: the instruction, and what was read of the word, twice. -/
def Tel (w : World) (B0 B1 B2 : Nat) (op a b c i p0 p1 p2 p3 p4 : Int) (W : World) : Prop := Ib W B0 op a b c i ∧ Ib W B1 p0 p1 p2 p3 p4 ∧ Ib W B2 p0 p1 p2 p3 p4 ∧ Vars W ∧ Below w.heap.size w W
def TelS (w : World) (B0 B1 B2 : Nat) (op a b c i p0 p1 p2 p3 p4 : Int) (W : World) : Prop :=
  W.cell? ⟨B0, 0, none⟩ = some (.int .i64 op) ∧ W.cell? ⟨B0, 1, none⟩ = some (.int .i64 a) ∧ W.cell? ⟨B0, 2, none⟩ = some (.int .i64 b) ∧ W.cell? ⟨B0, 3, none⟩ = some (.int .i64 c) ∧ W.cell? ⟨B0, 4, none⟩ = some (.int .i32 i) ∧
  W.cell? ⟨B1, 0, none⟩ = some (.int .i64 p0) ∧ W.cell? ⟨B1, 1, none⟩ = some (.int .i64 p1) ∧ W.cell? ⟨B1, 2, none⟩ = some (.int .i64 p2) ∧ W.cell? ⟨B1, 3, none⟩ = some (.int .i64 p3) ∧ W.cell? ⟨B1, 4, none⟩ = some (.int .i32 p4) ∧
  W.cell? ⟨B2, 0, none⟩ = some (.int .i64 p0) ∧ W.cell? ⟨B2, 1, none⟩ = some (.int .i64 p1) ∧ W.cell? ⟨B2, 2, none⟩ = some (.int .i64 p2) ∧ W.cell? ⟨B2, 3, none⟩ = some (.int .i64 p3) ∧ W.cell? ⟨B2, 4, none⟩ = some (.int .i32 p4) ∧
  Tel w B0 B1 B2 op a b c i p0 p1 p2 p3 p4 W
section
variable {w X Y : World} {B0 B1 B2 : Nat} {op a b c i p0 p1 p2 p3 p4 : Int}
theorem Tel.mem (h : Tel w B0 B1 B2 op a b c i p0 p1 p2 p3 p4 X) : TelS w B0 B1 B2 op a b c i p0 p1 p2 p3 p4 X := by
  obtain ⟨x0, x1, x2, x3, x4⟩ := h.1.cells
  obtain ⟨y0, y1, y2, y3, y4⟩ := h.2.1.cells
  obtain ⟨z0, z1, z2, z3, z4⟩ := h.2.2.1.cells
  exact ⟨x0, x1, x2, x3, x4, y0, y1, y2, y3, y4, z0, z1, z2, z3, z4, h⟩
theorem TelS.tel (h : TelS w B0 B1 B2 op a b c i p0 p1 p2 p3 p4 X) : Tel w B0 B1 B2 op a b c i p0 p1 p2 p3 p4 X := h.2.2.2.2.2.2.2.2.2.2.2.2.2.2.2
theorem Tel.next (h : Tel w B0 B1 B2 op a b c i p0 p1 p2 p3 p4 X) (hb : Below X.heap.size X Y) : Tel w B0 B1 B2 op a b c i p0 p1 p2 p3 p4 Y :=
  ⟨h.1.next hb, h.2.1.next hb, h.2.2.1.next hb, h.2.2.2.1.later hb, h.2.2.2.2.trans (hb.mono h.2.2.2.2.size)⟩
theorem TelS.next (h : TelS w B0 B1 B2 op a b c i p0 p1 p2 p3 p4 X) (hb : Below X.heap.size X Y) : TelS w B0 B1 B2 op a b c i p0 p1 p2 p3 p4 Y := (h.tel.next hb).mem
end
/-- What both say of a word, in letters. -/
theorem both_decode (x : Int) (h0 : 0 ≤ x) (h1 : x < 18446744073709551616) : ∃ (p0 p1 p2 p3 p4 : Int) (ok : Bool),
    (∀ w, Calls Tryd.prog 6 #[.int .u64 x] w fun e w' => e = .returned (.tuple #[.agg #[.int .i64 p0, .int .i64 p1, .int .i64 p2, .int .i64 p3, .int .i32 p4], .bool ok]) ∧ Below w.heap.size w w') ∧
    (∀ w, Calls Tryd.prog 7 #[.int .u64 x] w fun e w' => e = .returned (.tuple #[.agg #[.int .i64 p0, .int .i64 p1, .int .i64 p2, .int .i64 p3, .int .i32 p4], .bool ok]) ∧ Below w.heap.size w w') := by
  cases hd : Ins.decB x with
  | true => exact ⟨_, _, _, _, _, _, decode_yes x h0 h1 hd, rdecode_ok x h0 h1 hd⟩
  | false => exact ⟨_, _, _, _, _, _, decode_no x h0 h1 hd, rdecode_no x h0 h1 hd⟩
end Go.Proofs.YtdacepaebmcfbaaDoor
