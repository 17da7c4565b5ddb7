/-
  PROVED HERE: a table of sixteen numbers in memory, frames that lie apart from it, and a row of numbers of 16 bits that is handed in (over this translation). No condition.
-/
import Derived.Test.YtjdjiooblfgmlaaFrm15
import Derived.Test.YtjdjiooblfgmlaaFrmOpen
import Derived.Deep.OwnRows
import Derived.ChangeSame
import Derived.Laws.Slices
import Derived.ChangeShapes
import Derived.ChangeSlices
import Derived.Laws.BitsAllLaws
namespace Go.Proofs.Ytjdjiooblfgmlaa
open Go.ChangeShapes Go.WideShapes Go.ChangeAt Go.RowKit
set_option linter.unusedVariables false

theorem spotS {w : World} {a : Addr} {v : Value} (h : w.cell? a = some v) : a = ⟨a.block, a.off, none⟩ ∧ ∀ j, a.add j = ⟨a.block, a.off + j, none⟩ := by
  have hs : a.spot = none := by
    unfold World.cell? at h
    cases hsp : a.spot with
    | none => rfl
    | some s => split at h <;> simp [hsp] at h
  have hea : a = ⟨a.block, a.off, none⟩ := by cases a; simp at hs; simp [hs]
  refine ⟨hea, fun j => ?_⟩
  unfold Addr.add
  split
  · rename_i hj; subst hj; rw [Nat.add_zero]; exact hea
  · rfl
/-- A row of numbers of 16 bits. -/
def HalfD (w : World) (ao : Option Addr) (n cap : Nat) (C : List Nat) : Prop :=
  C.length = n ∧ n ≤ cap ∧ cap ≤ 9223372036854775807 ∧ ∀ i, i < n → C.getD i 0 < 65536 ∧ ∃ b off, ao = some ⟨b, off, none⟩ ∧ b < w.heap.size ∧ w.cell? ⟨b, off + i, none⟩ = some (.int .u16 ((C.getD i 0 : Nat) : Int))
theorem halfD_of_trod {H : Type} {enc : TypeId × Value → H} {w : World} {ao : Option Addr} {n cap : Nat} {d : DataW H} {ps : List MemPlace}
    (h : DataW.Trod enc Try.prog w 0 (fun _ => true) true 44 (.slice ao n cap) d ps) : ∃ C, HalfD w ao n cap C := by
  obtain ⟨fuel, hf⟩ := h
  rcases open_ints Try.underlying44 Try.underlying47 (by kernel_rfl) hf with ⟨e, _⟩ | ⟨a, len, cap', zs, e, hb, hl, hm, hzl, _, hc, hw⟩
  · simp [Value.cells] at e
    obtain ⟨rfl, rfl, rfl⟩ := e
    exact ⟨[], rfl, Nat.le_refl _, by omega, fun i hi => by omega⟩
  · simp [Value.cells] at e
    obtain ⟨rfl, rfl, rfl⟩ := e
    simp only [if_true] at hzl
    refine ⟨(zs.take n).map Int.toNat, by simp; omega, hl, by unfold maxLen at hm; omega, fun i hi => ?_⟩
    have z := hc i (by omega)
    have z0 := hc 0 (by omega)
    have ha0 : a.add 0 = a := by simp [Addr.add]
    rw [ha0] at z0
    obtain ⟨hea, hadd⟩ := spotS z0
    rw [hadd] at z
    have hi' : i < zs.length := by omega
    have hwi := hw zs[i] (List.getElem_mem hi')
    have h' : 0 ≤ zs[i] ∧ zs[i] ≤ 65535 := by simpa [Lit.wf, IntKind.min, IntKind.max, IntKind.bits, IntKind.signed] using hwi
    have hg : ((zs.take n).map Int.toNat).getD i 0 = zs[i].toNat := by
      simp [List.getD_eq_getElem?_getD, hi, hi']
    rw [hg]
    refine ⟨by omega, a.block, a.off, by rw [← hea], World.block_lt_of_cell? w _ z0, ?_⟩
    rw [z, List.getD_eq_getElem?_getD, List.getElem?_eq_getElem hi']
    simp only [Option.getD_some, Option.some.injEq, Value.int.injEq, true_and]
    omega

/-- Frames in blocks other than Bt. -/
def LabX (Bt : Nat) (W : World) (ao : Option Addr) (n cap : Nat) (M : List Frm.Fr) : Prop := LabD (fun b => b < W.heap.size ∧ b ≠ Bt) W ao n cap M
section
variable {Bt : Nat} {W W' : World} {ao : Option Addr} {n cap : Nat} {M : List Frm.Fr}
theorem LabX.lab (h : LabX Bt W ao n cap M) : Lab W.heap.size W ao n cap M := LabD.lab h fun b hb => hb.1
theorem LabX.next (h : LabX Bt W ao n cap M) (k : Below W.heap.size W W') : LabX Bt W' ao n cap M :=
  (LabD.later h ⟨k.size, fun b hb => k.block b hb.1⟩).wide fun b hb => ⟨Nat.lt_of_lt_of_le hb.1 k.size, hb.2⟩
theorem LabX.set (h : LabX Bt W ao n cap M) (i : Nat) (v : Value) : LabX Bt (W.setCell ⟨Bt, i, none⟩ v) ao n cap M :=
  (LabD.later h ⟨by simp, fun b hb => Below.heap_setCell _ _ _ _ hb.2⟩).wide fun b hb => ⟨by simpa using hb.1, hb.2⟩
theorem OwnL.between {base : Nat} (h : OwnL base W ao n cap M) : LabD (fun b => base ≤ b ∧ b < W.heap.size) W ao n cap M := by
  obtain ⟨h1, h2, h3, h4⟩ := h.lab
  refine ⟨h1, h2, h3, fun hn => ?_⟩
  obtain ⟨g, e, hg, _⟩ := h.form hn
  obtain ⟨b, off, e2, hb, hc⟩ := h4 hn
  refine ⟨b, off, e2, ⟨?_, hb⟩, hc⟩
  rw [e] at e2
  cases e2
  exact hg
theorem OwnL.labX {base : Nat} (h : OwnL base W ao n cap M) (hb : Bt < base) : LabX Bt W ao n cap M := h.between.wide fun b hb' => ⟨hb'.2, by omega⟩
/-- The table. -/
def TabR (W : World) (Bt : Nat) (A : Nat → Int) : Prop := W.rowIs Bt 46 16 fun i => .int .i64 (A i)
theorem TabR.next {A : Nat → Int} (h : TabR W Bt A) (k : Below W.heap.size W W') : TabR W' Bt A := World.rowIs.of_block h (k.block _ (World.rowIs.lt h))
theorem TabR.put {A : Nat → Int} (h : TabR W Bt A) (i : Nat) (v : Int) : TabR (W.setCell ⟨Bt, i, none⟩ (.int .i64 v)) Bt (Frm.upd A i v) :=
  (World.rowIs.set h i (.int .i64 v)).congr fun j _ => by unfold Frm.upd; split <;> rfl
theorem TabR.put4 {A : Nat → Int} (h : TabR W Bt A) {o : Nat} (ho : o < 4) : TabR ((((W.setCell ⟨Bt, o * 4, none⟩ (.int .i64 (-1))).setCell ⟨Bt, o * 4 + 1, none⟩ (.int .i64 (-1))).setCell ⟨Bt, o * 4 + 2, none⟩ (.int .i64 (-1))).setCell ⟨Bt, o * 4 + 3, none⟩ (.int .i64 (-1))) Bt (Frm.upd4 A o) := by
  refine World.rowIs.congr ((((h.put (o * 4) (-1)).put (o * 4 + 1) (-1)).put (o * 4 + 2) (-1)).put (o * 4 + 3) (-1)) fun j hj => ?_
  unfold Frm.upd Frm.upd4
  by_cases e : j / 4 = o
  · rw [if_pos e]
    have : j = o * 4 + 3 ∨ j = o * 4 + 2 ∨ j = o * 4 + 1 ∨ j = o * 4 := by omega
    rcases this with rfl | rfl | rfl | rfl <;> simp
  · rw [if_neg e, if_neg (by omega), if_neg (by omega), if_neg (by omega), if_neg (by omega)]
theorem TabR.at {A : Nat → Int} (h : TabR W Bt A) {i : Nat} (hi : i < 16) : W.cell? ⟨Bt, i, none⟩ = some (.int .i64 (A i)) := World.rowIs.cell h hi
theorem TabR.fz {A : Nat → Int} (h : TabR W Bt A) (i : Nat) : W.frozen? ⟨Bt, i, none⟩ = false := World.rowIs.frozen h i
theorem TabR.lt {A : Nat → Int} (h : TabR W Bt A) : Bt < W.heap.size := World.rowIs.lt h
end
theorem tab_new (w : World) : TabR (w.alloc (.cells #[.int .i64 0, .int .i64 0, .int .i64 0, .int .i64 0, .int .i64 0, .int .i64 0, .int .i64 0, .int .i64 0, .int .i64 0, .int .i64 0, .int .i64 0, .int .i64 0, .int .i64 0, .int .i64 0, .int .i64 0, .int .i64 0] 46)) w.heap.size (fun j => if j / 4 < 0 then -1 else 0) := by
  refine World.rowIs.congr (World.rowIs_alloc w #[.int .i64 0, .int .i64 0, .int .i64 0, .int .i64 0, .int .i64 0, .int .i64 0, .int .i64 0, .int .i64 0, .int .i64 0, .int .i64 0, .int .i64 0, .int .i64 0, .int .i64 0, .int .i64 0, .int .i64 0, .int .i64 0] 46 (fun _ => .int .i64 0) (fun i hi => ?_)) (fun j _ => by simp)
  have hi' : i < 16 := hi
  have : i = 0 ∨ i = 1 ∨ i = 2 ∨ i = 3 ∨ i = 4 ∨ i = 5 ∨ i = 6 ∨ i = 7 ∨ i = 8 ∨ i = 9 ∨ i = 10 ∨ i = 11 ∨ i = 12 ∨ i = 13 ∨ i = 14 ∨ i = 15 := by omega
  rcases this with rfl | rfl | rfl | rfl | rfl | rfl | rfl | rfl | rfl | rfl | rfl | rfl | rfl | rfl | rfl | rfl <;> rfl
theorem tab_step {W : World} {Bt : Nat} {k : Nat} (h : TabR W Bt (Frm.upd4 (fun j => if j / 4 < k then -1 else 0) k)) : TabR W Bt (fun j => if j / 4 < k + 1 then -1 else 0) :=
  World.rowIs.congr h fun j _ => by
    unfold Frm.upd4
    dsimp only
    by_cases h1 : j / 4 = k
    · rw [if_pos h1, if_pos (by omega)]
    · rw [if_neg h1]
      by_cases h2 : j / 4 < k
      · rw [if_pos h2, if_pos (by omega)]
      · rw [if_neg h2, if_neg (by omega)]
theorem tab_full {W : World} {Bt : Nat} (h : TabR W Bt (fun j => if j / 4 < 4 then -1 else 0)) : TabR W Bt (fun _ => -1) := World.rowIs.congr h fun j hj => by dsimp only; rw [if_pos (by omega)]
theorem and3 {X : Nat} (h : X < 65536) : bits .and .u16 (X : Int) 3 = ((X % 4 : Nat) : Int) := by
  have := u16_and_nat X 3 h (by omega)
  rw [show X &&& 3 = X % 4 from Nat.and_two_pow_sub_one_eq_mod X 2] at this
  exact this
theorem and3_at {X : Nat} (h : X < 65536) (d : Nat) (hd : 0 < d) : bits .and .u16 ((X : Int) / (d : Int)) 3 = ((X / d % 4 : Nat) : Int) := by
  rw [← Int.natCast_ediv]
  exact and3 (Nat.lt_of_le_of_lt (Nat.div_le_self _ _) h)
section
variable (a b c d : Int) (W : World)
theorem size3 (W : World) : (sizeOf 3).run Try.prog W = .ok 1 W := by
  obtain ⟨i0, hi, _, hz1, _⟩ := info_parts (P := Try.prog) (e := 3) (z := .int .i64 0) (size := 1) (bytes := 8) (by kernel_rfl)
  simp [sizeOf, typeInfo, hi, hz1]
theorem idx0 : (Instr.index 45 (.agg #[.int .i64 a, .int .i64 b, .int .i64 c, .int .i64 d]) (.int .i64 ((0 : Nat) : Int))).run Try.prog W = .ok (.int .i64 a) W := by
  have hp : ∀ W, (part 3 #[.int .i64 a, .int .i64 b, .int .i64 c, .int .i64 d] 0).run Try.prog W = .ok (.int .i64 a) W := fun W => by go_simp
  simp [Instr.index, asIntOf, run_underlying Try.underlying45, Result.andThen, hp]
theorem idx1 : (Instr.index 45 (.agg #[.int .i64 a, .int .i64 b, .int .i64 c, .int .i64 d]) (.int .i64 ((1 : Nat) : Int))).run Try.prog W = .ok (.int .i64 b) W := by
  have hp : ∀ W, (part 3 #[.int .i64 a, .int .i64 b, .int .i64 c, .int .i64 d] 1).run Try.prog W = .ok (.int .i64 b) W := fun W => by go_simp
  simp [Instr.index, asIntOf, run_underlying Try.underlying45, Result.andThen, hp]
theorem idx2 : (Instr.index 45 (.agg #[.int .i64 a, .int .i64 b, .int .i64 c, .int .i64 d]) (.int .i64 ((2 : Nat) : Int))).run Try.prog W = .ok (.int .i64 c) W := by
  have hp : ∀ W, (part 3 #[.int .i64 a, .int .i64 b, .int .i64 c, .int .i64 d] 2).run Try.prog W = .ok (.int .i64 c) W := fun W => by go_simp
  simp [Instr.index, asIntOf, run_underlying Try.underlying45, Result.andThen, hp]
theorem idx3 : (Instr.index 45 (.agg #[.int .i64 a, .int .i64 b, .int .i64 c, .int .i64 d]) (.int .i64 ((3 : Nat) : Int))).run Try.prog W = .ok (.int .i64 d) W := by
  have hp : ∀ W, (part 3 #[.int .i64 a, .int .i64 b, .int .i64 c, .int .i64 d] 3).run Try.prog W = .ok (.int .i64 d) W := fun W => by go_simp
  simp [Instr.index, asIntOf, run_underlying Try.underlying45, Result.andThen, hp]
end
end Go.Proofs.Ytjdjiooblfgmlaa
