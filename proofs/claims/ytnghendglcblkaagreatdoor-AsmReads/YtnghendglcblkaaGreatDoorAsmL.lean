/-
  PROVED HERE: what List of package asm returns when it is called: a program's words as a text (a contract over this translation). At most 65536 words.
-/
import Derived.Test.YtnghendglcblkaaGreatDoorAsmB
import Derived.Test.YtnghendglcblkaaGreatDoorAsm9
namespace Go.Proofs.YtnghendglcblkaaGreatDoor
open Go.RowKit Go.Shelf
set_option linter.unusedVariables false
open Asm

/-- The slice of n words at ao holds ws in w, in a block of which D holds. -/
def WdsD (D : Nat → Prop) (w : World) (ao : Option Addr) (n cap : Nat) (ws : List Int) : Prop :=
  ws.length = n ∧ n ≤ cap ∧ (cap ≤ 9223372036854775807 ∧ (ao = none → cap = 0)) ∧
  (0 < n → ∃ b off, ao = some ⟨b, off, none⟩ ∧ D b ∧ ∀ i, i < n → w.cell? ⟨b, off + i, none⟩ = some (.int .u64 (ws.getD i 0)))
def Wds (B : Nat) (w : World) (ao : Option Addr) (n cap : Nat) (ws : List Int) : Prop := WdsD (fun b => b < B) w ao n cap ws
def W64 (ws : List Int) : Prop := ∀ x ∈ ws, 0 ≤ x ∧ x < 18446744073709551616
section
variable {D : Nat → Prop} {w w' : World} {ao : Option Addr} {n cap B B' : Nat} {ws : List Int}
theorem WdsD.laterK (h : WdsD D w ao n cap ws) (k : ∀ b, D b → w'.heap[b]? = w.heap[b]?) : WdsD D w' ao n cap ws := by
  obtain ⟨h1, h2, h3, h4⟩ := h
  refine ⟨h1, h2, h3, fun hn => ?_⟩
  obtain ⟨b, off, e, hb, hc⟩ := h4 hn
  exact ⟨b, off, e, hb, fun i hi => (World.cell?_of_block (w := w) (a := ⟨b, off + i, none⟩) (k b hb)).trans (hc i hi)⟩
theorem Wds.later (h : Wds B w ao n cap ws) (k : Below B w w') : Wds B w' ao n cap ws := WdsD.laterK h fun b hb => k.block b hb
theorem Wds.wide (h : Wds B w ao n cap ws) (k : B ≤ B') : Wds B' w ao n cap ws := by
  obtain ⟨h1, h2, h3, h4⟩ := h
  refine ⟨h1, h2, h3, fun hn => ?_⟩
  obtain ⟨b, off, e, hb, hc⟩ := h4 hn
  exact ⟨b, off, e, Nat.lt_of_lt_of_le hb k, hc⟩
theorem Wds.next (h : Wds w.heap.size w ao n cap ws) (k : Below w.heap.size w w') : Wds w'.heap.size w' ao n cap ws := (h.later k).wide k.size
theorem Wds.at (h : Wds B w ao n cap ws) {i : Nat} (hi : i < n) : ∃ (b off : Nat) (x : Int), ao = some ⟨b, off, none⟩ ∧ b < B ∧ Hid (ws.getD i 0 = x) ∧ w.cell? ⟨b, off + i, none⟩ = some (.int .u64 x) := by
  obtain ⟨h1, h2, h3, h4⟩ := h
  obtain ⟨b, off, e, hb, hc⟩ := h4 (by omega)
  exact ⟨b, off, _, e, hb, rfl, hc i hi⟩
/-- A row of the call's own words. -/
theorem wds_of_row {v : Value} {k C : Nat} (h : w.ownsRow C 55 1 v k (wV ws)) (hk : ws.length = k) : ∃ ao cap, v = .slice ao k cap ∧ Wds w.heap.size w ao k cap ws := by
  have hl := h
  rcases h.2 with ⟨rfl, h0⟩ | ⟨g, c, cur, rfl, hb, hg, hkc, hcm, hcs, htk⟩
  · refine ⟨none, 0, by rw [h0], hk, by omega, ⟨by omega, fun _ => rfl⟩, fun hn => by omega⟩
  · refine ⟨some ⟨g, 0, none⟩, c, rfl, hk, hkc, ⟨by unfold maxLen at hcm; omega, fun e => by cases e⟩, fun hn => ⟨g, 0, rfl, (Array.getElem?_eq_some_iff.1 hg).1, fun i hi => ?_⟩⟩
    have := hl.cells (g := g) rfl i (.int .u64 (ws.getD i 0)) (by
      unfold wV
      rw [List.getElem?_map, List.getElem?_eq_getElem (by omega), List.getD_eq_getElem?_getD, List.getElem?_eq_getElem (by omega)]
      rfl)
    have e : (⟨g, 0, none⟩ : Addr).add i = ⟨g, 0 + i, none⟩ := by simp [Addr.add]; intro h; exact h.symm
    rw [e] at this
    exact this
end
/-- A word as a line of text. -/
def lnW (x : Int) : ByteArray := (if Ins.decB x then txS (Ins.fOp x) (Ins.fA x) (Ins.fB x) (Ins.fC x) (Ins.fI x) else ⟨#[63]⟩) ++ ⟨#[10]⟩
def lstL (ws : List Int) : List UInt8 := ws.flatMap fun x => (lnW x).data.toList
def lstS (ws : List Int) : ByteArray := ⟨(lstL ws).toArray⟩
theorem lstL_take {ws : List Int} {k : Nat} (h : k < ws.length) : lstL (ws.take (k + 1)) = lstL (ws.take k) ++ (lnW (ws.getD k 0)).data.toList := by
  unfold lstL
  rw [List.take_succ_eq_append_getElem h, List.flatMap_append, List.getD_eq_getElem?_getD, List.getElem?_eq_getElem h]
  simp
section
variable {T e : TypeId} {B b : Nat} {bs : List Value} {w w' : World}
theorem bld_next (h : Lib.IsBuilder T e B b bs w) (hb : Below w.heap.size w w') : Lib.IsBuilder T e B b bs w' := by
  have key : ∀ p, Lib.BuilderAt T e B b p bs w → Lib.BuilderAt T e B b p bs w' := fun p ⟨h1, v, h2, h3, h4⟩ =>
    ⟨h1, v, (hb.block b (Array.getElem?_eq_some_iff.1 h2).1).trans h2, row_next h3 hb, h4⟩
  rcases h with h | h
  · exact .inl (key _ h)
  · exact .inr (key _ h)
end
theorem bld_new (w : World) : Lib.IsBuilder 60 5 w.heap.size w.heap.size [] (w.alloc (.cells #[.pointer none, .slice none 0 0] 60)) :=
  .inl ⟨Nat.le_refl _, .slice none 0 0, World.alloc_heap_new w _, ⟨rfl, .inl ⟨rfl, rfl⟩⟩, by simp [Value.ownBlock]⟩
theorem txS_size {op a b c i : Int} (ha : I64 a) (hb : I64 b) (hc : I64 c) (hi : I64 i) : (txS op a b c i).size ≤ 74 := by
  unfold txS
  split
  · have h1 := accT_size ha hb hc hi (Ins.shp op) op (List.range (Ins.shp op).length)
    rw [List.length_range] at h1
    have h2 : (Ins.shp op).length ≤ 3 := by rcases Ins.shp_cases op with h | h | h | h | h | h | h <;> rw [h] <;> decide
    omega
  · show 0 ≤ 74; omega
theorem txS_size' (x : Int) (h0 : 0 ≤ x) (h1 : x < 18446744073709551616) : (txS (Ins.fOp x) (Ins.fA x) (Ins.fB x) (Ins.fC x) (Ins.fI x)).size ≤ 74 := by
  obtain ⟨_, ha, hb, hc, hi⟩ := Ins.fields_bounds h0 h1
  exact txS_size ⟨by omega, by omega⟩ ⟨by omega, by omega⟩ ⟨by omega, by omega⟩ ⟨by omega, by omega⟩
set_option maxRecDepth 100000 in
set_option maxHeartbeats 2000000 in
theorem list_any (ao : Option Addr) (n cap : Nat) (ws : List Int) (w : World) (hn : n ≤ 65536) (h : Wds w.heap.size w ao n cap ws) (h64 : W64 ws) (hv : Vars w) :
    Calls Tryz.prog 9 #[.slice ao n cap] w fun e w' => e = .returned (.string (lstS ws)) ∧ Below w.heap.size w w' := by
  have hlen : Hid (ws.length = n) := h.1
  go_enter Tryz.func9, Tryz.ntmps9
  go_wp2
  go_loopw [11] (fun vi wr => ∃ k : Nat, k ≤ n ∧ vi = .int .i64 k ∧ Lib.IsBuilder 60 5 w.heap.size w.heap.size (Lib.byteCells (lstL (ws.take k))) wr ∧ (lstL (ws.take k)).length ≤ 200 * k ∧ Below w.heap.size w wr) (fun vi _ => n - (intOf vi).toNat)
  case atStart => exact ⟨0, Nat.zero_le _, rfl, bld_new w, Nat.le_refl _, (Below.refl _ w).alloc (Nat.le_refl _) _⟩
  case round =>
    obtain ⟨k, hk, rfl, hbd, hsz, hB⟩ := hrel
    by_cases hks : k < n
    · obtain ⟨b, off, x, rfl, hb, hx, c0⟩ := Wds.at (h.later hB) hks
      have hkl : Hid (k < ws.length) := by show k < ws.length; rw [hlen.out]; exact hks
      obtain ⟨x0, x1⟩ : 0 ≤ x ∧ x < 18446744073709551616 := h64 x (by rw [← hx.out, List.getD_eq_getElem?_getD, List.getElem?_eq_getElem hkl.out]; exact List.getElem_mem _)
      have hst : Hid (lstL (ws.take (k + 1)) = lstL (ws.take k) ++ (lnW x).data.toList) := by show _ = _; rw [lstL_take hkl.out, hx.out]
      have hVr := hv.later hB
      cases hd : Ins.decB x with
      | true =>
        obtain ⟨_, _, _, _, hi0, hi1⟩ := Ins.fields_bounds x0 x1
        have hts := txS_size' x x0 x1
        have htx : Hid (lnW x = txS (Ins.fOp x) (Ins.fA x) (Ins.fB x) (Ins.fC x) (Ins.fI x) ++ ⟨#[10]⟩) := by show _ = _; unfold lnW; rw [hd]; rfl
        have hta := fun W2 hV2 => text_any (Ins.fOp x) (Ins.fA x) (Ins.fB x) (Ins.fC x) (Ins.fI x) hi0 hi1 W2 hV2
        obtain ⟨tx, ht⟩ : ∃ tx, txS (Ins.fOp x) (Ins.fA x) (Ins.fB x) (Ins.fC x) (Ins.fI x) = tx := ⟨_, rfl⟩
        simp only [ht] at hta
        rw [ht] at htx hts
        clear ht
        have hz1 : (9223372036854775807 < tx.size + 1) = False := by simp; omega
        have hcl : (Lib.byteCells (lstL (ws.take k))).length + (tx ++ ⟨#[10]⟩ : ByteArray).size ≤ 140737488355328 := by rw [Lib.byteCells_length, ByteArray.size_append]; show _ + (tx.size + 1) ≤ _; omega
        have hsz2 : Hid ((lstL (ws.take (k + 1))).length ≤ 200 * (k + 1)) := by show _ ≤ _; rw [hst.out, List.length_append, htx.out, size_list, ByteArray.size_append]; show _ + (tx.size + 1) ≤ _; omega
        go_wp2_with (first | (go_at_call 19; refine (decode_yes x x0 x1 hd _).mono ?_; rintro e w3 ⟨rfl, hb3⟩; have hb3a : Below wr.heap.size wr (w3.alloc (.cells #[.int .i64 (Ins.fOp x), .int .i64 (Ins.fA x), .int .i64 (Ins.fB x), .int .i64 (Ins.fC x), .int .i32 (Ins.fI x)] 35)) := hb3.alloc hb3.size _) | (go_at_call 20; refine (hta _ (hVr.later hb3a)).mono ?_; rintro e w4 ⟨rfl, hb4⟩; have hb4a : Below wr.heap.size wr w4 := hb3a.trans (hb4.mono hb3a.size)) | (go_at_call 21; refine (write_any w.heap.size w.heap.size _ _ _ (bld_next hbd hb4a) hcl (Nat.le_trans hB.size hb4a.size)).mono ?_; rintro e w5 ⟨rfl, hbd5, hb5⟩))
        go_roundw
        case rel =>
          refine ⟨k + 1, by omega, by simp, ?_, hsz2.out, (hB.trans (hb4a.mono hB.size)).trans hb5⟩
          rw [hst.out, htx.out]
          have e : Lib.byteCells (lstL (ws.take k) ++ (tx ++ ⟨#[10]⟩ : ByteArray).data.toList) = Lib.byteCells (lstL (ws.take k)) ++ Lib.strCells (tx ++ ⟨#[10]⟩) := List.map_append ..
          rw [e]
          exact .inr hbd5
        case measure => simp [intOf]; omega
      | false =>
        have htx : Hid (lnW x = ⟨#[63]⟩ ++ ⟨#[10]⟩) := by show _ = _; unfold lnW; rw [hd]; rfl
        have hcl : (Lib.byteCells (lstL (ws.take k))).length + (⟨#[63]⟩ ++ ⟨#[10]⟩ : ByteArray).size ≤ 140737488355328 := by rw [Lib.byteCells_length, ByteArray.size_append]; show _ + (1 + 1) ≤ _; omega
        have hsz2 : Hid ((lstL (ws.take (k + 1))).length ≤ 200 * (k + 1)) := by show _ ≤ _; rw [hst.out, List.length_append, htx.out, size_list, ByteArray.size_append]; show _ + (1 + 1) ≤ _; omega
        go_wp2_with (first | (go_at_call 19; refine (decode_no x x0 x1 hd _).mono ?_; rintro e w3 ⟨rfl, hb3⟩; have hb3a : Below wr.heap.size wr (w3.alloc (.cells #[.int .i64 0, .int .i64 0, .int .i64 0, .int .i64 0, .int .i32 0] 35)) := hb3.alloc hb3.size _) | (go_at_call 21; refine (write_any w.heap.size w.heap.size _ _ _ (bld_next hbd hb3a) hcl (Nat.le_trans hB.size hb3a.size)).mono ?_; rintro e w5 ⟨rfl, hbd5, hb5⟩))
        go_roundw
        case rel =>
          refine ⟨k + 1, by omega, by simp, ?_, hsz2.out, (hB.trans (hb3a.mono hB.size)).trans hb5⟩
          rw [hst.out, htx.out]
          have e : Lib.byteCells (lstL (ws.take k) ++ (⟨#[63]⟩ ++ ⟨#[10]⟩ : ByteArray).data.toList) = Lib.byteCells (lstL (ws.take k)) ++ Lib.strCells (⟨#[63]⟩ ++ ⟨#[10]⟩) := List.map_append ..
          rw [e]
          exact .inr hbd5
        case measure => simp [intOf]; omega
    · obtain rfl : k = n := by omega
      rw [← hlen.out, List.take_length] at hbd
      go_wp2_with (go_at_call 22; refine (Tryz.Builder_String_any w.heap.size w.heap.size (lstL ws) _ hbd hB.size).mono ?_; rintro e w5 ⟨rfl, hb5⟩)
      go_ret
      exact ⟨rfl, hB.trans hb5⟩
end Go.Proofs.YtnghendglcblkaaGreatDoor
