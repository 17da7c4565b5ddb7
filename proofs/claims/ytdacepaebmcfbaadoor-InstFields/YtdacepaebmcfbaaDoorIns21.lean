/-
  PROVED HERE: what InstFields returns, where the word is none, and where it is one (contracts over this translation). Condition: the library's table of powers of ten is as the program's text lays it.
-/
import Derived.Test.YtdacepaebmcfbaaDoorIns20
import Derived.Deep.Cut
namespace Go.Proofs.YtdacepaebmcfbaaDoor
open Go.RowKit Go.Shelf
set_option linter.unusedVariables false

set_option maxRecDepth 100000 in
set_option maxHeartbeats 1000000 in
theorem fields_no {x : Int} (hd : ∀ w, Calls Tryd.prog 6 #[.int .u64 x] w fun e w' => e = .returned (.tuple #[.agg #[.int .i64 0, .int .i64 0, .int .i64 0, .int .i64 0, .int .i32 0], .bool false]) ∧ Below w.heap.size w w') (w : World) (hv : Vars w) :
    Calls Tryd.prog 5 #[.int .u64 x] w fun e w' => e = .returned (.bool true) ∧ Below w.heap.size w w' := by
  have HV : Hid (Vars w) := hv
  clear hv
  go_enter Tryd.func5, Tryd.ntmps5
  go_wp2_with (first | (go_at_call 6; refine (hd _).mono ?_; rintro e w1 ⟨rfl, hb1⟩; have hB1 := hb1.alloc hb1.size (.cells #[.int .i64 0, .int .i64 0, .int .i64 0, .int .i64 0, .int .i32 0] 23)) | (go_at_call 16; refine (awake8_any _ (HV.out.later hB1)).mono ?_; rintro e w2 ⟨rfl, hb2⟩))
  go_ret
  exact ⟨rfl, hB1.trans (hb2.mono hB1.size)⟩

/-- What lies in memory while InstFields looks: the instruction and the set. -/
def Fld (w : World) (B M : Nat) (l : List UInt8) (p0 p1 p2 p3 p4 : Int) (W : World) : Prop := Ib W B p0 p1 p2 p3 p4 ∧ SetAt W M l ∧ Vars W ∧ Below w.heap.size w W
theorem Fld.put {w W : World} {B M : Nat} {l : List UInt8} {p0 p1 p2 p3 p4 : Int} (h : Fld w B M l p0 p1 p2 p3 p4 W) (hM : w.heap.size ≤ M) (hg : 1 < w.heap.size) (l' : List UInt8) : Fld w B M l' p0 p1 p2 p3 p4 (W.putObj M (.map (ents 0 l').toArray l'.length)) := by
  obtain ⟨h1, h2, h3, h4⟩ := h
  have hne : B ≠ M := fun e => by have h := show W.heap[B]? = _ from h1; rw [e, show W.heap[M]? = _ from h2] at h; cases h
  refine ⟨(World.putObj_heap_other hne).trans h1, h2.put l', ?_, below_putObj h4 hM _⟩
  exact var?_below (W := W) (W' := W.putObj M (.map (ents 0 l').toArray l'.length)) (below_putObj (Below.refl _ W) hM _) gPow hg h3
theorem shp_new (op : Int) (k : Nat) (hk : k < (Ins.shp op).length) : ((Ins.shp op).take k).contains ((Ins.shp op)[k]'hk) = false := by
  revert hk
  rcases Ins.shp_cases op with h | h | h | h | h | h | h <;> rw [h] <;> intro hk <;> rcases k with _ | _ | _ | k <;> first | rfl | (exfalso; simp at hk; done) | (exfalso; simp at hk; omega)
set_option maxRecDepth 100000 in
set_option maxHeartbeats 1000000 in
theorem fields_yes {x p0 p1 p2 p3 p4 : Int} (hd : ∀ w, Calls Tryd.prog 6 #[.int .u64 x] w fun e w' => e = .returned (.tuple #[.agg #[.int .i64 p0, .int .i64 p1, .int .i64 p2, .int .i64 p3, .int .i32 p4], .bool true]) ∧ Below w.heap.size w w')
    (x0 : 0 ≤ x) (x1 : x < 18446744073709551616) (hA : bits .and .u64 x 255 = p0) (hA1 : bits .and .u64 (x / 256) 15 = p1) (hA2 : bits .and .u64 (x / 4096) 15 = p2) (hA3 : bits .and .u64 (x / 65536) 15 = p3) (hA4 : bits .and .u64 (x / 1048576) 4095 = 0)
    (hI : IntKind.u32.wrap p4 = x / 4294967296) (b0 : 0 ≤ p0 ∧ p0 < 26) (b1 : 0 ≤ p1 ∧ p1 < 16) (b2 : 0 ≤ p2 ∧ p2 < 16) (b3 : 0 ≤ p3 ∧ p3 < 16)
    (za : Ins.us p0 97 = false → p1 = 0) (zb : Ins.us p0 98 = false → p2 = 0) (zc : Ins.us p0 99 = false → p3 = 0) (zi : Ins.us p0 105 = false → p4 = 0) (w : World) (hv : Vars w) :
    Calls Tryd.prog 5 #[.int .u64 x] w fun e w' => e = .returned (.bool true) ∧ Below w.heap.size w w' := by
  have HV : Hid (Vars w) := hv
  have hg : 1 < w.heap.size := var_lt gPow hv
  have ZA : Hid (Ins.us p0 97 = true ∨ (Ins.us p0 97 = false ∧ p1 = 0)) := by cases h : Ins.us p0 97 with | false => exact .inr ⟨rfl, za h⟩ | true => exact .inl rfl
  have ZB : Hid (Ins.us p0 98 = true ∨ (Ins.us p0 98 = false ∧ p2 = 0)) := by cases h : Ins.us p0 98 with | false => exact .inr ⟨rfl, zb h⟩ | true => exact .inl rfl
  have ZC : Hid (Ins.us p0 99 = true ∨ (Ins.us p0 99 = false ∧ p3 = 0)) := by cases h : Ins.us p0 99 with | false => exact .inr ⟨rfl, zc h⟩ | true => exact .inl rfl
  have ZI : Hid (Ins.us p0 105 = true ∨ (Ins.us p0 105 = false ∧ p4 = 0)) := by cases h : Ins.us p0 105 with | false => exact .inr ⟨rfl, zi h⟩ | true => exact .inl rfl
  obtain ⟨b00, b01⟩ := b0
  obtain ⟨b10, b11⟩ := b1
  obtain ⟨b20, b21⟩ := b2
  obtain ⟨b30, b31⟩ := b3
  have hmm : ∀ W, (Instr.makeMap 36 none).run Tryd.prog W = .ok (.map (some W.heap.size)) (W.alloc (.map #[] 0)) := fun W => run_makeMap _ _
  obtain ⟨s, hs⟩ : ∃ s, Hid (Ins.shS p0 = s) := ⟨_, rfl⟩
  have hls : Hid (s.data.toList = Ins.shp p0) := by show _ = _; rw [← hs.out]; rfl
  have hsz : s.size ≤ 3 := by rw [← hs.out]; show (Ins.shp p0).toArray.size ≤ 3; rcases Ins.shp_cases p0 with h | h | h | h | h | h | h <;> rw [h] <;> decide
  clear hv za zb zc zi
  go_enter Tryd.func5, Tryd.ntmps5
  go_wp2_with (first | (go_at_call 6; refine (hd _).mono ?_; rintro e w1 ⟨rfl, hb1⟩; have hB1 := hb1.alloc hb1.size (.cells #[.int .i64 p0, .int .i64 p1, .int .i64 p2, .int .i64 p3, .int .i32 p4] 23)) | (go_at_call 14; refine (shape_any _ _).mono ?_; rintro e w2 ⟨rfl, rfl⟩; rw [hs.out]))
  have F0 : Fld w w1.heap.size (w1.heap.size + 1) [] p0 p1 p2 p3 p4 ((w1.alloc (.cells #[.int .i64 p0, .int .i64 p1, .int .i64 p2, .int .i64 p3, .int .i32 p4] 23)).alloc (.map #[] 0)) := by
    have hB2 := hB1.alloc hB1.size (.map #[] 0)
    have hm := World.alloc_heap_new (w1.alloc (.cells #[.int .i64 p0, .int .i64 p1, .int .i64 p2, .int .i64 p3, .int .i32 p4] 23)) (.map #[] 0)
    rw [World.size_alloc] at hm
    exact ⟨(Ib.new w1 p0 p1 p2 p3 p4).alloc _, hm, HV.out.later hB2, hB2⟩
  have hBM : w.heap.size ≤ w1.heap.size + 1 := by have := hb1.size; omega
  clear hB1 hd hmm hA hA1 hA2 hA3 hA4 hI
  go_loopw [75] (fun vi wr => ∃ k : Nat, vi = .int .i64 k ∧ k ≤ s.size ∧ Fld w w1.heap.size (w1.heap.size + 1) (s.data.toList.take k) p0 p1 p2 p3 p4 wr) (fun vi _ => s.size - (intOf vi).toNat)
  case atStart => exact ⟨0, rfl, by omega, F0⟩
  case round =>
    obtain ⟨k, rfl, hk, hF⟩ := hrel
    by_cases hks : k < s.size
    · have hks' : (k : Int) < (s.size : Int) := by omega
      have hlk : k < s.data.toList.length := by simpa using hks
      have hnew : (s.data.toList.take k).contains (s[k]'hks) = false := by
        have h1 := shp_new p0 k (by rw [← hls.out]; exact hlk)
        have e : (Ins.shp p0)[k]'(by rw [← hls.out]; exact hlk) = s[k]'hks := by simp only [← hls.out]; rfl
        rw [e, ← hls.out] at h1
        exact h1
      have hmu := set_put hF.2.1 (s[k]'hks) hnew
      have hF2 := hF.put hBM hg (s.data.toList.take k ++ [s[k]'hks])
      have hta : s.data.toList.take k ++ [s[k]'hks] = s.data.toList.take (k + 1) := by rw [List.take_succ_eq_append_getElem hlk]; rfl
      rw [hta] at hmu hF2
      obtain ⟨X, hX⟩ : ∃ X, wr.putObj (w1.heap.size + 1) (.map (ents 0 (s.data.toList.take (k + 1))).toArray (s.data.toList.take (k + 1)).length) = X := ⟨_, rfl⟩
      rw [hX] at hmu hF2
      clear hta hnew hF hX
      go_wp2
      go_roundw
      case rel => exact ⟨k + 1, by go_num, by omega, hF2⟩
      case measure => simp [intOf]; omega
    · obtain rfl : k = s.size := by omega
      rw [List.take_of_length_le (by simp), hls.out] at hF
      have l1 : (Instr.lookup 36 (.map (some (w1.heap.size + 1))) (.int .u8 97) false).run Tryd.prog wr = .ok (.bool (Ins.us p0 97)) wr := set_get hF.2.1 97
      have l2 : (Instr.lookup 36 (.map (some (w1.heap.size + 1))) (.int .u8 98) false).run Tryd.prog wr = .ok (.bool (Ins.us p0 98)) wr := set_get hF.2.1 98
      have l3 : (Instr.lookup 36 (.map (some (w1.heap.size + 1))) (.int .u8 99) false).run Tryd.prog wr = .ok (.bool (Ins.us p0 99)) wr := set_get hF.2.1 99
      have l4 : (Instr.lookup 36 (.map (some (w1.heap.size + 1))) (.int .u8 105) false).run Tryd.prog wr = .ok (.bool (Ins.us p0 105)) wr := set_get hF.2.1 105
      obtain ⟨c0, c1, c2, c3, c4⟩ := hF.1.cells
      have da := ZA.out
      have db := ZB.out
      have dc := ZC.out
      have di := ZI.out
      clear ZA ZB ZC ZI
      rcases da with ua | ⟨ua, rfl⟩ <;> rcases db with ub | ⟨ub, rfl⟩ <;> rcases dc with uc | ⟨uc, rfl⟩ <;> rcases di with ui | ⟨ui, rfl⟩
      all_goals
        rw [ua] at l1
        rw [ub] at l2
        rw [uc] at l3
        rw [ui] at l4
        clear ua ub uc ui
        go_wp2_with (first | (go_at_call 16; refine (awake8_any _ hF.2.2.1).mono ?_; rintro e w3 ⟨rfl, hb3⟩))
        go_ret
        exact ⟨rfl, hF.2.2.2.trans (hb3.mono hF.2.2.2.size)⟩
end Go.Proofs.YtdacepaebmcfbaaDoor
