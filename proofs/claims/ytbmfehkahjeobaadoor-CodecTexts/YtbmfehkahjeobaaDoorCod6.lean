/-
  PROVED HERE: codec's number and pair (contracts over this translation): a pair's text as a function of lists of bytes.
-/
import Derived.Test.YtbmfehkahjeobaaDoorCod1
import Derived.Test.YtbmfehkahjeobaaDoorCod5
import Derived.Test.YtbmfehkahjeobaaDoorLvCon
import Derived.Laws.Strings
namespace Go.Proofs.YtbmfehkahjeobaaDoor
open Go.RowKit Go.Shelf
set_option linter.unusedVariables false

theorem gPow : Tryd.prog.globalNamed "internal/strconv.uint64pow10" = some 0 := by kernel_rfl
theorem gSyn : Tryd.prog.globalNamed "strconv.ErrSyntax" = some 4 := by kernel_rfl
theorem gRan : Tryd.prog.globalNamed "strconv.ErrRange" = some 5 := by kernel_rfl
theorem gMax : Tryd.prog.globalNamed "internal/bytealg.MaxLen" = some 1 := by kernel_rfl

/-- What the library's variables hold. -/
def Vars (w : World) : Prop :=
  PowTab w ∧ (∃ tp p, w.var? Tryd.prog "strconv.ErrSyntax" = some #[.iface tp p]) ∧ (∃ tp p, w.var? Tryd.prog "strconv.ErrRange" = some #[.iface tp p]) ∧ ∃ m, w.var? Tryd.prog "internal/bytealg.MaxLen" = some #[.int .i64 m]
theorem var_lt {w : World} {n : String} {g : Nat} {cs : Array Value} (hg : Tryd.prog.globalNamed n = some g) (h : w.var? Tryd.prog n = some cs) : g < w.heap.size := by
  unfold World.var? at h
  rw [hg] at h
  simp only [Option.bind_some] at h
  cases hh : w.heap[g]? with
  | none => rw [hh] at h; cases h
  | some o => exact (Array.getElem?_eq_some_iff.1 hh).1
theorem Vars.later {w w' : World} (h : Vars w) (hb : Below w.heap.size w w') : Vars w' := by
  obtain ⟨h1, ⟨t2, p2, h2⟩, ⟨t3, p3, h3⟩, m, h4⟩ := h
  exact ⟨var?_below hb gPow (var_lt gPow h1) h1, ⟨t2, p2, var?_below hb gSyn (var_lt gSyn h2) h2⟩, ⟨t3, p3, var?_below hb gRan (var_lt gRan h3) h3⟩, m, var?_below hb gMax (var_lt gMax h4) h4⟩
theorem Vars.maxLen {w : World} (h : Vars w) : ∃ m, w.cell? ⟨1, 0, none⟩ = some (.int .i64 m) := by
  obtain ⟨_, _, _, m, h4⟩ := h
  exact ⟨m, by simpa using World.var?_cell gMax h4 0⟩
theorem Vars.drew {w : World} (h : Vars w) (k : Nat) : Vars (w.drewN k) := h

theorem parse_ok (s : ByteArray) (hs : s.size ≤ 281474976710656) (u : Nat) (h : Lib.parseUintB 64 s.data.toList = .ok u) (w : World) :
    Calls Tryd.prog 46 #[.string s, .int .i64 10, .int .i64 64] w fun e w' => e = .returned (.tuple #[.int .u64 (u : Int), .nilIface]) ∧ Below w.heap.size w w' :=
  (Tryd.strconv_ParseUint_10_at64_ok s (by omega) u h w).mono fun e w' ⟨he, hw⟩ => ⟨he, by rcases hw with rfl | rfl; exact Below.refl _ _; exact Lib.bytesWorld_below _ _ _⟩
theorem parse_bad (s : ByteArray) (hs : s.size ≤ 281474976710656) (h : ∀ u, Lib.parseUintB 64 s.data.toList ≠ .ok u) (w : World) (hv : Vars w) :
    Calls Tryd.prog 46 #[.string s, .int .i64 10, .int .i64 64] w fun e w' => ∃ x N, e = .returned (.tuple #[.int .u64 x, .iface 98 (.pointer (some ⟨N, 0, none⟩))]) ∧ Below w.heap.size w w' := by
  obtain ⟨h1, ⟨t2, p2, h2⟩, ⟨t3, p3, h3⟩, m, h4⟩ := hv
  cases hp : Lib.parseUintB 64 s.data.toList with
  | ok u => exact absurd hp (h u)
  | «syntax» => exact (Tryd.strconv_ParseUint_10_at64_syntax_var s hs hp t2 p2 w h2).mono fun e w' ⟨N, he, _, _, hb⟩ => ⟨_, N, he, hb⟩
  | range => exact (Tryd.strconv_ParseUint_10_at64_range_var s hs hp t3 p3 w h3).mono fun e w' ⟨N, he, _, _, hb⟩ => ⟨_, N, he, hb⟩

/-- A number's text: none, if the text is no number's. -/
def numOf (s : ByteArray) : Option Nat :=
  match Lib.parseUintB 64 s.data.toList with
  | .ok u => if ((dec u).toList == s.toList) = true then some u else none
  | _ => none
theorem numOf_some {s : ByteArray} {u : Nat} (h : numOf s = some u) : Lib.parseUintB 64 s.data.toList = .ok u ∧ ((dec u).toList == s.toList) = true := by
  unfold numOf at h
  split at h
  · rename_i v hv
    split at h
    · rename_i he; cases h; exact ⟨hv, he⟩
    · cases h
  · cases h
theorem numOf_none {s : ByteArray} (h : numOf s = none) : (∀ u, Lib.parseUintB 64 s.data.toList ≠ .ok u) ∨ ∃ u, Lib.parseUintB 64 s.data.toList = .ok u ∧ ((dec u).toList == s.toList) = false := by
  unfold numOf at h
  split at h
  · rename_i v hv
    split at h
    · cases h
    · rename_i he; exact .inr ⟨v, hv, by simpa using he⟩
  · rename_i hv; exact .inl fun u e => hv u e
theorem num_lt {s : ByteArray} {u : Nat} (h : Lib.parseUintB 64 s.data.toList = .ok u) : u < 18446744073709551616 := by
  have := Lib.parseUintB_le h
  omega

set_option maxRecDepth 100000 in
set_option maxHeartbeats 2000000 in
theorem number_some (s : ByteArray) (hs : s.size ≤ 281474976710656) (u : Nat) (h : numOf s = some u) (w : World) (hv : Vars w) :
    Calls Tryd.prog 38 #[.string s] w fun e w' => e = .returned (.int .u64 (u : Int)) ∧ Below w.heap.size w w' := by
  obtain ⟨hp, hq⟩ := numOf_some h
  have hu : Hid (u < 18446744073709551616) := num_lt hp
  have HP : Hid (Lib.parseUintB 64 s.data.toList = .ok u) := hp
  have HV : Hid (Vars w) := hv
  clear hp h hv
  go_enter Tryd.func38, Tryd.ntmps38
  go_wp2_with (first | (go_at_call 46; refine (parse_ok s hs u HP.out _).mono ?_; rintro e w1 ⟨rfl, hb1⟩) | (go_at_call 16; refine (format_any u hu.out _ (HV.out.later hb1).1).mono ?_; rintro e w2 ⟨rfl, hb2⟩) | (go_at_call 24; refine (need_yes 11 _).mono ?_; rintro e w3 ⟨rfl, rfl⟩) | (go_at_call 24; refine (need_yes' hq 11 _).mono ?_; rintro e w3 ⟨rfl, rfl⟩))
  go_ret
  exact ⟨rfl, hb1.trans (hb2.mono hb1.size)⟩

set_option maxRecDepth 100000 in
set_option maxHeartbeats 2000000 in
theorem number_none (s : ByteArray) (hs : s.size ≤ 281474976710656) (h : numOf s = none) (w : World) (hv : Vars w) :
    Calls Tryd.prog 38 #[.string s] w fun e w' => e = .panicked (thrown 11) ∧ Below w.heap.size w w' := by
  rcases numOf_none h with hp | ⟨u, hp, hq⟩
  · have HP : Hid (∀ u, Lib.parseUintB 64 s.data.toList ≠ .ok u) := hp
    have HV : Hid (Vars w) := hv
    clear hp h hv
    go_enter Tryd.func38, Tryd.ntmps38
    go_wp2_with (first | (go_at_call 46; refine (parse_bad s hs HP.out _ HV.out).mono ?_; rintro e w1 ⟨x, N, rfl, hb1⟩) | (go_at_call 24; refine (need_no 11 _).mono ?_; rintro e w3 ⟨rfl, rfl⟩))
    exact ⟨rfl, rfl, hb1⟩
  · have hu : Hid (u < 18446744073709551616) := num_lt hp
    have HP : Hid (Lib.parseUintB 64 s.data.toList = .ok u) := hp
    have HV : Hid (Vars w) := hv
    clear hp h hv
    go_enter Tryd.func38, Tryd.ntmps38
    go_wp2_with (first | (go_at_call 46; refine (parse_ok s hs u HP.out _).mono ?_; rintro e w1 ⟨rfl, hb1⟩) | (go_at_call 16; refine (format_any u hu.out _ (HV.out.later hb1).1).mono ?_; rintro e w2 ⟨rfl, hb2⟩) | (go_at_call 24; refine (need_no 11 _).mono ?_; rintro e w3 ⟨rfl, rfl⟩) | (go_at_call 24; refine (need_no' hq 11 _).mono ?_; rintro e w3 ⟨rfl, rfl⟩))
    exact ⟨rfl, rfl, hb1.trans (hb2.mono hb1.size)⟩

/-- What stands ahead of the first such sign, and behind it; whether it stands there. -/
def cut1 (s sep : ByteArray) : ByteArray := ⟨(Lib.cut s.data.toList sep.data.toList).1.toArray⟩
def cut2 (s sep : ByteArray) : ByteArray := ⟨(Lib.cut s.data.toList sep.data.toList).2.1.toArray⟩
def cutF (s sep : ByteArray) : Bool := (Lib.cut s.data.toList sep.data.toList).2.2
theorem size_mk (l : List UInt8) : (ByteArray.mk l.toArray).size = l.length := by show l.toArray.size = _; rw [List.size_toArray]
theorem size_list (s : ByteArray) : s.data.toList.length = s.size := by show _ = s.data.size; rw [Array.length_toList]
theorem cut1_size (s sep : ByteArray) : (cut1 s sep).size ≤ s.size := by
  rw [cut1, size_mk, ← size_list s]
  unfold Lib.cut
  split
  · exact List.length_take_le' _ _
  · exact Nat.le_refl _
theorem cut2_size (s sep : ByteArray) : (cut2 s sep).size ≤ s.size := by
  rw [cut2, size_mk, ← size_list s]
  unfold Lib.cut
  split
  · rw [List.length_drop]; exact Nat.sub_le _ _
  · exact Nat.zero_le _
theorem pairCell (w w1 : World) (m : Nat) (hb : Below (w.heap.size + 1) ((w.alloc (.cells #[.int .u64 0, .int .i64 0] 35)).drewN m) w1) :
    w1.cell? ⟨w.heap.size, 0, none⟩ = some (.int .u64 0) ∧ w1.cell? ⟨w.heap.size, 1, none⟩ = some (.int .i64 0) ∧ w1.frozen? ⟨w.heap.size, 0, none⟩ = false ∧ w1.frozen? ⟨w.heap.size, 1, none⟩ = false :=
  ⟨(hb.cell (p := ⟨w.heap.size, 0, none⟩) (Nat.lt_succ_self _)).trans (by simp), (hb.cell (p := ⟨w.heap.size, 1, none⟩) (Nat.lt_succ_self _)).trans (by simp), (hb.frozen (p := ⟨w.heap.size, 0, none⟩) (Nat.lt_succ_self _)).trans (by simp), (hb.frozen (p := ⟨w.heap.size, 1, none⟩) (Nat.lt_succ_self _)).trans (by simp)⟩
theorem cut_any (s sep : ByteArray) (w : World) (hs : s.size < 4294967281) (hv : Vars w) :
    Calls Tryd.prog 36 #[.string s, .string sep] w fun e w' => e = .returned (.tuple #[.string (cut1 s sep), .string (cut2 s sep), .bool (cutF s sep)]) ∧ ∃ n, w' = w.drewN n := by
  obtain ⟨m, hm⟩ := hv.maxLen
  exact Tryd.strings_Cut s sep m w hs hm

def colonB : ByteArray := ⟨#[58]⟩
/-- A pair's text. -/
def pairOf (s : ByteArray) : Option (Nat × Int) :=
  if cutF s colonB = true ∧ Lv.rdE (cut2 s colonB) = 0 then (numOf (cut1 s colonB)).map fun u => (u, Lv.rdN (cut2 s colonB)) else none

set_option maxRecDepth 100000 in
set_option maxHeartbeats 2000000 in
theorem pair_some (s : ByteArray) (hs : s.size ≤ 65536) (u : Nat) (l : Int) (h : pairOf s = some (u, l)) (w : World) (hv : Vars w) :
    Calls Tryd.prog 23 #[.string s] w fun e w' => e = .returned (.agg #[.int .u64 (u : Int), .int .i64 l]) ∧ Below w.heap.size w w' := by
  have hc1 := cut1_size s colonB
  have HV : Hid (Vars w) := hv
  unfold pairOf at h
  split at h
  · rename_i hh
    obtain ⟨hf, he⟩ := hh
    cases hn : numOf (cut1 s colonB) with
    | none => rw [hn] at h; cases h
    | some u' =>
      rw [hn] at h
      simp only [Option.map_some, Option.some.injEq, Prod.mk.injEq] at h
      obtain ⟨rfl, rfl⟩ := h
      have HN : Hid (numOf (cut1 s colonB) = some u') := hn
      clear hn hv
      have hC := cut_any s colonB
      rw [hf] at hC
      have hb0 : Below w.heap.size w (w.alloc (.cells #[.int .u64 0, .int .i64 0] 35)) := (Below.refl _ w).alloc (Nat.le_refl _) _
      go_enter Tryd.func23, Tryd.ntmps23
      go_wp2_with (first | (go_at_call 36; refine (hC _ (by omega) (HV.out.later hb0)).mono ?_; rintro e w1 ⟨rfl, m1, rfl⟩) | (go_at_call 37; refine (read_any _ _).mono ?_; rintro e w2 ⟨rfl, rfl⟩) | (go_at_call 24; refine (need_yes 11 _).mono ?_; rintro e w3 ⟨rfl, rfl⟩) | (go_at_call 38; refine (number_some _ (by omega) u' HN.out _ ((HV.out.later hb0).drew m1)).mono ?_; rintro e w4 ⟨rfl, hb4⟩; replace hb4 : Below (w.heap.size + 1) ((w.alloc (.cells #[.int .u64 0, .int .i64 0] 35)).drewN m1) w4 := (by simpa using hb4); obtain ⟨q0, q1, z0, z1⟩ := pairCell w w4 m1 hb4))
      have e1 : ((w4.setCell ⟨w.heap.size, 0, none⟩ (.int .u64 (u' : Int))).setCell ⟨w.heap.size, 1, none⟩ (.int .i64 (Lv.rdN (cut2 s colonB)))).cell? ⟨w.heap.size, 1, none⟩ = some (.int .i64 (Lv.rdN (cut2 s colonB))) :=
        World.cell?_setCell_same' _ _ _ (by rw [World.cell?_setCell_other _ _ _ _ (by simp), q1]; rfl)
      have e0 : ((w4.setCell ⟨w.heap.size, 0, none⟩ (.int .u64 (u' : Int))).setCell ⟨w.heap.size, 1, none⟩ (.int .i64 (Lv.rdN (cut2 s colonB)))).cell? ⟨w.heap.size, 0, none⟩ = some (.int .u64 (u' : Int)) := by
        rw [World.cell?_setCell_other _ _ _ _ (by simp)]
        exact World.cell?_setCell_same' _ _ _ (by rw [q0]; rfl)
      refine bodyPost_ret (by simp [results, Tryd.results23, go_sem, e0, e1]; rfl) rfl ?_
      exact ⟨rfl, ((hb0.trans (below_drewN (Below.refl _ _) m1) |>.trans (hb4.mono (Nat.le_succ _))).setCell (Nat.le_refl _) _).setCell (Nat.le_refl _) _⟩
  · cases h

set_option maxRecDepth 100000 in
set_option maxHeartbeats 2000000 in
theorem pair_none (s : ByteArray) (hs : s.size ≤ 65536) (h : pairOf s = none) (w : World) (hv : Vars w) :
    Calls Tryd.prog 23 #[.string s] w fun e w' => e = .panicked (thrown 11) ∧ Below w.heap.size w w' := by
  have hc1 := cut1_size s colonB
  have HV : Hid (Vars w) := hv
  have hC := cut_any s colonB
  have hb0 : Below w.heap.size w (w.alloc (.cells #[.int .u64 0, .int .i64 0] 35)) := (Below.refl _ w).alloc (Nat.le_refl _) _
  have hb1 : ∀ m, Below w.heap.size w ((w.alloc (.cells #[.int .u64 0, .int .i64 0] 35)).drewN m) := fun m => hb0.trans (below_drewN (Below.refl _ _) m)
  unfold pairOf at h
  cases hf : cutF s colonB with
  | false =>
    rw [hf] at hC
    clear h hv
    go_enter Tryd.func23, Tryd.ntmps23
    go_wp2_with (first | (go_at_call 36; refine (hC _ (by omega) (HV.out.later hb0)).mono ?_; rintro e w1 ⟨rfl, m1, rfl⟩) | (go_at_call 37; refine (read_any _ _).mono ?_; rintro e w2 ⟨rfl, rfl⟩) | (go_at_call 24; refine (need_no 11 _).mono ?_; rintro e w3 ⟨rfl, rfl⟩))
    exact ⟨rfl, rfl, hb1 m1⟩
  | true =>
    rw [hf] at hC
    by_cases he : Lv.rdE (cut2 s colonB) = 0
    · rw [if_pos ⟨hf, he⟩] at h
      have HN : Hid (numOf (cut1 s colonB) = none) := by
        cases hn : numOf (cut1 s colonB) with
        | none => rfl
        | some u => rw [hn] at h; cases h
      clear h hv
      go_enter Tryd.func23, Tryd.ntmps23
      go_wp2_with (first | (go_at_call 36; refine (hC _ (by omega) (HV.out.later hb0)).mono ?_; rintro e w1 ⟨rfl, m1, rfl⟩) | (go_at_call 37; refine (read_any _ _).mono ?_; rintro e w2 ⟨rfl, rfl⟩) | (go_at_call 24; refine (need_yes 11 _).mono ?_; rintro e w3 ⟨rfl, rfl⟩) | (go_at_call 38; refine (number_none _ (by omega) HN.out _ ((HV.out.later hb0).drew m1)).mono ?_; rintro e w4 ⟨rfl, hb4⟩))
      exact ⟨rfl, rfl, (hb1 m1).trans (hb4.mono (hb1 m1).size)⟩
    · have hq : (Lv.rdE (cut2 s colonB) == 0) = false := by simpa using he
      clear h hv
      go_enter Tryd.func23, Tryd.ntmps23
      go_wp2_with (first | (go_at_call 36; refine (hC _ (by omega) (HV.out.later hb0)).mono ?_; rintro e w1 ⟨rfl, m1, rfl⟩) | (go_at_call 37; refine (read_any _ _).mono ?_; rintro e w2 ⟨rfl, rfl⟩) | (go_at_call 24; refine (need_no 11 _).mono ?_; rintro e w3 ⟨rfl, rfl⟩))
      exact ⟨rfl, rfl, hb1 m1⟩
end Go.Proofs.YtbmfehkahjeobaaDoor
