/-
  PROVED HERE: what pair of the document's layer 4 returns when it is called: the pair whose text it is, or that it is none (a contract over this translation). Texts of at most 65536 bytes.
-/
import Derived.Test.YtbmfehkahjeobaaDoorCod32
namespace Go.Proofs.YtbmfehkahjeobaaDoor
open Go.RowKit Go.Shelf
set_option linter.unusedVariables false

theorem Two.frozenP {W : World} {B : Nat} {t : TypeId} {u v : Value} (h : Two W B t u v) (i : Nat) : W.frozen? ⟨B, i, none⟩ = false := by simp [World.frozen?, show W.heap[B]? = _ from h]
theorem Two.setP0 {W : World} {B : Nat} {t : TypeId} {u v : Value} (h : Two W B t u v) (x : Value) : Two (W.setCell ⟨B, 0, none⟩ x) B t x v := (heap_setCell_same W B 0 _ t x h).trans (by simp)
theorem Two.setP1 {W : World} {B : Nat} {t : TypeId} {u v : Value} (h : Two W B t u v) (x : Value) : Two (W.setCell ⟨B, 1, none⟩ x) B t u x := (heap_setCell_same W B 1 _ t x h).trans (by simp)
theorem take_snoc58 {s : ByteArray} {k : Nat} (hk : k < s.size) (h : 58 ∉ s.data.toList.take k) (hc : ((s[k].toNat : Int) == 58) = false) : 58 ∉ s.data.toList.take (k + 1) := by
  rw [List.take_succ_eq_append_getElem (by rw [size_list]; exact hk), at_list hk]
  intro hm
  rcases List.mem_append.1 hm with hm | hm
  · exact h hm
  · rw [List.mem_singleton] at hm
    rw [← hm] at hc
    simp at hc
theorem ext_list (s : ByteArray) (a b : Nat) : (s.extract a b).data.toList = (s.data.toList.drop a).take (b - a) := by
  rw [ByteArray.data_extract, Array.toList_extract, List.extract_eq_take_drop]
theorem ext_part {s : ByteArray} {k : Nat} (hk : k < s.size) : s.data.toList = (s.extract 0 k).data.toList ++ s[k] :: (s.extract (k + 1) s.size).data.toList := by
  have hk' : k < s.data.toList.length := by rw [size_list]; exact hk
  rw [ext_list, ext_list, List.drop_zero, Nat.sub_zero, List.take_of_length_le (l := s.data.toList.drop (k + 1)) (by rw [List.length_drop, size_list]; omega), ← at_list hk, ← List.drop_eq_getElem_cons hk', List.take_append_drop]
theorem pair_parts {s : ByteArray} {k : Nat} (hk : k < s.size) (h : 58 ∉ s.data.toList.take k) (hc : ((s[k].toNat : Int) == 58) = true) :
    pairOf s = if Lv.rdE (s.extract (k + 1) s.size) = 0 then (numOf (s.extract 0 k)).map fun u => (u, Lv.rdN (s.extract (k + 1) s.size)) else none := by
  have hs58 : s[k] = 58 := by
    rw [beq_iff_eq] at hc
    exact UInt8.toNat_inj.1 (by show s[k].toNat = 58; omega)
  have e : s.data.toList = (s.extract 0 k).data.toList ++ 58 :: (s.extract (k + 1) s.size).data.toList := by
    rw [← hs58]; exact ext_part hk
  have h' : 58 ∉ (s.extract 0 k).data.toList := by rw [ext_list]; simpa using h
  obtain ⟨c1, c2, c3⟩ := cuts_hit (sep := colonB) rfl e h'
  unfold pairOf
  rw [c1, c2, c3]
  simp
theorem pair_miss {s : ByteArray} (h : 58 ∉ s.data.toList.take s.size) : pairOf s = none := by
  rw [← size_list, List.take_length] at h
  obtain ⟨_, c3⟩ := cuts_miss (sep := colonB) rfl h
  unfold pairOf
  rw [c3]
  simp

set_option maxRecDepth 100000 in
set_option maxHeartbeats 2000000 in
theorem rpair_any (s : ByteArray) (hs : s.size ≤ 65536) (w : World) :
    Calls Tryd.prog 13 #[.string s] w fun e w' => ∃ (c : Nat) (l : Int), e = .returned (.tuple #[.agg #[.int .u64 (c : Int), .int .i64 l], .bool (pairOf s).isSome]) ∧ (∀ p, pairOf s = some p → p = (c, l)) ∧ Below w.heap.size w w' := by
  have b0 := Two.new w 35 (.int .u64 0) (.int .i64 0)
  have hB0 : Below w.heap.size w (w.alloc (.cells #[.int .u64 0, .int .i64 0] 35)) := (Below.refl _ w).alloc (Nat.le_refl _) _
  go_enter Tryd.func13, Tryd.ntmps13
  go_wp2
  obtain ⟨W0, hW0⟩ : ∃ W0, Hid (w.alloc (.cells #[.int .u64 0, .int .i64 0] 35) = W0) := ⟨_, rfl⟩
  rw [hW0.out] at b0 hB0 ⊢
  clear hW0
  have z0 := b0.frozenP 0
  have z1 := b0.frozenP 1
  have c0 := b0.cell0
  have c1 := b0.cell1
  go_loopw [4] (fun vi wr => ∃ (k : Nat), k ≤ s.size ∧ vi = .int .i64 k ∧ Hid (58 ∉ s.data.toList.take k) ∧ W0 = wr) (fun vi _ => s.size - (intOf vi).toNat)
  case atStart => exact ⟨0, Nat.zero_le _, rfl, by show _ ∉ _; simp, rfl⟩
  case round =>
    obtain ⟨k, hks, rfl, hno, rfl⟩ := hrel
    by_cases hk1 : k < s.size
    · have hk1' : (k : Int) < (s.size : Int) := by omega
      cases hc : ((s[k].toNat : Int) == 58) with
      | false =>
        have hno' := take_snoc58 hk1 hno.out hc
        go_wp2
        go_roundw
        case rel => exact ⟨k + 1, by omega, by go_num, hno', by first | rfl | trivial⟩
        case measure => simp [intOf]; omega
      | true =>
        have hpp := pair_parts hk1 hno.out hc
        have hsz : (s.extract 0 k).size ≤ 65536 := by rw [ByteArray.size_extract]; omega
        cases hnq : numOf (s.extract 0 k) with
        | none =>
          have hP : Hid (pairOf s = none) := by show pairOf s = none; rw [hpp, hnq]; simp
          have hn : (numOf (s.extract 0 k)).isSome = false := by rw [hnq]; rfl
          clear hpp hnq
          clear z0 z1 c0 c1
          go_wp2_with (first | (go_at_call 25; refine (rnumber_any _ hsz _).mono ?_; rintro e w1 ⟨c, rfl, hcn', hb1⟩; have hcn : Hid (∀ u, numOf (s.extract 0 k) = some u → c = u) := hcn'; clear hcn'; rw [hn]; have T1 : Two w1 w.heap.size 35 (.int .u64 0) (.int .i64 0) := (hb1.block _ b0.lt).trans b0; have y0 := T1.cell0; have y1 := T1.cell1; have y2 := T1.frozenP 0; have y3 := T1.frozenP 1) | (go_at_call 26; refine (rread_any _ _).mono ?_; rintro e w2 ⟨rfl, rfl⟩))
          have T2 := (T1.setP0 (.int .u64 (c : Int))).setP1 (.int .i64 (Lv.rdN (s.extract (k + 1) s.size)))
          have p0 := T2.cell0
          have p1 := T2.cell1
          refine bodyPost_ret (v := .tuple #[.agg #[.int .u64 (c : Int), .int .i64 (Lv.rdN (s.extract (k + 1) s.size))], .bool false]) (by simp [results, Tryd.f13, go_sem, p0, p1]) rfl ?_
          exact ⟨c, _, by rw [hP.out]; rfl, (fun p e => by rw [hP.out] at e; cases e), ((hB0.trans (hb1.mono hB0.size)).setCell (p := ⟨w.heap.size, 0, none⟩) (Nat.le_refl _) _).setCell (p := ⟨w.heap.size, 1, none⟩) (Nat.le_refl _) _⟩
        | some u =>
          have hn : (numOf (s.extract 0 k)).isSome = true := by rw [hnq]; rfl
          have HN : Hid (numOf (s.extract 0 k) = some u) := hnq
          by_cases hr : Lv.rdE (s.extract (k + 1) s.size) = 0
          · have hP : Hid (pairOf s = some (u, Lv.rdN (s.extract (k + 1) s.size))) := by show pairOf s = _; rw [hpp, hnq, if_pos hr]; rfl
            have hr' : (Lv.rdE (s.extract (k + 1) s.size) == 0) = true := by rw [beq_iff_eq]; exact hr
            clear hpp hnq hr
            clear z0 z1 c0 c1
            go_wp2_with (first | (go_at_call 25; refine (rnumber_any _ hsz _).mono ?_; rintro e w1 ⟨c, rfl, hcn', hb1⟩; have hcn : Hid (∀ u, numOf (s.extract 0 k) = some u → c = u) := hcn'; clear hcn'; rw [hn]; have T1 : Two w1 w.heap.size 35 (.int .u64 0) (.int .i64 0) := (hb1.block _ b0.lt).trans b0; have y0 := T1.cell0; have y1 := T1.cell1; have y2 := T1.frozenP 0; have y3 := T1.frozenP 1) | (go_at_call 26; refine (rread_any _ _).mono ?_; rintro e w2 ⟨rfl, rfl⟩))
            have T2 := (T1.setP0 (.int .u64 (c : Int))).setP1 (.int .i64 (Lv.rdN (s.extract (k + 1) s.size)))
            have p0 := T2.cell0
            have p1 := T2.cell1
            refine bodyPost_ret (v := .tuple #[.agg #[.int .u64 (c : Int), .int .i64 (Lv.rdN (s.extract (k + 1) s.size))], .bool true]) (by simp [results, Tryd.f13, go_sem, p0, p1]) rfl ?_
            exact ⟨c, _, by rw [hP.out]; rfl, (fun p e => by rw [hP.out] at e; rw [← Option.some.inj e, hcn.out u HN.out]), ((hB0.trans (hb1.mono hB0.size)).setCell (p := ⟨w.heap.size, 0, none⟩) (Nat.le_refl _) _).setCell (p := ⟨w.heap.size, 1, none⟩) (Nat.le_refl _) _⟩
          · have hP : Hid (pairOf s = none) := by show pairOf s = none; rw [hpp, if_neg hr]
            have hr' : (Lv.rdE (s.extract (k + 1) s.size) == 0) = false := by rw [beq_eq_false_iff_ne]; exact hr
            clear hpp hnq hr
            clear z0 z1 c0 c1
            go_wp2_with (first | (go_at_call 25; refine (rnumber_any _ hsz _).mono ?_; rintro e w1 ⟨c, rfl, hcn', hb1⟩; have hcn : Hid (∀ u, numOf (s.extract 0 k) = some u → c = u) := hcn'; clear hcn'; rw [hn]; have T1 : Two w1 w.heap.size 35 (.int .u64 0) (.int .i64 0) := (hb1.block _ b0.lt).trans b0; have y0 := T1.cell0; have y1 := T1.cell1; have y2 := T1.frozenP 0; have y3 := T1.frozenP 1) | (go_at_call 26; refine (rread_any _ _).mono ?_; rintro e w2 ⟨rfl, rfl⟩))
            have T2 := (T1.setP0 (.int .u64 (c : Int))).setP1 (.int .i64 (Lv.rdN (s.extract (k + 1) s.size)))
            have p0 := T2.cell0
            have p1 := T2.cell1
            refine bodyPost_ret (v := .tuple #[.agg #[.int .u64 (c : Int), .int .i64 (Lv.rdN (s.extract (k + 1) s.size))], .bool false]) (by simp [results, Tryd.f13, go_sem, p0, p1]) rfl ?_
            exact ⟨c, _, by rw [hP.out]; rfl, (fun p e => by rw [hP.out] at e; cases e), ((hB0.trans (hb1.mono hB0.size)).setCell (p := ⟨w.heap.size, 0, none⟩) (Nat.le_refl _) _).setCell (p := ⟨w.heap.size, 1, none⟩) (Nat.le_refl _) _⟩
    · have hk1' : ¬ (k : Int) < (s.size : Int) := by omega
      obtain rfl : k = s.size := by omega
      have hP : Hid (pairOf s = none) := pair_miss hno.out
      have T2 := (b0.setP0 (.int .u64 0)).setP1 (.int .i64 0)
      have p0 := T2.cell0
      have p1 := T2.cell1
      go_wp2
      refine bodyPost_ret (v := .tuple #[.agg #[.int .u64 0, .int .i64 0], .bool false]) (by simp [results, Tryd.f13, go_sem, p0, p1]) rfl ?_
      exact ⟨0, 0, by rw [hP.out]; rfl, (by first | (intro p e; rw [hP.out] at e; cases e) | (intro p q e; rw [hP.out] at e; cases e)), (hB0.setCell (p := ⟨w.heap.size, 0, none⟩) (Nat.le_refl _) _).setCell (p := ⟨w.heap.size, 1, none⟩) (Nat.le_refl _) _⟩
end Go.Proofs.YtbmfehkahjeobaaDoor
