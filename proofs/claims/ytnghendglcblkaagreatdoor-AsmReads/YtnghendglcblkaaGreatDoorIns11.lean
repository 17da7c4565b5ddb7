/-
  PROVED HERE: what the document's name and Digits of layer 8 return when they are called (contracts over this translation). No condition.
-/
import Derived.Test.YtnghendglcblkaaGreatDoorIns10
namespace Go.Proofs.YtnghendglcblkaaGreatDoor
open Go.RowKit Go.Shelf
set_option linter.unusedVariables false

theorem names_at (k : Nat) (h : k < 26) : namesA[k]? = some (.string (nmS (k : Int))) := by
  obtain rfl | rfl | rfl | rfl | rfl | rfl | rfl | rfl | rfl | rfl | rfl | rfl | rfl | rfl | rfl | rfl | rfl | rfl | rfl | rfl | rfl | rfl | rfl | rfl | rfl | rfl : k = 0 ∨ k = 1 ∨ k = 2 ∨ k = 3 ∨ k = 4 ∨ k = 5 ∨ k = 6 ∨ k = 7 ∨ k = 8 ∨ k = 9 ∨ k = 10 ∨ k = 11 ∨ k = 12 ∨ k = 13 ∨ k = 14 ∨ k = 15 ∨ k = 16 ∨ k = 17 ∨ k = 18 ∨ k = 19 ∨ k = 20 ∨ k = 21 ∨ k = 22 ∨ k = 23 ∨ k = 24 ∨ k = 25 := by omega
  all_goals rfl
theorem names_index (k : Nat) (h : k < 26) (W : World) : (Instr.index 95 (.agg namesA) (.int .i64 (k : Int))).run Tryz.prog W = .ok (.string (nmS (k : Int))) W := by
  obtain rfl | rfl | rfl | rfl | rfl | rfl | rfl | rfl | rfl | rfl | rfl | rfl | rfl | rfl | rfl | rfl | rfl | rfl | rfl | rfl | rfl | rfl | rfl | rfl | rfl | rfl : k = 0 ∨ k = 1 ∨ k = 2 ∨ k = 3 ∨ k = 4 ∨ k = 5 ∨ k = 6 ∨ k = 7 ∨ k = 8 ∨ k = 9 ∨ k = 10 ∨ k = 11 ∨ k = 12 ∨ k = 13 ∨ k = 14 ∨ k = 15 ∨ k = 16 ∨ k = 17 ∨ k = 18 ∨ k = 19 ∨ k = 20 ∨ k = 21 ∨ k = 22 ∨ k = 23 ∨ k = 24 ∨ k = 25 := by omega
  all_goals kernel_rfl
set_option maxRecDepth 100000 in
set_option maxHeartbeats 1000000 in
theorem rname_any (k : Nat) (h : k < 26) (w : World) :
    Calls Tryz.prog 63 #[.int .i64 (k : Int)] w fun e w' => e = .returned (.string (nmS (k : Int))) ∧ Below w.heap.size w w' := by
  have hk : (k : Int) < 26 := by omega
  have hc : (w.alloc (.cells namesA 9)).cell? ⟨w.heap.size, k, none⟩ = some (.string (nmS (k : Int))) := by
    rw [World.cell?]
    show (match (w.alloc (.cells namesA 9)).heap[w.heap.size]? with | some (.cells cs _ _) => cs[k]? | _ => none) = _
    rw [heap_alloc_last]
    exact names_at k h
  have hB : Below w.heap.size w (w.alloc (.cells namesA 9)) := (Below.refl _ w).alloc (Nat.le_refl _) _
  go_enter Tryz.func63, Tryz.ntmps63
  go_upto_region 1 with (fail)
  refine wp_region ?_
  refine wpOps_value (v := .slice (some ⟨w.heap.size, 0, none⟩) 26 26) (w' := w.alloc (.cells namesA 9)) rfl rfl (by kernel_rfl) ?_
  refine wpOps_value (v := .slice (some ⟨w.heap.size, 0, none⟩) 26 26) (w' := w.alloc (.cells namesA 9)) rfl rfl (by rfl) ?_
  rename_i K hK
  refine hK _ _ ?_
  obtain ⟨W, hW⟩ : ∃ W, w.alloc (.cells namesA 9) = W := ⟨_, rfl⟩
  rw [hW] at hc hB ⊢
  clear hW hK K
  simp only [Act.put]
  go_wp2
  go_ret
  exact ⟨rfl, hB⟩
theorem conv1 {x : Int} (c : UInt8) (hx : x = (c.toNat : Int)) (w : World) : (convert 58 9 (.slice (some ⟨w.heap.size, 0, none⟩) 1 1)).run Tryz.prog (w.alloc (.cells #[.int .u8 x] 5)) = .ok (.string ⟨#[c]⟩) (w.alloc (.cells #[.int .u8 x] 5)) :=
  run_convert_bytes_back (P := Tryz.prog) (w.alloc (.cells #[.int .u8 x] 5)) 58 9 5 ⟨w.heap.size, 0, none⟩ 1 [c] Tryz.underlying58 Tryz.underlying5 Tryz.underlying9 (fun j hj => by
    have h0 : j = 0 := by simp at hj; exact hj
    subst h0
    have ha : (⟨w.heap.size, 0, none⟩ : Addr).add 0 = ⟨w.heap.size, 0, none⟩ := by simp [Addr.add]
    rw [ha, hx]
    exact (Boxed.new w 5 (.int .u8 (c.toNat : Int))).cell)
theorem dig_toNat {k : Nat} (h : k < 10) : (UInt8.ofNat (48 + k)).toNat = 48 + k := by rw [UInt8.toNat_ofNat']; omega
theorem dec_rest {u : Nat} {l : List UInt8} {s : ByteArray} (hu : u < 18446744073709551616) (h : Lib.decDigits u = l ++ s.data.toList) : s.size ≤ 20 := by
  have h1 : (Lib.decDigits u).length ≤ 20 := by rw [Lib.decDigits_length]; exact Lib.nDigits_le20 _ hu
  rw [h, List.length_append, size_list] at h1
  omega
set_option maxRecDepth 100000 in
set_option maxHeartbeats 1000000 in
theorem rdigits_pos (u : Nat) (hu1 : (u : Int) ≤ 9223372036854775807) (w : World) :
    Calls Tryz.prog 65 #[.int .i64 (u : Int)] w fun e w' => e = .returned (.string (itS (u : Int))) ∧ Below w.heap.size w w' := by
  have hu : u < 18446744073709551616 := by omega
  have hn : ¬ (u : Int) < 0 := by omega
  have hit : Hid ((itS (u : Int)).data.toList = Lib.decDigits u) := by show (Lib.itoa (u : Int)) = _; exact Lib.itoa_nonneg u
  go_enter Tryz.func65, Tryz.ntmps65
  go_wp2
  go_loopw [4, 5] (fun vn vs wr => ∃ (x : Nat) (s : ByteArray), vn = .int .u64 x ∧ vs = .string s ∧ x ≤ u ∧ Lib.decDigits u = Lib.decDigits x ++ s.data.toList ∧ Below w.heap.size w wr) (fun vn _ _ => (intOf vn).toNat)
  case atStart => exact ⟨u, ⟨#[]⟩, rfl, rfl, Nat.le_refl _, by simp, Below.refl _ _⟩
  case round =>
    obtain ⟨x, s, rfl, rfl, hvu, hd, hB⟩ := hrel
    by_cases hx : 10 ≤ x
    · have hx' : (10 : Int) ≤ (x : Int) := by omega
      have HD : Hid (Lib.decDigits u = Lib.decDigits x ++ s.data.toList) := hd
      have hs : s.size ≤ 20 := dec_rest hu hd
      clear hd
      have hc := conv1 (x := 48 + (x : Int) % 10) (UInt8.ofNat (48 + x % 10)) (by rw [dig_toNat (by omega)]; omega) wr
      obtain ⟨c, hcc⟩ : ∃ c, Hid (UInt8.ofNat (48 + x % 10) = c) := ⟨_, rfl⟩
      rw [hcc.out] at hc
      go_wp2
      go_roundw
      case rel =>
        refine ⟨x / 10, ⟨#[c]⟩ ++ s, by go_num, rfl, by omega, ?_, hB.alloc hB.size _⟩
        rw [HD.out, app_list, Lib.decDigits, dif_neg (by omega), ← hcc.out]
        simp
      case measure => simp [intOf]; omega
    · have hx' : ¬ (10 : Int) ≤ (x : Int) := by omega
      have HD : Hid (Lib.decDigits u = Lib.decDigits x ++ s.data.toList) := hd
      have hs : s.size ≤ 20 := dec_rest hu hd
      clear hd
      have hc := conv1 (x := 48 + (x : Int)) (UInt8.ofNat (48 + x)) (by rw [dig_toNat (by omega)]; omega) wr
      obtain ⟨c, hcc⟩ : ∃ c, Hid (UInt8.ofNat (48 + x) = c) := ⟨_, rfl⟩
      rw [hcc.out] at hc
      go_wp2
      go_ret
      refine ⟨?_, hB.alloc hB.size _⟩
      have e1 : itS (u : Int) = ⟨#[]⟩ ++ ⟨#[c]⟩ ++ s := ba_ext (by rw [app_list, app_list]; show _ = _; rw [hit.out, HD.out, Lib.decDigits_one (by omega), ← hcc.out]; rfl)
      rw [e1]; rfl
set_option maxRecDepth 100000 in
set_option maxHeartbeats 1000000 in
theorem rdigits_neg (u : Nat) (hu0 : 1 ≤ u) (hu1 : (u : Int) ≤ 9223372036854775808) (w : World) :
    Calls Tryz.prog 65 #[.int .i64 (-(u : Int))] w fun e w' => e = .returned (.string (itS (-(u : Int)))) ∧ Below w.heap.size w w' := by
  have hu : u < 18446744073709551616 := by omega
  have hn : -(u : Int) < 0 := by omega
  have hw : IntKind.u64.wrap (-(u : Int)) = 18446744073709551616 - (u : Int) := by rw [IntKind.wrap_u64]; omega
  have hw2 : IntKind.u64.wrap (-(18446744073709551616 - (u : Int))) = (u : Int) := by rw [IntKind.wrap_u64]; omega
  have hit : Hid ((itS (-(u : Int))).data.toList = 45 :: Lib.decDigits u) := by show (Lib.itoa (-(u : Int))) = _; exact Lib.itoa_neg u hu0
  go_enter Tryz.func65, Tryz.ntmps65
  go_wp2
  go_loopw [4, 5] (fun vn vs wr => ∃ (x : Nat) (s : ByteArray), vn = .int .u64 x ∧ vs = .string s ∧ x ≤ u ∧ Lib.decDigits u = Lib.decDigits x ++ s.data.toList ∧ Below w.heap.size w wr) (fun vn _ _ => (intOf vn).toNat)
  case atStart => exact ⟨u, ⟨#[]⟩, rfl, rfl, Nat.le_refl _, by simp, Below.refl _ _⟩
  case round =>
    obtain ⟨x, s, rfl, rfl, hvu, hd, hB⟩ := hrel
    by_cases hx : 10 ≤ x
    · have hx' : (10 : Int) ≤ (x : Int) := by omega
      have HD : Hid (Lib.decDigits u = Lib.decDigits x ++ s.data.toList) := hd
      have hs : s.size ≤ 20 := dec_rest hu hd
      clear hd
      have hc := conv1 (x := 48 + (x : Int) % 10) (UInt8.ofNat (48 + x % 10)) (by rw [dig_toNat (by omega)]; omega) wr
      obtain ⟨c, hcc⟩ : ∃ c, Hid (UInt8.ofNat (48 + x % 10) = c) := ⟨_, rfl⟩
      rw [hcc.out] at hc
      go_wp2
      go_roundw
      case rel =>
        refine ⟨x / 10, ⟨#[c]⟩ ++ s, by go_num, rfl, by omega, ?_, hB.alloc hB.size _⟩
        rw [HD.out, app_list, Lib.decDigits, dif_neg (by omega), ← hcc.out]
        simp
      case measure => simp [intOf]; omega
    · have hx' : ¬ (10 : Int) ≤ (x : Int) := by omega
      have HD : Hid (Lib.decDigits u = Lib.decDigits x ++ s.data.toList) := hd
      have hs : s.size ≤ 20 := dec_rest hu hd
      clear hd
      have hc := conv1 (x := 48 + (x : Int)) (UInt8.ofNat (48 + x)) (by rw [dig_toNat (by omega)]; omega) wr
      obtain ⟨c, hcc⟩ : ∃ c, Hid (UInt8.ofNat (48 + x) = c) := ⟨_, rfl⟩
      rw [hcc.out] at hc
      go_wp2
      go_ret
      refine ⟨?_, hB.alloc hB.size _⟩
      have e1 : itS (-(u : Int)) = ⟨#[45]⟩ ++ ⟨#[c]⟩ ++ s := ba_ext (by rw [app_list, app_list]; show _ = _; rw [hit.out, HD.out, Lib.decDigits_one (by omega), ← hcc.out]; rfl)
      rw [e1]; rfl
theorem rdigits_any (v : Int) (h0 : -9223372036854775808 ≤ v) (h1 : v ≤ 9223372036854775807) (w : World) :
    Calls Tryz.prog 65 #[.int .i64 v] w fun e w' => e = .returned (.string (itS v)) ∧ Below w.heap.size w w' := by
  by_cases h : 0 ≤ v
  · obtain ⟨u, rfl⟩ := Int.eq_ofNat_of_zero_le h
    exact rdigits_pos u h1 w
  · obtain ⟨u, hu⟩ : ∃ u : Nat, v = -(u : Int) := ⟨v.natAbs, by omega⟩
    subst hu
    exact rdigits_neg u (by omega) (by omega) w
end Go.Proofs.YtnghendglcblkaaGreatDoor
