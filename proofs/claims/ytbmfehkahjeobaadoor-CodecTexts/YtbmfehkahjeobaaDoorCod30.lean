/-
  PROVED HERE: what Digits of the document's layer 4 returns when it is called: a number's decimal numeral (a contract over this translation). No condition.
-/
import Derived.Test.YtbmfehkahjeobaaDoorCod21
namespace Go.Proofs.YtbmfehkahjeobaaDoor
open Go.RowKit Go.Shelf
set_option linter.unusedVariables false

theorem conv1 {x : Int} (c : UInt8) (hx : x = (c.toNat : Int)) (w : World) : (convert 60 9 (.slice (some ⟨w.heap.size, 0, none⟩) 1 1)).run Tryd.prog (w.alloc (.cells #[.int .u8 x] 5)) = .ok (.string ⟨#[c]⟩) (w.alloc (.cells #[.int .u8 x] 5)) :=
  run_convert_bytes_back (P := Tryd.prog) (w.alloc (.cells #[.int .u8 x] 5)) 60 9 5 ⟨w.heap.size, 0, none⟩ 1 [c] Tryd.underlying60 Tryd.underlying5 Tryd.underlying9 (fun j hj => by
    have h0 : j = 0 := by simp at hj; exact hj
    subst h0
    have ha : (⟨w.heap.size, 0, none⟩ : Addr).add 0 = ⟨w.heap.size, 0, none⟩ := by simp [Addr.add]
    rw [ha, hx]
    exact (Boxed.new w 5 (.int .u8 (c.toNat : Int))).cell)
theorem dig_toNat {k : Nat} (h : k < 10) : (UInt8.ofNat (48 + k)).toNat = 48 + k := by rw [UInt8.toNat_ofNat']; omega
theorem dec_rest {u : Nat} {l : List UInt8} {s : ByteArray} (hu : u < 18446744073709551616) (h : Lib.decDigits u = l ++ s.data.toList) : s.size ≤ 20 := by
  have h1 : (Lib.decDigits u).length ≤ 20 := by rw [Lib.decDigits_length]; exact Lib.nDigits_le20 _ hu
  rw [h, List.length_append, size_list] at h1
  omega
set_option maxRecDepth 100000 in
set_option maxHeartbeats 1000000 in
theorem digits_any (u : Nat) (hu : u < 18446744073709551616) (w : World) :
    Calls Tryd.prog 19 #[.int .u64 (u : Int)] w fun e w' => e = .returned (.string (dec u)) ∧ Below w.heap.size w w' := by
  go_enter Tryd.func19, Tryd.ntmps19
  go_wp2
  go_loopw [0, 3] (fun vn vs wr => ∃ (v : Nat) (s : ByteArray), vn = .int .u64 v ∧ vs = .string s ∧ v ≤ u ∧ Lib.decDigits u = Lib.decDigits v ++ s.data.toList ∧ Below w.heap.size w wr) (fun vn _ _ => (intOf vn).toNat)
  case atStart => exact ⟨u, ⟨#[]⟩, rfl, rfl, Nat.le_refl _, by simp, Below.refl _ _⟩
  case round =>
    obtain ⟨v, s, rfl, rfl, hvu, hd, hB⟩ := hrel
    by_cases hv : 10 ≤ v
    · have hv' : (10 : Int) ≤ (v : Int) := by omega
      have HD : Hid (Lib.decDigits u = Lib.decDigits v ++ s.data.toList) := hd
      have hs : s.size ≤ 20 := dec_rest hu hd
      clear hd
      have hc := conv1 (x := 48 + (v : Int) % 10) (UInt8.ofNat (48 + v % 10)) (by rw [dig_toNat (by omega)]; omega) wr
      obtain ⟨c, hcc⟩ : ∃ c, Hid (UInt8.ofNat (48 + v % 10) = c) := ⟨_, rfl⟩
      rw [hcc.out] at hc
      go_wp2
      go_roundw
      case rel =>
        refine ⟨v / 10, ⟨#[c]⟩ ++ s, by go_num, rfl, by omega, ?_, hB.alloc hB.size _⟩
        rw [HD.out, app_list, Lib.decDigits, dif_neg (by omega), ← hcc.out]
        simp
      case measure => simp [intOf]; omega
    · have hv' : ¬ (10 : Int) ≤ (v : Int) := by omega
      have HD : Hid (Lib.decDigits u = Lib.decDigits v ++ s.data.toList) := hd
      have hs : s.size ≤ 20 := dec_rest hu hd
      clear hd
      have hc := conv1 (x := 48 + (v : Int)) (UInt8.ofNat (48 + v)) (by rw [dig_toNat (by omega)]; omega) wr
      obtain ⟨c, hcc⟩ : ∃ c, Hid (UInt8.ofNat (48 + v) = c) := ⟨_, rfl⟩
      rw [hcc.out] at hc
      go_wp2
      go_ret
      refine ⟨?_, hB.alloc hB.size _⟩
      have : dec u = ⟨#[c]⟩ ++ s := ba_ext (by rw [app_list]; show Lib.decDigits u = _; rw [HD.out, Lib.decDigits_one (by omega), ← hcc.out])
      rw [this]; rfl
end Go.Proofs.YtbmfehkahjeobaaDoor
