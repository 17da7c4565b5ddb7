/-
  PROVED HERE: what Text of the document's layer 4 returns when it is called: a label's text (a contract over this translation). Labels of at most 40 pairs.
-/
import Derived.Test.YtbmfehkahjeobaaDoorCod30
import Derived.Deep.RegionHeld3
namespace Go.Proofs.YtbmfehkahjeobaaDoor
open Go.RowKit Go.Shelf
set_option linter.unusedVariables false

theorem join_snoc (sep x : List UInt8) : ∀ (xs : List (List UInt8)), xs ≠ [] → Lib.join (xs ++ [x]) sep = Lib.join xs sep ++ (sep ++ x) := by
  intro xs h
  cases xs with
  | nil => exact absurd rfl h
  | cons y r =>
    rw [List.cons_append, Lib.join_cons, Lib.join_cons]
    simp [Lib.joinTail]
def jL (L : List (Int × Int)) (k : Nat) : List UInt8 := Lib.join ((items L k).map (·.data.toList)) [44]
theorem jL_0 (L : List (Int × Int)) : jL L 0 = [] := rfl
theorem jL_1 {L : List (Int × Int)} {x y : Int} (h : 0 < L.length) (e : L.getD 0 (0, 0) = (x, y)) : jL L 1 = (itemT (x, y)).data.toList := by
  unfold jL; rw [items_succ h e]
  show Lib.join [_] _ = _
  rw [Lib.join_one]
theorem jL_succ {L : List (Int × Int)} {k : Nat} {x y : Int} (hk : 0 < k) (h : k < L.length) (e : L.getD k (0, 0) = (x, y)) : jL L (k + 1) = jL L k ++ (44 :: (itemT (x, y)).data.toList) := by
  unfold jL; rw [items_succ h e, List.map_append]
  show Lib.join (_ ++ [_]) _ = _
  rw [join_snoc]
  · simp
  · intro q
    have := congrArg List.length q
    rw [List.length_map, items_len (by omega)] at this
    simp at this
    omega
theorem jL_all {L : List (Int × Int)} {n : Nat} (h : L.length = n) : jL L n = (joined L).data.toList := by
  unfold jL items joined; rw [List.take_of_length_le (by omega)]
theorem dec_size {u : Nat} (h : u < 18446744073709551616) : (dec u).size ≤ 20 := by rw [dec, size_mk, Lib.decDigits_length]; exact Lib.nDigits_le20 _ h

set_option maxRecDepth 100000 in
set_option maxHeartbeats 2000000 in
theorem rtext4_any {w : World} {ao : Option Addr} {n cap : Nat} {L : List (Int × Int)} (hL : Lab w.heap.size w ao n cap L) (hU : U64p L) (hn2 : n ≤ 40) :
    Calls Tryd.prog 8 #[.slice ao n cap] w fun e w' => e = .returned (.string (textOf L)) ∧ Below w.heap.size w w' := by
  have hll := hL.1
  have hnc := hL.2.1
  have hcm := hL.2.2.1.1
  have HL : Hid (Lab w.heap.size w ao n cap L) := hL
  cases hf : fitB L with
  | false =>
    have ht : textOf L = ⟨#[]⟩ := by unfold textOf; rw [hf]; rfl
    rw [ht]
    go_enter Tryd.func8, Tryd.ntmps8
    go_wp2_with (go_at_call 14; refine (rlfit_any hL (Nat.le_refl _)).mono ?_; rintro e w1 ⟨rfl, hb1⟩; rw [hf])
    go_ret
    exact ⟨rfl, hb1⟩
  | true =>
    by_cases h0 : n = 0
    · subst h0
      have ht : textOf L = ⟨#[45]⟩ := by unfold textOf; rw [hf, if_pos rfl, if_pos hll]
      rw [ht]
      go_enter Tryd.func8, Tryd.ntmps8
      go_wp2_with (go_at_call 14; refine (rlfit_any hL (Nat.le_refl _)).mono ?_; rintro e w1 ⟨rfl, hb1⟩; rw [hf])
      go_ret
      exact ⟨rfl, hb1⟩
    · have hn0 : ((n : Int) == 0) = false := by rw [beq_eq_false_iff_ne]; omega
      have ht : Hid (textOf L = joined L) := by show textOf L = joined L; unfold textOf; rw [hf, if_pos rfl, if_neg (by omega)]
      go_enter Tryd.func8, Tryd.ntmps8
      go_wp2_with (go_at_call 14; refine (rlfit_any hL (Nat.le_refl _)).mono ?_; rintro e w1 ⟨rfl, hb1⟩; rw [hf])
      go_loopw [3, 4] (fun vs i wr => ∃ (k : Nat) (s : ByteArray), k ≤ n ∧ i = .int .i64 k ∧ vs = .string s ∧ s.size ≤ 101 * k ∧ Hid (s.data.toList = jL L k) ∧ Below w.heap.size w wr) (fun _ i _ => n - (intOf i).toNat)
      case atStart => exact ⟨0, _, Nat.zero_le _, rfl, rfl, Nat.le_refl _, rfl, hb1⟩
      case round =>
        clear hL hn0
        obtain ⟨k, s, hk, rfl, rfl, hs, hj, hb⟩ := hrel
        by_cases hkn : k < n
        · obtain ⟨b, off, x, y, rfl, hbB, d0, d1, hxy⟩ := HL.out.at hb hkn
          have hbw : b < wr.heap.size := by have := hb.size; omega
          have hkn' : (k : Int) < n := by omega
          have hux := hU k
          rw [hxy.out] at hux
          obtain ⟨u, hxu⟩ : ∃ u : Nat, x = (u : Int) := ⟨x.toNat, by have := hux.1; simp only at this; omega⟩
          subst hxu
          have hu : u < 18446744073709551616 := by have := hux.2; simp only at this; omega
          have hds := dec_size hu
          have hty : Hid ((Lv.txt y).size = 1) := txt_len y
          have hit : Hid ((itemT ((u : Int), y)).data.toList = Lib.decDigits u ++ 58 :: (Lv.txt y).data.toList) := item_list ((u : Int), y)
          have hs2 : s.size ≤ 4040 := by omega
          clear hux
          by_cases hk0 : k = 0
          · have hk1 : ¬ 0 < k := by omega
            have hsn : Hid ((s ++ dec u ++ ⟨#[58]⟩ ++ Lv.txt y).data.toList = jL L (k + 1)) := by
              show _ = _
              have hs0 : s.data.toList = [] := by rw [hj.out, hk0]; rfl
              have h1 : jL L (k + 1) = (itemT ((u : Int), y)).data.toList := by subst hk0; exact jL_1 (by omega) hxy.out
              rw [h1, hit.out, app_list, app_list, app_list, hs0]
              simp [dec]
            have HK : Hid (k = 0) := hk0
            clear hk0
            have hz0 : (9223372036854775807 < s.size + (dec u).size) = False := by have := hty.out; simp; omega
            have hz1 : (9223372036854775807 < s.size + (dec u).size + 1) = False := by have := hty.out; simp; omega
            have hz2 : (9223372036854775807 < s.size + (dec u).size + 1 + (Lv.txt y).size) = False := by have := hty.out; simp; omega
            go_wp2
            go_region_held3 (fun w' => w'.cell? ⟨b, off + k * 2, none⟩ = some (.int .u64 (u : Int)) ∧ w'.cell? ⟨b, off + k * 2 + 1, none⟩ = some (.int .i64 y)) (go_keep) (first | (go_at_call 19; refine (digits_any u hu _).mono ?_; rintro e w2 ⟨rfl, hb2'⟩; have hb2 : Below wr.heap.size wr w2 := (Below.refl _ wr).drew.trans hb2'; have f0 := (hb2.cell (p := ⟨b, off + k * 2, none⟩) hbw).trans d0; have f1 := (hb2.cell (p := ⟨b, off + k * 2 + 1, none⟩) hbw).trans d1) | (go_at_call 20; refine (rtext_any _ _).mono ?_; rintro e w3 ⟨rfl, rfl⟩))
            go_wp2
            go_roundw
            case rel => exact ⟨k + 1, _, by omega, by go_num, rfl, by have := hty.out; simp only [ByteArray.size_append, show (ByteArray.mk #[58]).size = 1 from rfl]; omega, hsn, hb.trans (hb2.mono hb.size)⟩
            case measure => simp [intOf]; omega
          · have hk1 : 0 < k := by omega
            have hsn : Hid ((s ++ ⟨#[44]⟩ ++ dec u ++ ⟨#[58]⟩ ++ Lv.txt y).data.toList = jL L (k + 1)) := by
              show _ = _
              rw [jL_succ hk1 (by omega) hxy.out, hit.out, app_list, app_list, app_list, app_list, hj.out]
              simp [dec]
            clear hk0
            have hz0 : (9223372036854775807 < s.size + 1 + (dec u).size) = False := by have := hty.out; simp; omega
            have hz1 : (9223372036854775807 < s.size + 1 + (dec u).size + 1) = False := by have := hty.out; simp; omega
            have hz2 : (9223372036854775807 < s.size + 1 + (dec u).size + 1 + (Lv.txt y).size) = False := by have := hty.out; simp; omega
            go_wp2
            go_region_held3 (fun w' => w'.cell? ⟨b, off + k * 2, none⟩ = some (.int .u64 (u : Int)) ∧ w'.cell? ⟨b, off + k * 2 + 1, none⟩ = some (.int .i64 y)) (go_keep) (first | (go_at_call 19; refine (digits_any u hu _).mono ?_; rintro e w2 ⟨rfl, hb2'⟩; have hb2 : Below wr.heap.size wr w2 := (Below.refl _ wr).drew.trans hb2'; have f0 := (hb2.cell (p := ⟨b, off + k * 2, none⟩) hbw).trans d0; have f1 := (hb2.cell (p := ⟨b, off + k * 2 + 1, none⟩) hbw).trans d1) | (go_at_call 20; refine (rtext_any _ _).mono ?_; rintro e w3 ⟨rfl, rfl⟩))
            go_wp2
            go_roundw
            case rel => exact ⟨k + 1, _, by omega, by go_num, rfl, by have := hty.out; simp only [ByteArray.size_append, show (ByteArray.mk #[58]).size = 1 from rfl, show (ByteArray.mk #[44]).size = 1 from rfl]; omega, hsn, hb.trans (hb2.mono hb.size)⟩
            case measure => simp [intOf]; omega
        · obtain rfl : k = n := by omega
          go_wp2
          go_ret
          exact ⟨by rw [ht.out]; exact congrArg (fun s => Ending.returned (Value.string s)) (ba_ext (hj.out.trans (jL_all hll))), hb⟩
end Go.Proofs.YtbmfehkahjeobaaDoor
