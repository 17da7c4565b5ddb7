/-
  PROVED HERE: what number of the document's layer 4 returns when it is called: the number whose numeral a text is, or that it is none (a contract over this translation). Texts of at most 65536 bytes.
-/
import Derived.Test.YtbmfehkahjeobaaDoorCod31
namespace Go.Proofs.YtbmfehkahjeobaaDoor
open Go.RowKit Go.Shelf
set_option linter.unusedVariables false

def vals (l : List UInt8) : Nat := l.foldl (fun n c => n * 10 + (c.toNat - 48)) 0
theorem vals_snoc (l : List UInt8) (c : UInt8) : vals (l ++ [c]) = vals l * 10 + (c.toNat - 48) := by simp [vals]
theorem vals_dec : ∀ (u : Nat), vals (Lib.decDigits u) = u := by
  intro u
  induction u using Nat.strongRecOn with
  | _ u ih =>
    by_cases h : u < 10
    · rw [Lib.decDigits_one h]
      show 0 * 10 + (_ - 48) = u
      rw [dig_toNat h]; omega
    · rw [Lib.decDigits, dif_neg h, vals_snoc, ih (u / 10) (by omega), dig_toNat (by omega)]
      omega
theorem vals_take {l : List UInt8} {k : Nat} (h : k < l.length) : vals (l.take (k + 1)) = vals (l.take k) * 10 + (l[k].toNat - 48) := by
  rw [List.take_succ_eq_append_getElem h, vals_snoc]
theorem vals_le {l : List UInt8} : ∀ {j k : Nat}, j ≤ k → k ≤ l.length → vals (l.take j) ≤ vals (l.take k) := by
  intro j k
  induction k with
  | zero => intro h _; have : j = 0 := by omega
            subst this; exact Nat.le_refl _
  | succ k ih =>
    intro h hk
    by_cases hj : j = k + 1
    · subst hj; exact Nat.le_refl _
    · have h1 := ih (by omega) (by omega)
      rw [vals_take (by omega)]
      omega

theorem at_list {s : ByteArray} {k : Nat} (h : k < s.size) : s.data.toList[k]'(by rw [size_list]; exact h) = s[k] := by rw [Array.getElem_toList]; rfl
theorem num_digit {s : ByteArray} {u k : Nat} (hk : k < s.size) (h : numOf s = some u) : 48 ≤ s[k].toNat ∧ s[k].toNat ≤ 57 := by
  obtain ⟨rfl, _⟩ := numOf_back h
  refine dec_digits u _ ?_
  rw [← at_list hk]
  exact List.getElem_mem (l := Lib.decDigits u) _
theorem num_none {s : ByteArray} {k : Nat} (hk : k < s.size) (h : ¬ (48 ≤ s[k].toNat ∧ s[k].toNat ≤ 57)) : numOf s = none := by
  cases hq : numOf s with
  | none => rfl
  | some u => exact absurd (num_digit hk hq) h
theorem num_size {s : ByteArray} {u : Nat} (h : numOf s = some u) : s.size ≤ 20 := by
  obtain ⟨rfl, h2⟩ := numOf_back h
  exact dec_size h2
theorem num_step {s : ByteArray} {u k v : Nat} (hk : k < s.size) (h : numOf s = some u) (hv : v = vals (s.data.toList.take k)) : (v * 10 + (s[k].toNat - 48)) = vals (s.data.toList.take (k + 1)) ∧ v * 10 + (s[k].toNat - 48) ≤ u := by
  have hk' : k < s.data.toList.length := by rw [size_list]; exact hk
  have e : v * 10 + (s[k].toNat - 48) = vals (s.data.toList.take (k + 1)) := by rw [vals_take hk', hv, at_list hk]
  refine ⟨e, ?_⟩
  rw [e]
  have h1 := vals_le (l := s.data.toList) (j := k + 1) (k := s.data.toList.length) (by omega) (Nat.le_refl _)
  rw [List.take_length] at h1
  obtain ⟨rfl, _⟩ := numOf_back h
  have h2 : vals (dec u).data.toList = u := vals_dec u
  omega
theorem num_end {s : ByteArray} {k v : Nat} (hv : v < 18446744073709551616) (hk : k = s.size ∨ (k = 20 ∧ k < s.size)) (h : ∀ u, numOf s = some u → v = vals (s.data.toList.take k)) :
    ((dec v).toList == s.toList) = (numOf s).isSome ∧ ∀ u, numOf s = some u → v = u := by
  cases hq : numOf s with
  | none =>
    refine ⟨?_, fun u e => by cases e⟩
    show _ = false
    rw [beq_eq_false_iff_ne]
    intro e
    have e2 : dec v = s := Lv.toList_inj e
    rw [← e2, numOf_dec v hv] at hq
    cases hq
  | some u =>
    have hv2 := h u hq
    rcases hk with rfl | ⟨rfl, hlt⟩
    · have hu : v = u := by
        rw [hv2, ← size_list s, List.take_length]
        obtain ⟨rfl, _⟩ := numOf_back hq
        exact vals_dec u
      subst hu
      obtain ⟨e, _⟩ := numOf_back hq
      exact ⟨by rw [e]; simp, fun u' e' => Option.some.inj e'⟩
    · have := num_size hq; omega

set_option maxRecDepth 100000 in
set_option maxHeartbeats 2000000 in
theorem rnumber_any (s : ByteArray) (hs : s.size ≤ 65536) (w : World) :
    Calls Tryd.prog 25 #[.string s] w fun e w' => ∃ n : Nat, e = .returned (.tuple #[.int .u64 (n : Int), .bool (numOf s).isSome]) ∧ (∀ u, numOf s = some u → n = u) ∧ Below w.heap.size w w' := by
  go_enter Tryd.func25, Tryd.ntmps25
  go_wp2
  go_loopw [4, 5] (fun vn vi wr => ∃ (k v : Nat), k ≤ s.size ∧ k ≤ 20 ∧ vi = .int .i64 k ∧ vn = .int .u64 v ∧ v < 18446744073709551616 ∧ Hid (∀ u, numOf s = some u → v = vals (s.data.toList.take k)) ∧ w = wr) (fun _ vi _ => 20 - (intOf vi).toNat)
  case atStart => exact ⟨0, 0, Nat.zero_le _, by omega, rfl, rfl, by omega, fun _ _ => rfl, rfl⟩
  case round =>
    obtain ⟨k, v, hks, hk20, rfl, rfl, hv, hval, rfl⟩ := hrel
    by_cases hk1 : k < s.size
    · have hk1' : (k : Int) < (s.size : Int) := by omega
      by_cases hk2 : k < 20
      · have hk2' : (k : Int) < 20 := by omega
        by_cases c1 : (s[k].toNat : Int) < 48
        · have hn : Hid (numOf s = none) := num_none hk1 (by omega)
          go_wp2
          go_ret2
          exact ⟨0, by rw [hn.out]; rfl, (fun u e => by rw [hn.out] at e; cases e), Below.refl _ _⟩
        · by_cases c2 : (57 : Int) < (s[k].toNat : Int)
          · have hn : Hid (numOf s = none) := num_none hk1 (by omega)
            go_wp2
            go_ret2
            exact ⟨0, by rw [hn.out]; rfl, (fun u e => by rw [hn.out] at e; cases e), Below.refl _ _⟩
          · have c3 : (48 : Int) ≤ (s[k].toNat : Int) ∧ (s[k].toNat : Int) ≤ 57 := by omega
            have c4 : ¬ ((s[k].toNat : Int) < 48 ∨ (57 : Int) < (s[k].toNat : Int)) := by omega
            have hw : Hid (IntKind.u64.wrap (IntKind.u64.wrap ((v : Int) * 10) + ((s[k].toNat : Int) - 48)) = (((v * 10 + (s[k].toNat - 48)) % 18446744073709551616 : Nat) : Int)) := by
              show _ = _; rw [IntKind.wrap_u64, IntKind.wrap_u64]; omega
            go_wp2
            go_roundw
            case rel =>
              refine ⟨k + 1, (v * 10 + (s[k].toNat - 48)) % 18446744073709551616, by omega, by omega, by go_num, by rw [hw.out], by omega, fun u e => ?_, trivial⟩
              obtain ⟨q1, q2⟩ := num_step hk1 e (hval.out u e)
              have q3 := (numOf_back e).2
              rw [← q1]; omega
            case measure => simp [intOf]; omega
      · have hk2' : ¬ (k : Int) < 20 := by omega
        obtain ⟨r1, r2⟩ := num_end hv (.inr ⟨by omega, hk1⟩) hval.out
        have R2 : Hid (∀ u, numOf s = some u → v = u) := r2
        clear r2
        go_wp2_with (go_at_call 19; refine (digits_any v hv _).mono ?_; rintro e w2 ⟨rfl, hb2⟩)
        go_ret2
        exact ⟨v, rfl, R2.out, hb2⟩
    · have hk1' : ¬ (k : Int) < (s.size : Int) := by omega
      obtain ⟨r1, r2⟩ := num_end hv (.inl (by omega)) hval.out
      have R2 : Hid (∀ u, numOf s = some u → v = u) := r2
      clear r2
      go_wp2_with (go_at_call 19; refine (digits_any v hv _).mono ?_; rintro e w2 ⟨rfl, hb2⟩)
      go_ret2
      exact ⟨v, rfl, R2.out, hb2⟩
end Go.Proofs.YtbmfehkahjeobaaDoor
