/-
 PROVED HERE: what the document's answer to perm's Name and Number returns when it is called, and the laws' own example (con. What is asked stands at each.
-/
import Derived.Test.YtloghnpfplljgaaGreatZ13
namespace Go.Proofs.YtloghnpfplljgaaGreat
set_option maxRecDepth 100000
set_option maxHeartbeats 8000000
set_option linter.unusedVariables false
open Go.Proofs.Tryz
namespace SrM
open Go.RowKit Go.Shelf
variable {n : Nat}
theorem all61 (hn : n < 18446744073709551616) : bits .and .u64 (n : Int) 2305843009213693951 = ((n % 2305843009213693952 : Nat) : Int) := by
 have := u64_and_nat n 2305843009213693951 hn (by omega)
 rw [show (2305843009213693951 : Nat) = 2 ^ 61 - 1 from rfl, Nat.and_two_pow_sub_one_eq_mod] at this
 exact this
theorem all31 (hn : n < 18446744073709551616) : bits .and .u64 (n : Int) 2147483647 = ((n % 2147483648 : Nat) : Int) := by
 have := u64_and_nat n 2147483647 hn (by omega)
 rw [show (2147483647 : Nat) = 2 ^ 31 - 1 from rfl, Nat.and_two_pow_sub_one_eq_mod] at this
 exact this
theorem all30 (hn : n < 18446744073709551616) : bits .and .u64 (n : Int) 1073741823 = ((n % 1073741824 : Nat) : Int) := by
 have := u64_and_nat n 1073741823 hn (by omega)
 rw [show (1073741823 : Nat) = 2 ^ 30 - 1 from rfl, Nat.and_two_pow_sub_one_eq_mod] at this
 exact this
theorem up_at (hn : n < 18446744073709551616) : bits .and .u64 (n : Int) 2305843009213693951 / 1073741824 = ((Pm.splitN n).1 : Nat) := by
 rw [all61 hn]; show (_ : Int) = ((n / 1073741824 % 2147483648 : Nat) : Int); omega
theorem lo_at (hn : n < 18446744073709551616) : bits .and .u64 (bits .and .u64 (n : Int) 2305843009213693951) 1073741823 = ((Pm.splitN n).2 : Nat) := by
 rw [all61 hn, all30 (by omega)]; show (_ : Int) = ((n % 1073741824 : Nat) : Int); omega
theorem and31 (key r v : Nat) : bits .and .u64 ((Pm.rndN key r v : Nat) : Int) 2147483647 = (r31 key r v : Nat) := all31 (jMz _ _ _)
theorem and30 (key r v : Nat) : bits .and .u64 ((Pm.rndN key r v : Nat) : Int) 1073741823 = (r30 key r v : Nat) := all30 (jMz _ _ _)
theorem rnum_any {key n : Nat} (hn : n < 18446744073709551616) (w : World) :
  Calls prog 47 #[.int .u64 key, .int .u64 n] w fun e w' => e = .returned (.int .u64 (Pm.numN key n : Nat)) ∧ w = w' := by
 obtain ⟨m, hm⟩ : ∃ m, Hid ((n + 18446744073709551615) % 18446744073709551616 = m) := ⟨_, rfl⟩
 have hm64 : m < 18446744073709551616 := by rw [← hm.out]; exact Pm.mod_lt64 _
 have hsub : IntKind.u64.wrap ((n : Int) - 1) = (m : Int) := by rw [IntKind.wrap_u64, ← hm.out]; omega
 have e1 := up_at hm64
 have e2 := lo_at hm64
 go_enter func47, ntmps47
 go_wp2
 go_loopw [5, 6, 7] (fun va vb vr wr => ∃ k : Nat, k ≤ 8 ∧ va = .int .u64 ((Pm.goes key (rsK true k) (Pm.splitN m)).1 : Nat) ∧ vb = .int .u64 ((Pm.goes key (rsK true k) (Pm.splitN m)).2 : Nat) ∧ vr = .int .u64 k ∧ w = wr) (fun _ _ vr _ => 8 - (intOf vr).toNat)
 case atStart => exact ⟨0, by omega, rfl, rfl, rfl, rfl⟩
 case round =>
  obtain ⟨k, hk, rfl, rfl, rfl, rfl⟩ := hrel
  clear e1 e2
  have hd := Pm.goes_dom (key := key) (rs := rsK true k) (Pm.split_dom m)
  have hs : Hid (Pm.goes key (rsK true (k + 1)) (Pm.splitN m) = Pm.trnN key (7 - k) (Pm.goes key (rsK true k) (Pm.splitN m))) := by show _ = _; rw [xoz, Pm.goes_snoc]; rfl
  obtain ⟨p, hp⟩ : ∃ p, Hid (Pm.goes key (rsK true k) (Pm.splitN m) = p) := ⟨_, rfl⟩
  simp only [hp.out] at hd hs ⊢
  obtain ⟨a, b⟩ := p
  have ha : a < 2147483648 := hd.1
  have hb : b < 1073741824 := hd.2
  by_cases hk8 : k < 8
  ·have hk8' : (k : Int) < 8 := by omega
   obtain ⟨t, ht⟩ : ∃ t, Hid (7 - k = t) := ⟨_, rfl⟩
   have h7 : IntKind.u64.wrap (7 - (k : Int)) = (t : Int) := by rw [IntKind.wrap_u64, ← ht.out]; omega
   rw [ht.out] at hs
   have m1 := and31 key t b
   have m2 := and30 key t a
   by_cases hq : t % 2 = 0
   ·have hq' : ((t : Int) % 2 == 0) = true := by rw [beq_iff_eq]; omega
    have e1 := yNz (key := key) (b := b) hq ha
    have e2 : Hid (b = (Pm.trnN key t (a, b)).2) := vmz (key := key) (a := a) (b := b) hq
    obtain ⟨z, hz⟩ : ∃ z, Hid (Pm.trnN key t (a, b) = z) := ⟨_, rfl⟩
    rw [hz.out] at e1 e2 hs
    go_wp2_with (go_at_call 79; refine (yVz _ _ _ _).mono ?_; rintro e w' ⟨rfl, rfl⟩)
    go_roundw
    case rel => exact ⟨k + 1, by omega, by rw [hs.out], by rw [hs.out, ← e2.out], by go_num, by first | rfl | trivial⟩
    case measure => simp [intOf]; omega
   ·have hq' : ((t : Int) % 2 == 0) = false := by rw [beq_eq_false_iff_ne]; omega
    have e1 := gpz (key := key) (a := a) hq hb
    have e2 : Hid (a = (Pm.trnN key t (a, b)).1) := yMz (key := key) (a := a) (b := b) hq
    obtain ⟨z, hz⟩ : ∃ z, Hid (Pm.trnN key t (a, b) = z) := ⟨_, rfl⟩
    rw [hz.out] at e1 e2 hs
    go_wp2_with (go_at_call 79; refine (yVz _ _ _ _).mono ?_; rintro e w' ⟨rfl, rfl⟩)
    go_roundw
    case rel => exact ⟨k + 1, by omega, by rw [hs.out, ← e2.out], by rw [hs.out], by go_num, by first | rfl | trivial⟩
    case measure => simp [intOf]; omega
  ·obtain rfl : k = 8 := by omega
   go_wp2
   go_ret
   refine ⟨?_, rfl⟩
   have : Pm.numN key n = a * 1073741824 + b := by unfold Pm.numN; rw [hm.out, ← rsK_8, hp.out]; rfl
   rw [this]; rfl
end SrM
end Go.Proofs.YtloghnpfplljgaaGreat
