/-
  PROVED HERE: what the document's answer to perm's Name and Number returns when it is called, and the laws' own example (contracts over this translation). No condition.
-/
import Derived.Test.YtjgdafpciilfeaaPrm3
namespace Go.Proofs.Ytjgdafpciilfeaa
open Go.RowKit Go.Shelf
set_option linter.unusedVariables false

theorem all61 {n : Nat} (hn : n < 18446744073709551616) : bits .and .u64 (n : Int) 2305843009213693951 = ((n % 2305843009213693952 : Nat) : Int) := by
  have := u64_and_nat n 2305843009213693951 hn (by omega)
  rw [show (2305843009213693951 : Nat) = 2 ^ 61 - 1 from rfl, Nat.and_two_pow_sub_one_eq_mod] at this
  exact this
theorem all31 {n : Nat} (hn : n < 18446744073709551616) : bits .and .u64 (n : Int) 2147483647 = ((n % 2147483648 : Nat) : Int) := by
  have := u64_and_nat n 2147483647 hn (by omega)
  rw [show (2147483647 : Nat) = 2 ^ 31 - 1 from rfl, Nat.and_two_pow_sub_one_eq_mod] at this
  exact this
theorem all30 {n : Nat} (hn : n < 18446744073709551616) : bits .and .u64 (n : Int) 1073741823 = ((n % 1073741824 : Nat) : Int) := by
  have := u64_and_nat n 1073741823 hn (by omega)
  rw [show (1073741823 : Nat) = 2 ^ 30 - 1 from rfl, Nat.and_two_pow_sub_one_eq_mod] at this
  exact this
theorem up_at {n : Nat} (hn : n < 18446744073709551616) : bits .and .u64 (n : Int) 2305843009213693951 / 1073741824 = ((Pm.splitN n).1 : Nat) := by
  rw [all61 hn]; show (_ : Int) = ((n / 1073741824 % 2147483648 : Nat) : Int); omega
theorem lo_at {n : Nat} (hn : n < 18446744073709551616) : bits .and .u64 (bits .and .u64 (n : Int) 2305843009213693951) 1073741823 = ((Pm.splitN n).2 : Nat) := by
  rw [all61 hn, all30 (by omega)]; show (_ : Int) = ((n % 1073741824 : Nat) : Int); omega
theorem and31 (key r v : Nat) : bits .and .u64 ((Pm.rndN key r v : Nat) : Int) 2147483647 = (r31 key r v : Nat) := all31 (rndN_lt _ _ _)
theorem and30 (key r v : Nat) : bits .and .u64 ((Pm.rndN key r v : Nat) : Int) 1073741823 = (r30 key r v : Nat) := all30 (rndN_lt _ _ _)

set_option maxRecDepth 100000 in
set_option maxHeartbeats 1000000 in
theorem rname_any {key n : Nat} (hn : n < 18446744073709551616) (w : World) :
    Calls Try.prog 13 #[.int .u64 key, .int .u64 n] w fun e w' => e = .returned (.int .u64 (Pm.nameN key n : Nat)) ∧ w = w' := by
  have e1 := up_at hn
  have e2 := lo_at hn
  go_enter Try.func13, Try.ntmps13
  go_wp2
  go_loopw [5, 6, 7] (fun va vb vr wr => ∃ k : Nat, k ≤ 8 ∧ va = .int .u64 ((Pm.goes key (rsK false k) (Pm.splitN n)).1 : Nat) ∧ vb = .int .u64 ((Pm.goes key (rsK false k) (Pm.splitN n)).2 : Nat) ∧ vr = .int .u64 k ∧ w = wr) (fun _ _ vr _ => 8 - (intOf vr).toNat)
  case atStart => exact ⟨0, by omega, rfl, rfl, rfl, rfl⟩
  case round =>
    obtain ⟨k, hk, rfl, rfl, rfl, rfl⟩ := hrel
    clear e1 e2
    have hd := Pm.goes_dom (key := key) (rs := rsK false k) (Pm.split_dom n)
    have hs : Hid (Pm.goes key (rsK false (k + 1)) (Pm.splitN n) = Pm.trnN key k (Pm.goes key (rsK false k) (Pm.splitN n))) := by show _ = _; rw [rsK_succ, Pm.goes_snoc]; rfl
    obtain ⟨p, hp⟩ : ∃ p, Hid (Pm.goes key (rsK false k) (Pm.splitN n) = p) := ⟨_, rfl⟩
    simp only [hp.out] at hd hs ⊢
    obtain ⟨a, b⟩ := p
    have ha : a < 2147483648 := hd.1
    have hb : b < 1073741824 := hd.2
    by_cases hk8 : k < 8
    · have hk8' : (k : Int) < 8 := by omega
      have m1 := and31 key k b
      have m2 := and30 key k a
      by_cases hq : k % 2 = 0
      · have hq' : ((k : Int) % 2 == 0) = true := by rw [beq_iff_eq]; omega
        have e1 := trn_even (key := key) (b := b) hq ha
        have e2 : Hid (b = (Pm.trnN key k (a, b)).2) := trn_even2 (key := key) (a := a) (b := b) hq
        obtain ⟨z, hz⟩ : ∃ z, Hid (Pm.trnN key k (a, b) = z) := ⟨_, rfl⟩
        rw [hz.out] at e1 e2 hs
        go_wp2_with (go_at_call 23; refine (rrnd_any _ _ _ _).mono ?_; rintro e w' ⟨rfl, rfl⟩)
        go_roundw
        case rel => exact ⟨k + 1, by omega, by rw [hs.out], by rw [hs.out, ← e2.out], by go_num, by first | rfl | trivial⟩
        case measure => simp [intOf]; omega
      · have hq' : ((k : Int) % 2 == 0) = false := by rw [beq_eq_false_iff_ne]; omega
        have e1 := trn_odd (key := key) (a := a) hq hb
        have e2 : Hid (a = (Pm.trnN key k (a, b)).1) := trn_odd2 (key := key) (a := a) (b := b) hq
        obtain ⟨z, hz⟩ : ∃ z, Hid (Pm.trnN key k (a, b) = z) := ⟨_, rfl⟩
        rw [hz.out] at e1 e2 hs
        go_wp2_with (go_at_call 23; refine (rrnd_any _ _ _ _).mono ?_; rintro e w' ⟨rfl, rfl⟩)
        go_roundw
        case rel => exact ⟨k + 1, by omega, by rw [hs.out, ← e2.out], by rw [hs.out], by go_num, by first | rfl | trivial⟩
        case measure => simp [intOf]; omega
    · obtain rfl : k = 8 := by omega
      go_wp2
      go_ret
      refine ⟨?_, rfl⟩
      have : Pm.nameN key n = a * 1073741824 + b + 1 := by unfold Pm.nameN; rw [← rsK_8, hp.out]; rfl
      rw [this]; rfl
theorem u64_nat {a : Int} (h : (Lit.int .u64 a).wf = true) : ∃ n : Nat, a = n ∧ n < 18446744073709551616 := by
  have h' : 0 ≤ a ∧ a ≤ 18446744073709551615 := by simpa [Lit.wf, IntKind.min, IntKind.max, IntKind.bits, IntKind.signed] using h
  exact ⟨a.toNat, by omega, by omega⟩
theorem beqN (a b : Nat) : ((a : Int) == (b : Int)) = (a == b) := by rw [Bool.eq_iff_iff, beq_iff_eq, beq_iff_eq]; omega
theorem mix_eq {x y : Nat} (hx : x < 18446744073709551616) (hy : y < 18446744073709551616) : (((Pm.mixN x : Nat) : Int) == ((Pm.mixN y : Nat) : Int)) = ((x : Int) == (y : Int)) := by
  rw [beqN, beqN, Bool.eq_iff_iff, beq_iff_eq, beq_iff_eq]
  exact ⟨Pm.mixN_inj hx hy, fun e => by rw [e]⟩
theorem num_of {key n m : Nat} (hn : n < 18446744073709551616) (hm : m < 18446744073709551616) (h : n % 2305843009213693952 = m % 2305843009213693952) : Pm.numN key n = Pm.numN key m := by
  unfold Pm.numN
  rw [Pm.split_of (show (n + 18446744073709551615) % 18446744073709551616 % 2305843009213693952 = (m + 18446744073709551615) % 18446744073709551616 % 2305843009213693952 by omega)]
theorem name_of {key n m : Nat} (h : n % 2305843009213693952 = m % 2305843009213693952) : Pm.nameN key n = Pm.nameN key m := by
  unfold Pm.nameN
  rw [Pm.split_of h]
theorem high_at {n h : Nat} (hn : n < 18446744073709551616) : ∃ x : Nat, bits .xor .u64 (n : Int) (IntKind.u64.wrap ((h : Int) * 2305843009213693952)) = x ∧ x < 18446744073709551616 ∧ n % 2305843009213693952 = x % 2305843009213693952 := by
  refine ⟨n ^^^ (h * 2305843009213693952 % 18446744073709551616), ?_, Pm.xor_lt hn (Pm.mod_lt64 _), ?_⟩
  · rw [show (h : Int) * 2305843009213693952 = (h : Int) * ((2305843009213693952 : Nat) : Int) from rfl, cut64m, xor64 hn (Pm.mod_lt64 _)]
  · rw [show (2305843009213693952 : Nat) = 2 ^ 61 from rfl, Nat.xor_mod_two_pow, show h * 2 ^ 61 % 18446744073709551616 % 2 ^ 61 = 0 by omega]
    simp
end Go.Proofs.Ytjgdafpciilfeaa
