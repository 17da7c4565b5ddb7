/-
  PROVED HERE: what each function of package perm that has no loop, and its like of the document's answer, returns when it is called (contracts over this translation). No condition.
-/
import Derived.Test.YtjgdafpciilfeaaRows
import Derived.Test.YtjgdafpciilfeaaPrm1
import Derived.WalkKit
import Derived.ProofKit
import Derived.OpenShut
import Derived.Below
import Derived.Laws.BitsAllLaws
import Derived.Deep.RegionWith
namespace Go.Proofs.Ytjgdafpciilfeaa
open Go.ChangeShapes Go.WideShapes Go.ChangeAt Go.RowKit
set_option linter.unusedVariables false

theorem cut64 (a : Nat) : IntKind.u64.wrap (a : Int) = ((a % 18446744073709551616 : Nat) : Int) := by simp [IntKind.wrap, IntKind.bits, IntKind.signed]
theorem cut64m (a c : Nat) : IntKind.u64.wrap ((a : Int) * (c : Int)) = ((a * c % 18446744073709551616 : Nat) : Int) := by rw [← Int.natCast_mul, cut64]
theorem cut64a (a c : Nat) : IntKind.u64.wrap ((a : Int) + (c : Int)) = (((a + c) % 18446744073709551616 : Nat) : Int) := by rw [← Int.natCast_add, cut64]
theorem xs30 {x : Nat} (h : x < 18446744073709551616) : bits .xor .u64 (x : Int) ((x : Int) / 1073741824) = (Pm.xs 30 x : Nat) := u64_xor_nat x (x / 1073741824) h (Pm.div_lt (k := 30) h)
theorem xs27 {x : Nat} (h : x < 18446744073709551616) : bits .xor .u64 (x : Int) ((x : Int) / 134217728) = (Pm.xs 27 x : Nat) := u64_xor_nat x (x / 134217728) h (Pm.div_lt (k := 27) h)
theorem xs31 {x : Nat} (h : x < 18446744073709551616) : bits .xor .u64 (x : Int) ((x : Int) / 2147483648) = (Pm.xs 31 x : Nat) := u64_xor_nat x (x / 2147483648) h (Pm.div_lt (k := 31) h)
/-- A stirred word, in the walk's words. -/
def mixI (x : Int) : Int :=
  bits .xor .u64 (IntKind.u64.wrap (bits .xor .u64 (IntKind.u64.wrap (bits .xor .u64 x (x / 1073741824) * 13787848793156543929)) (IntKind.u64.wrap (bits .xor .u64 x (x / 1073741824) * 13787848793156543929) / 134217728) * 10723151780598845931))
    (IntKind.u64.wrap (bits .xor .u64 (IntKind.u64.wrap (bits .xor .u64 x (x / 1073741824) * 13787848793156543929)) (IntKind.u64.wrap (bits .xor .u64 x (x / 1073741824) * 13787848793156543929) / 134217728) * 10723151780598845931) / 2147483648)
theorem mixI_nat {x : Nat} (h : x < 18446744073709551616) : mixI x = (Pm.mixN x : Nat) := by
  unfold mixI Pm.mixN
  rw [xs30 h, show ((Pm.xs 30 x : Nat) : Int) * 13787848793156543929 = ((Pm.xs 30 x : Nat) : Int) * ((13787848793156543929 : Nat) : Int) from rfl, cut64m, xs27 (Pm.mod_lt64 _)]
  rw [show ((Pm.xs 27 (Pm.xs 30 x * 13787848793156543929 % 18446744073709551616) : Nat) : Int) * 10723151780598845931 = ((Pm.xs 27 (Pm.xs 30 x * 13787848793156543929 % 18446744073709551616) : Nat) : Int) * ((10723151780598845931 : Nat) : Int) from rfl, cut64m, xs31 (Pm.mod_lt64 _)]
theorem mixI_any (x : Int) (w : World) :
    Calls Try.prog 34 #[.int .u64 x] w fun e w' => e = .returned (.int .u64 (mixI x)) ∧ w = w' := by
  go_enter Try.func34, Try.ntmps34
  go_wp2
  go_ret
  exact ⟨rfl, rfl⟩
theorem mix_any {x : Nat} (hx : x < 18446744073709551616) (w : World) :
    Calls Try.prog 34 #[.int .u64 x] w fun e w' => e = .returned (.int .u64 (Pm.mixN x : Nat)) ∧ w = w' := by
  rw [← mixI_nat hx]; exact mixI_any _ w
theorem rmixI_any (x : Int) (w : World) :
    Calls Try.prog 28 #[.int .u64 x] w fun e w' => e = .returned (.int .u64 (mixI x)) ∧ w = w' := by
  go_enter Try.func28, Try.ntmps28
  go_wp2
  go_ret
  exact ⟨rfl, rfl⟩
theorem rmix_any {x : Nat} (hx : x < 18446744073709551616) (w : World) :
    Calls Try.prog 28 #[.int .u64 x] w fun e w' => e = .returned (.int .u64 (Pm.mixN x : Nat)) ∧ w = w' := by
  rw [← mixI_nat hx]; exact rmixI_any _ w
def rndI (key r v : Int) : Int := mixI (IntKind.u64.wrap (IntKind.u64.wrap (key + IntKind.u64.wrap (v * 11400714819323198485)) + IntKind.u64.wrap (r * 15111065706836454659))) / 1048576
theorem rndI_nat (key r v : Nat) : rndI key r v = (Pm.rndN key r v : Nat) := by
  unfold rndI Pm.rndN
  rw [show (v : Int) * 11400714819323198485 = (v : Int) * ((11400714819323198485 : Nat) : Int) from rfl, cut64m, cut64a, show (r : Int) * 15111065706836454659 = (r : Int) * ((15111065706836454659 : Nat) : Int) from rfl, cut64m, cut64a, mixI_nat (Pm.mod_lt64 _)]
  rfl
theorem rndI_any (key r v : Int) (w : World) :
    Calls Try.prog 33 #[.int .u64 key, .int .u64 r, .int .u64 v] w fun e w' => e = .returned (.int .u64 (rndI key r v)) ∧ w = w' := by
  go_enter Try.func33, Try.ntmps33
  go_wp2_with (go_at_call 34; refine (mixI_any _ _).mono ?_; rintro e w' ⟨rfl, rfl⟩)
  go_ret
  exact ⟨rfl, rfl⟩
theorem rnd_any (key r v : Nat) (w : World) :
    Calls Try.prog 33 #[.int .u64 key, .int .u64 r, .int .u64 v] w fun e w' => e = .returned (.int .u64 (Pm.rndN key r v : Nat)) ∧ w = w' := by
  rw [← rndI_nat]; exact rndI_any _ _ _ w
theorem rrndI_any (key r v : Int) (w : World) :
    Calls Try.prog 23 #[.int .u64 key, .int .u64 r, .int .u64 v] w fun e w' => e = .returned (.int .u64 (rndI key r v)) ∧ w = w' := by
  go_enter Try.func23, Try.ntmps23
  go_wp2_with (go_at_call 28; refine (rmixI_any _ _).mono ?_; rintro e w' ⟨rfl, rfl⟩)
  go_ret
  exact ⟨rfl, rfl⟩
theorem rrnd_any (key r v : Nat) (w : World) :
    Calls Try.prog 23 #[.int .u64 key, .int .u64 r, .int .u64 v] w fun e w' => e = .returned (.int .u64 (Pm.rndN key r v : Nat)) ∧ w = w' := by
  rw [← rndI_nat]; exact rrndI_any _ _ _ w
theorem rndN_lt (key r v : Nat) : Pm.rndN key r v < 18446744073709551616 := Nat.lt_of_le_of_lt (Nat.div_le_self _ _) (Pm.mixN_lt _)

theorem low_at {x k : Nat} (hx : x < 18446744073709551616) (hk : k < 64) : bits .and .u64 (x : Int) (IntKind.u64.wrap (IntKind.u64.wrap (2 ^ k) - 1)) = ((x % 2 ^ k : Nat) : Int) := by
  have h1 : 2 ^ k < 18446744073709551616 := Nat.pow_lt_pow_right (a := 2) (n := 64) (by omega) hk
  have h0 : 1 ≤ 2 ^ k := Nat.one_le_two_pow
  rw [show (2 : Int) ^ k = ((2 ^ k : Nat) : Int) by simp, cut64, Nat.mod_eq_of_lt h1, show ((2 ^ k : Nat) : Int) - 1 = ((2 ^ k - 1 : Nat) : Int) by omega, cut64, Nat.mod_eq_of_lt (by omega), u64_and_nat _ _ hx (by omega), Nat.and_two_pow_sub_one_eq_mod]
theorem lowest_any {y : Int} (x k : Nat) (e : y = x) (hx : x < 18446744073709551616) (hk : k < 64) (w : World) :
    Calls Try.prog 31 #[.int .u64 y, .int .i64 k] w fun e w' => e = .returned (.int .u64 (x % 2 ^ k : Nat)) ∧ w = w' := by
  subst e
  go_enter Try.func31, Try.ntmps31
  go_wp2
  go_ret
  exact ⟨congrArg (fun v => Ending.returned (Value.int .u64 v)) (low_at hx hk), rfl⟩
theorem low31 (x : Nat) {y : Int} (e : y = x) (hx : x < 18446744073709551616) (w : World) :
    Calls Try.prog 31 #[.int .u64 y, .int .i64 31] w fun e w' => e = .returned (.int .u64 (x % 2147483648 : Nat)) ∧ w = w' := lowest_any x 31 e hx (by omega) w
theorem low30 (x : Nat) {y : Int} (e : y = x) (hx : x < 18446744073709551616) (w : World) :
    Calls Try.prog 31 #[.int .u64 y, .int .i64 30] w fun e w' => e = .returned (.int .u64 (x % 1073741824 : Nat)) ∧ w = w' := lowest_any x 30 e hx (by omega) w
theorem whole_any {a b : Nat} (h : Pm.Dom (a, b)) (w : World) :
    Calls Try.prog 27 #[.agg #[.int .u64 a, .int .u64 b]] w fun e w' => e = .returned (.int .u64 (Pm.joinN (a, b) : Nat)) ∧ Below w.heap.size w w' := by
  have ha : a < 2147483648 := h.1
  have hb : b < 1073741824 := h.2
  go_enter Try.func27, Try.ntmps27
  go_wp2
  go_ret
  exact ⟨rfl, (Below.refl _ w).alloc (Nat.le_refl _) _⟩
theorem low31d {n : Nat} (hn : n < 18446744073709551616) (w : World) :
    Calls Try.prog 31 #[.int .u64 ((n : Int) / 1073741824), .int .i64 31] w fun e w' => e = .returned (.int .u64 ((Pm.splitN n).1 : Nat)) ∧ w = w' := low31 (n / 1073741824) rfl (Pm.div_lt (k := 30) hn) w
theorem low30d {n : Nat} (hn : n < 18446744073709551616) (w : World) :
    Calls Try.prog 31 #[.int .u64 (n : Int), .int .i64 30] w fun e w' => e = .returned (.int .u64 ((Pm.splitN n).2 : Nat)) ∧ w = w' := low30 n rfl hn w
theorem part_any {n : Nat} (hn : n < 18446744073709551616) (w : World) :
    Calls Try.prog 26 #[.int .u64 n] w fun e w' => e = .returned (.agg #[.int .u64 ((Pm.splitN n).1 : Nat), .int .u64 ((Pm.splitN n).2 : Nat)]) ∧ Below w.heap.size w w' := by
  go_enter Try.func26, Try.ntmps26
  go_wp2_with (first | (go_at_call 31; with_reducible refine (low31d hn _).mono ?_; rintro e w' ⟨rfl, rfl⟩) | (go_at_call 31; with_reducible refine (low30d hn _).mono ?_; rintro e w' ⟨rfl, rfl⟩))
  refine bodyPost_ret (v := .agg #[.int .u64 ((Pm.splitN n).1 : Nat), .int .u64 ((Pm.splitN n).2 : Nat)]) (by simp [results, Try.f26, go_sem]) rfl ?_
  exact ⟨rfl, (Below.refl _ w).alloc (Nat.le_refl _) _⟩
def r31 (key r v : Nat) : Nat := Pm.rndN key r v % 2147483648
def r30 (key r v : Nat) : Nat := Pm.rndN key r v % 1073741824
theorem low31r (key r v : Nat) (w : World) :
    Calls Try.prog 31 #[.int .u64 ((Pm.rndN key r v : Nat) : Int), .int .i64 31] w fun e w' => e = .returned (.int .u64 (r31 key r v : Nat)) ∧ w = w' := low31 _ rfl (rndN_lt _ _ _) w
theorem low30r (key r v : Nat) (w : World) :
    Calls Try.prog 31 #[.int .u64 ((Pm.rndN key r v : Nat) : Int), .int .i64 30] w fun e w' => e = .returned (.int .u64 (r30 key r v : Nat)) ∧ w = w' := low30 _ rfl (rndN_lt _ _ _) w
theorem xor64 {a b : Nat} (ha : a < 18446744073709551616) (hb : b < 18446744073709551616) : bits .xor .u64 (a : Int) (b : Int) = ((a ^^^ b : Nat) : Int) := u64_xor_nat a b ha hb
theorem trn_even {key r a b : Nat} (h : r % 2 = 0) (ha : a < 2147483648) : bits .xor .u64 (a : Int) (r31 key r b : Nat) = ((Pm.trnN key r (a, b)).1 : Nat) := by
  unfold r31; rw [xor64 (by omega) (by omega)]; simp [Pm.trnN, h]
theorem trn_even2 {key r a b : Nat} (h : r % 2 = 0) : b = (Pm.trnN key r (a, b)).2 := by simp [Pm.trnN, h]
theorem trn_odd {key r a b : Nat} (h : ¬ r % 2 = 0) (hb : b < 1073741824) : bits .xor .u64 (b : Int) (r30 key r a : Nat) = ((Pm.trnN key r (a, b)).2 : Nat) := by
  unfold r30; rw [xor64 (by omega) (by omega)]; simp [Pm.trnN, h]
theorem trn_odd2 {key r a b : Nat} (h : ¬ r % 2 = 0) : a = (Pm.trnN key r (a, b)).1 := by simp [Pm.trnN, h]
set_option maxHeartbeats 2000000 in
theorem turn_any {key r a b : Nat} (h : Pm.Dom (a, b)) (w : World) :
    Calls Try.prog 30 #[.int .u64 key, .int .u64 r, .agg #[.int .u64 a, .int .u64 b]] w fun e w' => e = .returned (.agg #[.int .u64 ((Pm.trnN key r (a, b)).1 : Nat), .int .u64 ((Pm.trnN key r (a, b)).2 : Nat)]) ∧ Below w.heap.size w w' := by
  have ha : a < 2147483648 := h.1
  have hb : b < 1073741824 := h.2
  by_cases hq : r % 2 = 0
  · have hq' : ((r : Int) % 2 == 0) = true := by rw [beq_iff_eq]; omega
    have e1 := trn_even (key := key) (b := b) hq ha
    have e2 : Hid (b = (Pm.trnN key r (a, b)).2) := trn_even2 (key := key) (a := a) (b := b) hq
    obtain ⟨z, hz⟩ : ∃ z, Pm.trnN key r (a, b) = z := ⟨_, rfl⟩
    rw [hz] at e1 e2 ⊢
    clear hz
    go_enter Try.func30, Try.ntmps30
    go_wp2
    go_region_with (first | (go_at_call 33; refine (rnd_any _ _ _ _).mono ?_; rintro e w' ⟨rfl, rfl⟩) | (go_at_call 31; with_reducible refine (low31r _ _ _ _).mono ?_; rintro e w' ⟨rfl, rfl⟩))
    all_goals (
      go_wp2
      refine bodyPost_ret (v := .agg #[.int .u64 (z.1 : Nat), .int .u64 (z.2 : Nat)]) (by rw [← e2.out]; simp [results, Try.f30, go_sem]) rfl ?_
      exact ⟨rfl, (((Below.refl _ w).alloc (Nat.le_refl _) _).alloc (by simp) _).drew⟩)
  · have hq' : ((r : Int) % 2 == 0) = false := by rw [beq_eq_false_iff_ne]; omega
    have e1 := trn_odd (key := key) (a := a) hq hb
    have e2 : Hid (a = (Pm.trnN key r (a, b)).1) := trn_odd2 (key := key) (a := a) (b := b) hq
    obtain ⟨z, hz⟩ : ∃ z, Pm.trnN key r (a, b) = z := ⟨_, rfl⟩
    rw [hz] at e1 e2 ⊢
    clear hz
    go_enter Try.func30, Try.ntmps30
    go_wp2
    go_region_with (first | (go_at_call 33; refine (rnd_any _ _ _ _).mono ?_; rintro e w' ⟨rfl, rfl⟩) | (go_at_call 31; with_reducible refine (low30r _ _ _ _).mono ?_; rintro e w' ⟨rfl, rfl⟩))
    all_goals (
      go_wp2
      refine bodyPost_ret (v := .agg #[.int .u64 (z.1 : Nat), .int .u64 (z.2 : Nat)]) (by rw [← e2.out]; simp [results, Try.f30, go_sem]) rfl ?_
      exact ⟨rfl, (((Below.refl _ w).alloc (Nat.le_refl _) _).alloc (by simp) _).drew⟩)
end Go.Proofs.Ytjgdafpciilfeaa
