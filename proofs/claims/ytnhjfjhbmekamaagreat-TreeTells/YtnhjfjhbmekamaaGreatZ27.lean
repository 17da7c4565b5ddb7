/-
 PROVED HERE: plain facts on natural numbers (no Go text): a word that is stirred is stirred back, halves go through rounds . What is asked stands at each.
-/
import Derived.WalkKit
import Derived.Test.YtnhjfjhbmekamaaGreatRows
import Derived.ProofKit
import Derived.OpenShut
import Derived.Below
import Derived.Laws.BitsAllLaws
import Derived.Deep.RegionWith
import Derived.RangeFuncNested
import Derived.RangeFuncBound
import Derived.RangeFuncCalls
import Derived.RangeFuncLeaves
import Derived.Shelf.Abstract
import Derived.Shelf.RegionOpen
import Derived.OwnWalkIn
import Derived.TacticsInMore
import Derived.LoopNIn
import Derived.LoopIn
import Derived.RegionIn
import Derived.WalkSmall
import Derived.RegionTactic
import Derived.ChangeAlike
import Derived.Deep.RegionHeld3
import Derived.Deep.DeepCutAuto
import Derived.Deep.QuietTactic
import Derived.BigQuiet
import Derived.Test.YtnhjfjhbmekamaaGreatZ25
import Derived.Test.YtnhjfjhbmekamaaGreatZ26
namespace Go.Proofs.YtnhjfjhbmekamaaGreat.Pm
set_option maxRecDepth 100000
set_option maxHeartbeats 8000000
set_option linter.unusedVariables false

def xs (k x : Nat) : Nat := x ^^^ (x / 2 ^ k)
def mixN (x : Nat) : Nat := xs 31 (xs 27 (xs 30 x * 13787848793156543929 % 18446744073709551616) * 10723151780598845931 % 18446744073709551616)

theorem div_lt {x k : Nat} (h : x < 18446744073709551616) : x / 2 ^ k < 18446744073709551616 := Nat.lt_of_le_of_lt (Nat.div_le_self _ _) h
theorem xor_lt {x y : Nat} (h : x < 18446744073709551616) (k : y < 18446744073709551616) : x ^^^ y < 18446744073709551616 := Nat.xor_lt_two_pow (n := 64) h k
theorem xs_lt {k x : Nat} (h : x < 18446744073709551616) : xs k x < 18446744073709551616 := xor_lt h (div_lt h)
theorem mixN_lt (x : Nat) : mixN x < 18446744073709551616 := xs_lt (Nat.mod_lt _ (by omega))
theorem mod_lt64 (x : Nat) : x % 18446744073709551616 < 18446744073709551616 := Nat.mod_lt _ (by decide)
def rndN (key r v : Nat) : Nat := mixN (((key + v * 11400714819323198485 % 18446744073709551616) % 18446744073709551616 + r * 15111065706836454659 % 18446744073709551616) % 18446744073709551616) / 1048576
def trnN (key r : Nat) (p : Nat × Nat) : Nat × Nat := if r % 2 = 0 then (p.1 ^^^ rndN key r p.2 % 2147483648, p.2) else (p.1, p.2 ^^^ rndN key r p.1 % 1073741824)
def Dom (p : Nat × Nat) : Prop := p.1 < 2147483648 ∧ p.2 < 1073741824
theorem trn_dom {key r : Nat} {p : Nat × Nat} (h : Dom p) : Dom (trnN key r p) := by
 unfold trnN
 split
 ·exact ⟨Nat.xor_lt_two_pow (n := 31) h.1 (Nat.mod_lt _ (by omega)), h.2⟩
 ·exact ⟨h.1, Nat.xor_lt_two_pow (n := 30) h.2 (Nat.mod_lt _ (by omega))⟩
def goes (key : Nat) (rs : List Nat) (p : Nat × Nat) : Nat × Nat := rs.foldl (fun q r => trnN key r q) p
theorem goes_snoc (key : Nat) (rs : List Nat) (r : Nat) (p : Nat × Nat) : goes key (rs ++ [r]) p = trnN key r (goes key rs p) := by simp [goes]
theorem goes_dom {key : Nat} {rs : List Nat} {p : Nat × Nat} (h : Dom p) : Dom (goes key rs p) := by
 induction rs generalizing p with
 | nil => exact h
 | cons r rs ih => exact ih (trn_dom h)
def rs (back : Bool) : List Nat := if back then [7, 6, 5, 4, 3, 2, 1, 0] else [0, 1, 2, 3, 4, 5, 6, 7]
def splitN (n : Nat) : Nat × Nat := (n / 1073741824 % 2147483648, n % 1073741824)
def joinN (p : Nat × Nat) : Nat := p.1 * 1073741824 + p.2
theorem split_dom (n : Nat) : Dom (splitN n) := ⟨Nat.mod_lt _ (by omega), Nat.mod_lt _ (by omega)⟩
theorem join_lt {p : Nat × Nat} (h : Dom p) : joinN p < 2305843009213693952 := by
 obtain ⟨h1, h2⟩ := h
 simp only [joinN]; omega
def numN (key m : Nat) : Nat := joinN (goes key (rs true) (splitN ((m + 18446744073709551615) % 18446744073709551616)))
end Go.Proofs.YtnhjfjhbmekamaaGreat.Pm
namespace Go.Proofs.YtnhjfjhbmekamaaGreat.SrM
set_option maxRecDepth 100000
set_option maxHeartbeats 8000000
open Go.ChangeShapes Go.WideShapes Go.ChangeAt Go.RowKit
set_option linter.unusedVariables false

theorem cut64 (a : Nat) : IntKind.u64.wrap (a : Int) = ((a % 18446744073709551616 : Nat) : Int) := by simp [IntKind.wrap, IntKind.bits, IntKind.signed]
theorem cut64m (a c : Nat) : IntKind.u64.wrap ((a : Int) * (c : Int)) = ((a * c % 18446744073709551616 : Nat) : Int) := by rw [← Int.natCast_mul, cut64]
theorem cut64a (a c : Nat) : IntKind.u64.wrap ((a : Int) + (c : Int)) = (((a + c) % 18446744073709551616 : Nat) : Int) := by rw [← Int.natCast_add, cut64]
theorem xs30 {x : Nat} (h : x < 18446744073709551616) : bits .xor .u64 (x : Int) ((x : Int) / 1073741824) = (Pm.xs 30 x : Nat) := u64_xor_nat x (x / 1073741824) h (Pm.div_lt (k := 30) h)
theorem xs27 {x : Nat} (h : x < 18446744073709551616) : bits .xor .u64 (x : Int) ((x : Int) / 134217728) = (Pm.xs 27 x : Nat) := u64_xor_nat x (x / 134217728) h (Pm.div_lt (k := 27) h)
theorem xs31 {x : Nat} (h : x < 18446744073709551616) : bits .xor .u64 (x : Int) ((x : Int) / 2147483648) = (Pm.xs 31 x : Nat) := u64_xor_nat x (x / 2147483648) h (Pm.div_lt (k := 31) h)
def mixI (x : Int) : Int :=
 bits .xor .u64 (IntKind.u64.wrap (bits .xor .u64 (IntKind.u64.wrap (bits .xor .u64 x (x / 1073741824) * 13787848793156543929)) (IntKind.u64.wrap (bits .xor .u64 x (x / 1073741824) * 13787848793156543929) / 134217728) * 10723151780598845931))
  (IntKind.u64.wrap (bits .xor .u64 (IntKind.u64.wrap (bits .xor .u64 x (x / 1073741824) * 13787848793156543929)) (IntKind.u64.wrap (bits .xor .u64 x (x / 1073741824) * 13787848793156543929) / 134217728) * 10723151780598845931) / 2147483648)
theorem mixI_nat {x : Nat} (h : x < 18446744073709551616) : mixI x = (Pm.mixN x : Nat) := by
 unfold mixI Pm.mixN
 rw [xs30 h, show ((Pm.xs 30 x : Nat) : Int) * 13787848793156543929 = ((Pm.xs 30 x : Nat) : Int) * ((13787848793156543929 : Nat) : Int) from rfl, cut64m, xs27 (Pm.mod_lt64 _)]
 rw [show ((Pm.xs 27 (Pm.xs 30 x * 13787848793156543929 % 18446744073709551616) : Nat) : Int) * 10723151780598845931 = ((Pm.xs 27 (Pm.xs 30 x * 13787848793156543929 % 18446744073709551616) : Nat) : Int) * ((10723151780598845931 : Nat) : Int) from rfl, cut64m, xs31 (Pm.mod_lt64 _)]
theorem mixI_any (x : Int) (w : World) :
  Calls Tryz.prog 198 #[.int .u64 x] w fun e w' => e = .returned (.int .u64 (mixI x)) ∧ w = w' := by
 go_enter Tryz.func198, Tryz.ntmps198
 go_wp2
 go_ret
 exact ⟨rfl, rfl⟩
theorem rmixI_any (x : Int) (w : World) :
  Calls Tryz.prog 164 #[.int .u64 x] w fun e w' => e = .returned (.int .u64 (mixI x)) ∧ w = w' := by
 go_enter Tryz.func164, Tryz.ntmps164
 go_wp2
 go_ret
 exact ⟨rfl, rfl⟩
def rndI (key r v : Int) : Int := mixI (IntKind.u64.wrap (IntKind.u64.wrap (key + IntKind.u64.wrap (v * 11400714819323198485)) + IntKind.u64.wrap (r * 15111065706836454659))) / 1048576
theorem rndI_nat (key r v : Nat) : rndI key r v = (Pm.rndN key r v : Nat) := by
 unfold rndI Pm.rndN
 rw [show (v : Int) * 11400714819323198485 = (v : Int) * ((11400714819323198485 : Nat) : Int) from rfl, cut64m, cut64a, show (r : Int) * 15111065706836454659 = (r : Int) * ((15111065706836454659 : Nat) : Int) from rfl, cut64m, cut64a, mixI_nat (Pm.mod_lt64 _)]
 rfl
theorem rndI_any (key r v : Int) (w : World) :
  Calls Tryz.prog 197 #[.int .u64 key, .int .u64 r, .int .u64 v] w fun e w' => e = .returned (.int .u64 (rndI key r v)) ∧ w = w' := by
 go_enter Tryz.func197, Tryz.ntmps197
 go_wp2_with (go_at_call 198; refine (mixI_any _ _).mono ?_; rintro e w' ⟨rfl, rfl⟩)
 go_ret
 exact ⟨rfl, rfl⟩
theorem rnd_any (key r v : Nat) (w : World) :
  Calls Tryz.prog 197 #[.int .u64 key, .int .u64 r, .int .u64 v] w fun e w' => e = .returned (.int .u64 (Pm.rndN key r v : Nat)) ∧ w = w' := by
 rw [← rndI_nat]; exact rndI_any _ _ _ w
theorem rrndI_any (key r v : Int) (w : World) :
  Calls Tryz.prog 128 #[.int .u64 key, .int .u64 r, .int .u64 v] w fun e w' => e = .returned (.int .u64 (rndI key r v)) ∧ w = w' := by
 go_enter Tryz.func128, Tryz.ntmps128
 go_wp2_with (go_at_call 164; refine (rmixI_any _ _).mono ?_; rintro e w' ⟨rfl, rfl⟩)
 go_ret
 exact ⟨rfl, rfl⟩
theorem rrnd_any (key r v : Nat) (w : World) :
  Calls Tryz.prog 128 #[.int .u64 key, .int .u64 r, .int .u64 v] w fun e w' => e = .returned (.int .u64 (Pm.rndN key r v : Nat)) ∧ w = w' := by
 rw [← rndI_nat]; exact rrndI_any _ _ _ w
theorem rndN_lt (key r v : Nat) : Pm.rndN key r v < 18446744073709551616 := Nat.lt_of_le_of_lt (Nat.div_le_self _ _) (Pm.mixN_lt _)

theorem low_at {x k : Nat} (hx : x < 18446744073709551616) (hk : k < 64) : bits .and .u64 (x : Int) (IntKind.u64.wrap (IntKind.u64.wrap (2 ^ k) - 1)) = ((x % 2 ^ k : Nat) : Int) := by
 have h1 : 2 ^ k < 18446744073709551616 := Nat.pow_lt_pow_right (a := 2) (n := 64) (by omega) hk
 have h0 : 1 ≤ 2 ^ k := Nat.one_le_two_pow
 rw [show (2 : Int) ^ k = ((2 ^ k : Nat) : Int) by simp, cut64, Nat.mod_eq_of_lt h1, show ((2 ^ k : Nat) : Int) - 1 = ((2 ^ k - 1 : Nat) : Int) by omega, cut64, Nat.mod_eq_of_lt (by omega), u64_and_nat _ _ hx (by omega), Nat.and_two_pow_sub_one_eq_mod]
theorem lowest_any {y : Int} (x k : Nat) (e : y = x) (hx : x < 18446744073709551616) (hk : k < 64) (w : World) :
  Calls Tryz.prog 192 #[.int .u64 y, .int .i64 k] w fun e w' => e = .returned (.int .u64 (x % 2 ^ k : Nat)) ∧ w = w' := by
 subst e
 go_enter Tryz.func192, Tryz.ntmps192
 go_wp2
 go_ret
 exact ⟨congrArg (fun v => Ending.returned (Value.int .u64 v)) (low_at hx hk), rfl⟩
theorem low31 (x : Nat) {y : Int} (e : y = x) (hx : x < 18446744073709551616) (w : World) :
  Calls Tryz.prog 192 #[.int .u64 y, .int .i64 31] w fun e w' => e = .returned (.int .u64 (x % 2147483648 : Nat)) ∧ w = w' := lowest_any x 31 e hx (by omega) w
theorem low30 (x : Nat) {y : Int} (e : y = x) (hx : x < 18446744073709551616) (w : World) :
  Calls Tryz.prog 192 #[.int .u64 y, .int .i64 30] w fun e w' => e = .returned (.int .u64 (x % 1073741824 : Nat)) ∧ w = w' := lowest_any x 30 e hx (by omega) w
theorem whole_any {a b : Nat} (h : Pm.Dom (a, b)) (w : World) :
  Calls Tryz.prog 178 #[.agg #[.int .u64 a, .int .u64 b]] w fun e w' => e = .returned (.int .u64 (Pm.joinN (a, b) : Nat)) ∧ Below w.heap.size w w' := by
 have ha : a < 2147483648 := h.1
 have hb : b < 1073741824 := h.2
 go_enter Tryz.func178, Tryz.ntmps178
 go_wp2
 go_ret
 exact ⟨rfl, (Below.refl _ w).alloc (Nat.le_refl _) _⟩
theorem low31d {n : Nat} (hn : n < 18446744073709551616) (w : World) :
  Calls Tryz.prog 192 #[.int .u64 ((n : Int) / 1073741824), .int .i64 31] w fun e w' => e = .returned (.int .u64 ((Pm.splitN n).1 : Nat)) ∧ w = w' := low31 (n / 1073741824) rfl (Pm.div_lt (k := 30) hn) w
theorem low30d {n : Nat} (hn : n < 18446744073709551616) (w : World) :
  Calls Tryz.prog 192 #[.int .u64 (n : Int), .int .i64 30] w fun e w' => e = .returned (.int .u64 ((Pm.splitN n).2 : Nat)) ∧ w = w' := low30 n rfl hn w
theorem part_any {n : Nat} (hn : n < 18446744073709551616) (w : World) :
  Calls Tryz.prog 177 #[.int .u64 n] w fun e w' => e = .returned (.agg #[.int .u64 ((Pm.splitN n).1 : Nat), .int .u64 ((Pm.splitN n).2 : Nat)]) ∧ Below w.heap.size w w' := by
 go_enter Tryz.func177, Tryz.ntmps177
 go_wp2_with (first | (go_at_call 192; with_reducible refine (low31d hn _).mono ?_; rintro e w' ⟨rfl, rfl⟩) | (go_at_call 192; with_reducible refine (low30d hn _).mono ?_; rintro e w' ⟨rfl, rfl⟩))
 refine bodyPost_ret (v := .agg #[.int .u64 ((Pm.splitN n).1 : Nat), .int .u64 ((Pm.splitN n).2 : Nat)]) (by simp [results, Tryz.f177, go_sem]) rfl ?_
 exact ⟨rfl, (Below.refl _ w).alloc (Nat.le_refl _) _⟩
def r31 (key r v : Nat) : Nat := Pm.rndN key r v % 2147483648
def r30 (key r v : Nat) : Nat := Pm.rndN key r v % 1073741824
theorem low31r (key r v : Nat) (w : World) :
  Calls Tryz.prog 192 #[.int .u64 ((Pm.rndN key r v : Nat) : Int), .int .i64 31] w fun e w' => e = .returned (.int .u64 (r31 key r v : Nat)) ∧ w = w' := low31 _ rfl (rndN_lt _ _ _) w
theorem low30r (key r v : Nat) (w : World) :
  Calls Tryz.prog 192 #[.int .u64 ((Pm.rndN key r v : Nat) : Int), .int .i64 30] w fun e w' => e = .returned (.int .u64 (r30 key r v : Nat)) ∧ w = w' := low30 _ rfl (rndN_lt _ _ _) w
theorem xor64 {a b : Nat} (ha : a < 18446744073709551616) (hb : b < 18446744073709551616) : bits .xor .u64 (a : Int) (b : Int) = ((a ^^^ b : Nat) : Int) := u64_xor_nat a b ha hb
theorem trn_even {key r a b : Nat} (h : r % 2 = 0) (ha : a < 2147483648) : bits .xor .u64 (a : Int) (r31 key r b : Nat) = ((Pm.trnN key r (a, b)).1 : Nat) := by
 unfold r31; rw [xor64 (by omega) (by omega)]; simp [Pm.trnN, h]
theorem trn_even2 {key r a b : Nat} (h : r % 2 = 0) : b = (Pm.trnN key r (a, b)).2 := by simp [Pm.trnN, h]
theorem trn_odd {key r a b : Nat} (h : ¬ r % 2 = 0) (hb : b < 1073741824) : bits .xor .u64 (b : Int) (r30 key r a : Nat) = ((Pm.trnN key r (a, b)).2 : Nat) := by
 unfold r30; rw [xor64 (by omega) (by omega)]; simp [Pm.trnN, h]
theorem trn_odd2 {key r a b : Nat} (h : ¬ r % 2 = 0) : a = (Pm.trnN key r (a, b)).1 := by simp [Pm.trnN, h]
theorem turn_any {key r a b : Nat} (h : Pm.Dom (a, b)) (w : World) :
  Calls Tryz.prog 191 #[.int .u64 key, .int .u64 r, .agg #[.int .u64 a, .int .u64 b]] w fun e w' => e = .returned (.agg #[.int .u64 ((Pm.trnN key r (a, b)).1 : Nat), .int .u64 ((Pm.trnN key r (a, b)).2 : Nat)]) ∧ Below w.heap.size w w' := by
 have ha : a < 2147483648 := h.1
 have hb : b < 1073741824 := h.2
 by_cases hq : r % 2 = 0
 ·have hq' : ((r : Int) % 2 == 0) = true := by rw [beq_iff_eq]; omega
  have e1 := trn_even (key := key) (b := b) hq ha
  have e2 : Hid (b = (Pm.trnN key r (a, b)).2) := trn_even2 (key := key) (a := a) (b := b) hq
  obtain ⟨z, hz⟩ : ∃ z, Pm.trnN key r (a, b) = z := ⟨_, rfl⟩
  rw [hz] at e1 e2 ⊢
  clear hz
  go_enter Tryz.func191, Tryz.ntmps191
  go_wp2
  go_region_with (first | (go_at_call 197; refine (rnd_any _ _ _ _).mono ?_; rintro e w' ⟨rfl, rfl⟩) | (go_at_call 192; with_reducible refine (low31r _ _ _ _).mono ?_; rintro e w' ⟨rfl, rfl⟩))
  all_goals (
   go_wp2
   refine bodyPost_ret (v := .agg #[.int .u64 (z.1 : Nat), .int .u64 (z.2 : Nat)]) (by rw [← e2.out]; simp [results, Tryz.f191, go_sem]) rfl ?_
   exact ⟨rfl, (((Below.refl _ w).alloc (Nat.le_refl _) _).alloc (by simp) _).drew⟩)
 ·have hq' : ((r : Int) % 2 == 0) = false := by rw [beq_eq_false_iff_ne]; omega
  have e1 := trn_odd (key := key) (a := a) hq hb
  have e2 : Hid (a = (Pm.trnN key r (a, b)).1) := trn_odd2 (key := key) (a := a) (b := b) hq
  obtain ⟨z, hz⟩ : ∃ z, Pm.trnN key r (a, b) = z := ⟨_, rfl⟩
  rw [hz] at e1 e2 ⊢
  clear hz
  go_enter Tryz.func191, Tryz.ntmps191
  go_wp2
  go_region_with (first | (go_at_call 197; refine (rnd_any _ _ _ _).mono ?_; rintro e w' ⟨rfl, rfl⟩) | (go_at_call 192; with_reducible refine (low30r _ _ _ _).mono ?_; rintro e w' ⟨rfl, rfl⟩))
  all_goals (
   go_wp2
   refine bodyPost_ret (v := .agg #[.int .u64 (z.1 : Nat), .int .u64 (z.2 : Nat)]) (by rw [← e2.out]; simp [results, Tryz.f191, go_sem]) rfl ?_
   exact ⟨rfl, (((Below.refl _ w).alloc (Nat.le_refl _) _).alloc (by simp) _).drew⟩)
end Go.Proofs.YtnhjfjhbmekamaaGreat.SrM
namespace Go.Proofs.YtnhjfjhbmekamaaGreat.SrM
set_option maxRecDepth 100000
set_option maxHeartbeats 8000000
open Go.RowKit Go.Shelf
set_option linter.unusedVariables false
attribute [local go_sem] Oper.semAt_some

def rsAt (back : Bool) (k : Nat) : Nat := if back then 7 - k else k
def rsK (back : Bool) (k : Nat) : List Nat := (List.range k).map (rsAt back)
theorem rsK_succ (b : Bool) (k : Nat) : rsK b (k + 1) = rsK b k ++ [rsAt b k] := by simp [rsK, List.range_succ]
theorem rsK_8 (b : Bool) : rsK b 8 = Pm.rs b := by cases b <;> rfl
theorem rsK_pre (b : Bool) {j k : Nat} (h : j ≤ k) : rsK b j <+: rsK b k := by
  induction k with
  | zero => have : j = 0 := by omega
            subst this; exact List.prefix_refl _
  | succ k ih =>
    by_cases hj : j = k + 1
    · subst hj; exact List.prefix_refl _
    · exact (ih (by omega)).trans (by rw [rsK_succ]; exact List.prefix_append _ _)
theorem rsK_len (b : Bool) (k : Nat) : (rsK b k).length = k := by simp [rsK]
def Keeps (D : Nat → Prop) (W W' : World) : Prop := W.heap.size ≤ W'.heap.size ∧ ∀ b, D b → W'.heap[b]? = W.heap[b]?
theorem Keeps.refl (D : Nat → Prop) (W : World) : Keeps D W W := ⟨Nat.le_refl _, fun _ _ => rfl⟩
theorem Keeps.trans {D : Nat → Prop} {A B C : World} (h : Keeps D A B) (k : Keeps D B C) : Keeps D A C := ⟨Nat.le_trans h.1 k.1, fun b hb => (k.2 b hb).trans (h.2 b hb)⟩
theorem keepsK_b {D : Nat → Prop} {w : World} (hD : ∀ b, D b → b < w.heap.size) (W : World) (l : Nat) (o o' : Obj) (hl : w.heap.size ≤ l) (h : W.heap[l]? = some o) (_ : o.isCells = false) (_ : o.isWalk = false) : Keeps D W (W.putObj l o') :=
 ⟨(grownBy_putObj' W l o').size, fun b hb => World.putObj_heap_other (fun e => by have := hD b hb; omega)⟩
theorem keepsK_t {D : Nat → Prop} {A B C : World} (h : Keeps D A B) (k : Keeps D B C) : Keeps D A C := h.trans k
def Two (W : World) (B : Nat) (t : TypeId) (u v : Value) : Prop := W.heap[B]? = some (.cells #[u, v] t (0, 0))
theorem Two.lt {W : World} {B : Nat} {t : TypeId} {u v : Value} (h : Two W B t u v) : B < W.heap.size := (Array.getElem?_eq_some_iff.1 h).1
theorem Two.cell0 {W : World} {B : Nat} {t : TypeId} {u v : Value} (h : Two W B t u v) : W.cell? ⟨B, 0, none⟩ = some u := by simp [World.cell?, show W.heap[B]? = _ from h]
theorem Two.cell1 {W : World} {B : Nat} {t : TypeId} {u v : Value} (h : Two W B t u v) : W.cell? ⟨B, 1, none⟩ = some v := by simp [World.cell?, show W.heap[B]? = _ from h]
theorem Two.new (W : World) (t : TypeId) (u v : Value) : Two (W.alloc (.cells #[u, v] t)) W.heap.size t u v := World.alloc_heap_new W _
theorem Two.kept {W W' : World} {row : Option Nat} {B : Nat} {t : TypeId} {u v : Value} (h : Two W B t u v) (hg : W.grownBy W' row) (hne : some B ≠ row) : Two W' B t u v := (hg.block B h.lt hne).trans h
theorem Two.alloc {W : World} {B : Nat} {t : TypeId} {u v : Value} (h : Two W B t u v) (o : Obj) : Two (W.alloc o) B t u v := h.kept (World.grownBy_alloc W o none) (by simp)
theorem two_own {β : Type} (B : Nat) (t : TypeId) (f g : β → Value) : Own (fun s W => Two W B t (f s) (g s)) := fun s X Y row hs hg hrow =>
 hs.kept hg (fun e' => by obtain ⟨o, ho, hc⟩ := hrow B e'.symm; rw [show X.heap[B]? = _ from hs] at ho; cases ho; cases hc)
theorem Two.frozen0 {W : World} {B : Nat} {t : TypeId} {u v : Value} (h : Two W B t u v) (i : Nat) : W.frozen? ⟨B, i, none⟩ = false := by simp [World.frozen?, show W.heap[B]? = _ from h]
theorem Two.next {W W' : World} {B : Nat} {t : TypeId} {u v : Value} (h : Two W B t u v) (k : Below W.heap.size W W') : Two W' B t u v := (k.block B h.lt).trans h
theorem Boxed.next {W W' : World} {B : Nat} {t : TypeId} {v : Value} (h : Boxed W B t v) (k : Below W.heap.size W W') : Boxed W' B t v := (k.block B h.lt).trans h
theorem Two.set0 {W : World} {B : Nat} {t : TypeId} {u v : Value} (h : Two W B t u v) (x : Value) : Two (W.setCell ⟨B, 0, none⟩ x) B t x v := (heap_setCell_same W B 0 _ t x h).trans (by simp)
theorem Two.set1 {W : World} {B : Nat} {t : TypeId} {u v : Value} (h : Two W B t u v) (x : Value) : Two (W.setCell ⟨B, 1, none⟩ x) B t u x := (heap_setCell_same W B 1 _ t x h).trans (by simp)
theorem two_other {W : World} {b g i : Nat} {t : TypeId} {u v x : Value} (h : Two W b t u v) (hne : b ≠ g) : Two (W.setCell ⟨g, i, none⟩ x) b t u v := (Below.heap_setCell _ _ _ _ hne).trans h
theorem boxed_other {W : World} {b g i : Nat} {t : TypeId} {u x : Value} (h : Boxed W b t u) (hne : b ≠ g) : Boxed (W.setCell ⟨g, i, none⟩ x) b t u := (Below.heap_setCell _ _ _ _ hne).trans h
theorem below_grown {w w' : World} (h : Below w.heap.size w w') : w.grownBy w' none := ⟨h.os, h.tape, h.output, h.size, fun k hk _ => h.block k hk⟩
def Hv (W : World) (B : Nat) (p : Nat × Nat) : Prop := Two W B 175 (.int .u64 (p.1 : Nat)) (.int .u64 (p.2 : Nat))
def encR (r : Nat) : Array Value := #[.int .u64 r]

theorem rounds1_in (N : Nat) (hn : 1 ≤ N) (l B : Nat) (back : Bool) (J Jx : List Nat → World → Prop)
  (hY : ∀ pre x W, J pre W → pre.length < 8 → YieldAt Fence.wide (N - 1) Tryz.prog l (encR x) W fun e W' =>
   (e = .returned (.bool true) ∧ J (pre ++ [x]) W' ∧ Keeps (fun b => b = B) W W') ∨ (e = .returned (.bool false) ∧ Jx (pre ++ [x]) W'))
  (W : World) (hB : W.cell? ⟨B, 0, none⟩ = some (.bool back)) (h0 : J [] W) :
  CallsIn Fence.wide N Tryz.prog 196 #[.func (.yield l) #[] #[], .pointer (some ⟨B, 0, none⟩)] W fun e W' => (∃ v, e = .returned v) ∧
   ((∃ ys, ys = Pm.rs back ∧ J ys W') ∨ (∃ pre, pre <+: Pm.rs back ∧ Jx pre W')) := by
 refine callsIn_of_wp Tryz.func196 rfl trivial ?_ rfl
 simp only [Tryz.ntmps196, List.size_toArray, List.length_cons, List.length_nil, Nat.reduceAdd, Nat.reduceSub, Array.replicate_succ, Array.replicate_zero, List.push_toArray, List.append_toArray, List.nil_append, List.cons_append]
 gi_wp2
 gi_loopw [5] (fun i wr => ∃ k : Nat, k ≤ 8 ∧ i = .int .u64 k ∧ wr.cell? ⟨B, 0, none⟩ = some (.bool back) ∧ J (rsK back k) wr) (fun i _ => 8 - (intOf i).toNat)
 case atStart => exact ⟨0, by omega, rfl, hB, h0⟩
 case round =>
  obtain ⟨k, hk, rfl, hc, hJk⟩ := hrel
  by_cases hk8 : k < 8
  ·have hk8' : (k : Int) < 8 := by omega
   cases back with
   | false =>
    gi_wp2
    obtain ⟨fn, tmps, assign, body, hyy, hR⟩ := hY (rsK false k) k wr hJk (by rw [rsK_len]; exact hk8)
    dsimp only [encR] at hyy
    rw [hyy]
    gi_wp2
    refine hR.mono ?_
    rintro e W3 (⟨rfl, hJ3, hk3⟩ | ⟨rfl, hJx3⟩)
    ·gi_wp2
     go_roundw
     case rel => exact ⟨k + 1, by omega, by go_num, (World.cell?_of_block (a := ⟨B, 0, none⟩) (hk3.2 B rfl)).trans hc, by rw [rsK_succ]; exact hJ3⟩
     case measure => simp [intOf]; omega
    ·gi_wp2
     refine bodyPost_ret (results_none rfl _ _ _) rfl ?_
     exact ⟨⟨_, rfl⟩, .inr ⟨_, by have h1 := rsK_pre false (j := k + 1) (k := 8) (by omega); rw [rsK_succ, rsK_8] at h1; exact h1, hJx3⟩⟩
   | true =>
    have h7 : IntKind.u64.wrap (7 - (k : Int)) = ((7 - k : Nat) : Int) := by rw [IntKind.wrap_u64]; omega
    gi_wp2
    obtain ⟨fn, tmps, assign, body, hyy, hR⟩ := hY (rsK true k) (7 - k) wr hJk (by rw [rsK_len]; exact hk8)
    dsimp only [encR] at hyy
    rw [hyy]
    gi_wp2
    refine hR.mono ?_
    rintro e W3 (⟨rfl, hJ3, hk3⟩ | ⟨rfl, hJx3⟩)
    ·gi_wp2
     go_roundw
     case rel => exact ⟨k + 1, by omega, by go_num, (World.cell?_of_block (a := ⟨B, 0, none⟩) (hk3.2 B rfl)).trans hc, by rw [rsK_succ]; exact hJ3⟩
     case measure => simp [intOf]; omega
    ·gi_wp2
     refine bodyPost_ret (results_none rfl _ _ _) rfl ?_
     exact ⟨⟨_, rfl⟩, .inr ⟨_, by have h1 := rsK_pre true (j := k + 1) (k := 8) (by omega); rw [rsK_succ, rsK_8] at h1; exact h1, hJx3⟩⟩
  ·obtain rfl : k = 8 := by omega
   gi_wp2
   go_end0
   exact ⟨⟨_, rfl⟩, .inl ⟨_, rfl, by rw [← rsK_8]; exact hJk⟩⟩
theorem rounds_any (back : Bool) (w : World) :
  Calls Tryz.prog 190 #[.bool back] w fun e w' => e = .returned (.func (.func 196) #[] #[.pointer (some ⟨w.heap.size, 0, none⟩)]) ∧
   w' = w.alloc (.cells #[.bool back] 4) := by
 go_enter Tryz.func190, Tryz.ntmps190
 go_wp2
 go_ret
 exact ⟨rfl, rfl⟩
theorem rounds_stops (N : Nat) (hn : 1 ≤ N) (B : Nat) (back : Bool) (w : World) (hBw : B < w.heap.size) (hB : w.cell? ⟨B, 0, none⟩ = some (.bool back)) :
  SeqStopsK Fence.wide N Tryz.prog 196 #[.pointer (some ⟨B, 0, none⟩)] encR (Keeps (fun b => b = B)) (fun ys => ys = Pm.rs back) (fun pre => pre <+: Pm.rs back) 8 w := fun l J Jx W hW hJ _ hY h0 =>
 rounds1_in N hn l B back J Jx hY W ((hW.cell (p := ⟨B, 0, none⟩) hBw).trans hB) h0
theorem through_any {key a b : Nat} (back : Bool) (h : Pm.Dom (a, b)) (w : World) :
  Calls Tryz.prog 176 #[.int .u64 key, .agg #[.int .u64 a, .int .u64 b], .bool back] w fun e w' => e = .returned (.agg #[.int .u64 ((Pm.goes key (Pm.rs back) (a, b)).1 : Nat), .int .u64 ((Pm.goes key (Pm.rs back) (a, b)).2 : Nat)]) ∧ Below w.heap.size w w' := by
 refine (callsIn_wide (n := 5)).1 ?_
 refine callsIn_of_wp_marks Tryz.func176 rfl trivial ?_ rfl
 simp only [Tryz.ntmps176, List.size_toArray, List.length_cons, List.length_nil, Nat.reduceAdd, Nat.reduceSub, Array.replicate_succ, Array.replicate_zero, List.push_toArray, List.append_toArray, List.nil_append, List.cons_append]
 gi_wp2_with (refine ⟨trivial, ?_⟩; gi_at_call 190; refine (callsIn_wide.2 (rounds_any _ _)).mono ?_; rintro e w' ⟨rfl, rfl⟩)
 have bK := ((((Boxed.new w 22 (.int .u64 key)).alloc (.cells #[.int .u64 a, .int .u64 b] 175)).alloc (.cells #[.int .u64 0, .int .u64 0] 175)).alloc (.cells #[.bool back] 4))
 have bH := (((Two.new (w.alloc (.cells #[.int .u64 key] 22)) 175 (.int .u64 a) (.int .u64 b)).alloc (.cells #[.int .u64 0, .int .u64 0] 175)).alloc (.cells #[.bool back] 4))
 have bR := ((Two.new ((w.alloc (.cells #[.int .u64 key] 22)).alloc (.cells #[.int .u64 a, .int .u64 b] 175)) 175 (.int .u64 0) (.int .u64 0)).alloc (.cells #[.bool back] 4))
 have bB := Boxed.new (((w.alloc (.cells #[.int .u64 key] 22)).alloc (.cells #[.int .u64 a, .int .u64 b] 175)).alloc (.cells #[.int .u64 0, .int .u64 0] 175)) 4 (.bool back)
 simp only [World.size_alloc] at bH bR bB
 have hB0 : Below w.heap.size w ((((w.alloc (.cells #[.int .u64 key] 22)).alloc (.cells #[.int .u64 a, .int .u64 b] 175)).alloc (.cells #[.int .u64 0, .int .u64 0] 175)).alloc (.cells #[.bool back] 4)) := ((((Below.refl _ w).alloc (Nat.le_refl _) _).alloc (by simp) _).alloc (by simp; omega) _).alloc (by simp; omega) _
 have hsz : ((((w.alloc (.cells #[.int .u64 key] 22)).alloc (.cells #[.int .u64 a, .int .u64 b] 175)).alloc (.cells #[.int .u64 0, .int .u64 0] 175)).alloc (.cells #[.bool back] 4)).heap.size = w.heap.size + 4 := by simp
 obtain ⟨W0, hW0⟩ : ∃ W0, (((w.alloc (.cells #[.int .u64 key] 22)).alloc (.cells #[.int .u64 a, .int .u64 b] 175)).alloc (.cells #[.int .u64 0, .int .u64 0] 175)).alloc (.cells #[.bool back] 4) = W0 := ⟨_, rfl⟩
 rw [hW0] at bK bH bR bB hB0 hsz ⊢
 clear hW0
 have bH0 : Hv W0 (w.heap.size + 1) (Pm.goes key [] (a, b)) := bH
 clear bH
 refine wpIn_rangeFunc_ownH rfl (by omega) (gf := 196) (lb := #[.pointer (some ⟨w.heap.size + 1 + 1 + 1, 0, none⟩)]) rfl trivial (enters_of Tryz.func196 (by kernel_rfl) rfl)
  (rounds_stops _ (by omega) (w.heap.size + 1 + 1 + 1) back W0 (by omega) bB.cell) keepsK_t (keepsK_b (fun b hb => by omega)) (Below.refl _ _) (fun _ => rfl)
  (fun pre W => ((Hv W (w.heap.size + 1) (Pm.goes key pre (a, b)) ∧ Boxed W w.heap.size 22 (.int .u64 key)) ∧ Two W (w.heap.size + 1 + 1) 175 (.int .u64 0) (.int .u64 0)) ∧ (Below w.heap.size w W ∧ w.heap.size + 4 ≤ W.heap.size))
  (fun c pre W => False)
  ?own1 ?own2
  ⟨⟨⟨bH0, bK⟩, bR⟩, hB0, by omega⟩
  (fun x a' W => a' = { tmps := #[.int .u64 key, .agg #[.int .u64 a, .int .u64 b], .bool back, .pointer (some ⟨w.heap.size, 0, none⟩), .pointer (some ⟨w.heap.size + 1, 0, none⟩), undef, .pointer (some ⟨w.heap.size + 1 + 1, 0, none⟩), .int .u64 (x : Nat), .bool back, .func (.func 196) #[] #[.pointer (some ⟨w.heap.size + 1 + 1 + 1, 0, none⟩)], .int .u64 (x : Nat), undef, undef, undef, undef, undef], defers := [] })
  (fun x a' _ X Y row hs hg hr => hs)
  ?assign ?body ?done ?stop
 case own1 =>
  refine OwnFrom.and (OwnFrom.and (OwnFrom.and (Own.from (two_own _ _ (fun pre => .int .u64 ((Pm.goes key pre (a, b)).1 : Nat)) (fun pre => .int .u64 ((Pm.goes key pre (a, b)).2 : Nat))) _) (Own.from (boxed_own _ _ _) _)) (Own.from (two_own _ _ (fun _ => .int .u64 0) (fun _ => .int .u64 0)) _)) (OwnFrom.and (ownFrom_below (Nat.le_refl _) (by omega)) ?_)
  exact fun s X Y row hs hg hr => Nat.le_trans hs hg.size
 case own2 => exact fun c s X Y row hs hg hr => hs
 case assign =>
  rintro l pre x W K hI hK
  dsimp only [encR]
  gi_wp2
  exact hK _ _ (KeepsFrom.refl _ _) (Keeps.refl _ _) hI rfl
 case body =>
  rintro l pre x a' W hl ⟨r, hr⟩ ⟨⟨⟨bH1, bK1⟩, bR1⟩, hB1, hs1⟩ rfl hlt
  have hd : Pm.Dom (Pm.goes key pre (a, b)) := Pm.goes_dom h
  have hP : Hid (Pm.goes key (pre ++ [x]) (a, b) = Pm.trnN key x (Pm.goes key pre (a, b))) := Pm.goes_snoc key pre x (a, b)
  obtain ⟨p, hp⟩ : ∃ p, Pm.goes key pre (a, b) = p := ⟨_, rfl⟩
  rw [hp] at bH1 hd hP
  clear hp
  obtain ⟨u, v⟩ := p
  have c0 := bH1.cell0
  have c1 := bH1.cell1
  have cK := bK1.cell
  dsimp only at c0 c1
  gi_wp2_with (refine ⟨trivial, ?_⟩; gi_at_call 191; refine (CallsIn.inRound l (callsIn_wide.2 (turn_any hd _))).mono ?_; rintro e w1 ⟨rfl, hb1⟩; have f0 := (Two.next bH1 hb1).frozen0 0; have f1 := (Two.next bH1 hb1).frozen0 1; have g0 := (Two.next bH1 hb1).cell0; have g1 := (Two.next bH1 hb1).cell1)
  have q1 : Hv ((w1.setCell ⟨w.heap.size + 1, 0, none⟩ (.int .u64 ((Pm.trnN key x (u, v)).1 : Nat))).setCell ⟨w.heap.size + 1, 1, none⟩ (.int .u64 ((Pm.trnN key x (u, v)).2 : Nat))) (w.heap.size + 1) (Pm.goes key (pre ++ [x]) (a, b)) := by
   rw [hP.out]; exact ((Two.next bH1 hb1).set0 _).set1 _
  have q2 := boxed_other (i := 1) (x := .int .u64 ((Pm.trnN key x (u, v)).2 : Nat)) (boxed_other (i := 0) (x := .int .u64 ((Pm.trnN key x (u, v)).1 : Nat)) (Boxed.next bK1 hb1) (g := w.heap.size + 1) (by omega)) (g := w.heap.size + 1) (by omega)
  have q3 := two_other (i := 1) (x := .int .u64 ((Pm.trnN key x (u, v)).2 : Nat)) (two_other (i := 0) (x := .int .u64 ((Pm.trnN key x (u, v)).1 : Nat)) (Two.next bR1 hb1) (g := w.heap.size + 1) (by omega)) (g := w.heap.size + 1) (by omega)
  have q4 := (((hB1.trans (hb1.mono hB1.size)).setCell (p := ⟨w.heap.size + 1, 0, none⟩) (by show w.heap.size ≤ w.heap.size + 1; omega) (.int .u64 ((Pm.trnN key x (u, v)).1 : Nat))).setCell (p := ⟨w.heap.size + 1, 1, none⟩) (by show w.heap.size ≤ w.heap.size + 1; omega) (.int .u64 ((Pm.trnN key x (u, v)).2 : Nat)))
  refine ⟨(((KeepsOthers.of_grownBy (below_grown hb1) (fun j o e => by cases e)).trans (KeepsOthers.setCell _ _ _)).trans (KeepsOthers.setCell _ _ _)).from _, ⟨?_, fun y e => ?_⟩, ⟨⟨q1, q2⟩, q3⟩, q4, ?_⟩
  ·simpa using hb1.size
  ·subst e
   rw [Below.heap_setCell _ _ _ _ (by show w.heap.size + 1 + 1 + 1 ≠ w.heap.size + 1; omega), Below.heap_setCell _ _ _ _ (by show w.heap.size + 1 + 1 + 1 ≠ w.heap.size + 1; omega)]
   exact hb1.block _ (by omega)
  ·have := hb1.size
   simp; omega
 case done =>
  rintro D ys W hD rfl ⟨⟨⟨bH1, bK1⟩, bR1⟩, hB1, hs1⟩ hK
  obtain ⟨p, hp⟩ : ∃ p, Hid (Pm.goes key (Pm.rs back) (a, b) = p) := ⟨_, rfl⟩
  rw [hp.out] at bH1
  obtain ⟨u, v⟩ := p
  have c0 := bH1.cell0
  have c1 := bH1.cell1
  have r0 := bR1.cell0
  have r1 := bR1.cell1
  have f0 := bR1.frozen0 0
  have f1 := bR1.frozen0 1
  dsimp only at c0 c1
  gi_wp2
  have hK' : ((W.setCell ⟨w.heap.size + 1 + 1, 0, none⟩ (.int .u64 u)).setCell ⟨w.heap.size + 1 + 1, 1, none⟩ (.int .u64 v)).heap[D]? = some (Obj.deferred (some [])) := by
   rw [Below.heap_setCell _ _ _ _ (by show D ≠ w.heap.size + 1 + 1; omega), Below.heap_setCell _ _ _ _ (by show D ≠ w.heap.size + 1 + 1; omega)]; exact hK
  have t := (bR1.set0 (.int .u64 u)).set1 (.int .u64 v)
  refine ⟨by simp, .inl ⟨_, _, rfl, run_takeDeferred hK', ?_⟩⟩
  have hc0 := cell_kept t.cell0 (grownBy_putObj' _ D (.deferred none)) (fun r e => by cases e; exact ⟨_, hK', rfl⟩)
  have hc1 := cell_kept t.cell1 (grownBy_putObj' _ D (.deferred none)) (fun r e => by cases e; exact ⟨_, hK', rfl⟩)
  refine ⟨.agg #[.int .u64 u, .int .u64 v], ?_, by rw [hp.out], ((hB1.setCell (p := ⟨w.heap.size + 1 + 1, 0, none⟩) (by show w.heap.size ≤ w.heap.size + 1 + 1; omega) _).setCell (p := ⟨w.heap.size + 1 + 1, 1, none⟩) (by show w.heap.size ≤ w.heap.size + 1 + 1; omega) _).trans (belowK_b (w := w) (Nat.le_refl _) _ D _ _ (by omega) hK' rfl rfl)⟩
  simp [results, Tryz.f176, go_sem, hc0, hc1]
 case stop =>
  rintro D c pre W hD hpre hf hK
  exact hf.elim
theorem num_any {key n : Nat} (hn : n < 18446744073709551616) (w : World) :
  Calls Tryz.prog 146 #[.int .u64 key, .int .u64 n] w fun e w' => e = .returned (.int .u64 (Pm.numN key n : Nat)) ∧ Below w.heap.size w w' := by
 obtain ⟨m, hm⟩ : ∃ m, Hid ((n + 18446744073709551615) % 18446744073709551616 = m) := ⟨_, rfl⟩
 have hm64 : m < 18446744073709551616 := by rw [← hm.out]; exact Pm.mod_lt64 _
 have hsub : IntKind.u64.wrap ((n : Int) - 1) = (m : Int) := by rw [IntKind.wrap_u64, ← hm.out]; omega
 have hd := Pm.goes_dom (key := key) (rs := Pm.rs true) (Pm.split_dom m)
 have hj : Hid (Pm.numN key n = Pm.joinN (Pm.goes key (Pm.rs true) (Pm.splitN m))) := by show Pm.numN key n = _; unfold Pm.numN; rw [hm.out]
 have hl := Pm.join_lt hd
 have hd0 := Pm.split_dom m
 obtain ⟨p, hp⟩ : ∃ p, Hid (Pm.splitN m = p) := ⟨_, rfl⟩
 have hpa := part_any hm64 w
 rw [hp.out] at hd hj hl hd0 hpa
 obtain ⟨u, v⟩ := p
 have ht := fun w => through_any (key := key) true hd0 w
 obtain ⟨q, hq⟩ : ∃ q, Hid (Pm.goes key (Pm.rs true) (u, v) = q) := ⟨_, rfl⟩
 rw [hq.out] at hd hj hl
 simp only [hq.out] at ht
 obtain ⟨y, z⟩ := q
 have hw := fun w => whole_any hd w
 have hB := Below.refl w.heap.size w
 obtain ⟨j, hjj⟩ : ∃ j, Hid (Pm.joinN (y, z) = j) := ⟨_, rfl⟩
 simp only [hjj.out] at hw
 rw [hjj.out] at hj hl
 go_enter Tryz.func146, Tryz.ntmps146
 go_wp2_with (first | (go_at_call 177; refine hpa.mono ?_; rintro e w1 ⟨rfl, hb⟩; replace hB := hB.trans (hb.mono hB.size); clear hb) | (go_at_call 176; refine (ht _).mono ?_; rintro e w1 ⟨rfl, hb⟩; replace hB := hB.trans (hb.mono hB.size); clear hb) | (go_at_call 178; refine (hw _).mono ?_; rintro e w1 ⟨rfl, hb⟩; replace hB := hB.trans (hb.mono hB.size); clear hb))
 go_ret
 exact ⟨by rw [hj.out]; rfl, hB⟩
end Go.Proofs.YtnhjfjhbmekamaaGreat.SrM
namespace Go.Proofs.YtnhjfjhbmekamaaGreat.SrM
set_option maxRecDepth 100000
set_option maxHeartbeats 8000000
open Go.ChangeShapes Go.WideShapes Go.ChangeAt Go.RowKit
set_option linter.unusedVariables false

def ltB (a b : Nat) : Bool := decide (a < b)
def hasB (a b n : Nat) : Bool := decide (a ≤ n) && decide (n < b)
theorem some_any (a b : Nat) (w : World) :
  Calls Tryz.prog 144 #[.agg #[.int .u64 (a : Int), .int .u64 (b : Int)]] w fun e w' => e = .returned (.bool (ltB a b)) ∧ Below w.heap.size w w' := by
 have hB := (Below.refl w.heap.size w).alloc (Nat.le_refl _) (.cells #[.int .u64 (a : Int), .int .u64 (b : Int)] 152)
 go_enter Tryz.func144, Tryz.ntmps144
 go_wp2
 go_ret
 exact ⟨rfl, hB⟩
theorem has_any (a b n : Nat) (w : World) :
  Calls Tryz.prog 145 #[.agg #[.int .u64 (a : Int), .int .u64 (b : Int)], .int .u64 (n : Int)] w fun e w' => e = .returned (.bool (hasB a b n)) ∧ Below w.heap.size w w' := by
 have hB := (Below.refl w.heap.size w).alloc (Nat.le_refl _) (.cells #[.int .u64 (a : Int), .int .u64 (b : Int)] 152)
 by_cases h : a ≤ n
 ·have e : Hid (hasB a b n = decide (n < b)) := by show hasB a b n = _; unfold hasB; rw [decide_eq_true h, Bool.true_and]
  go_enter Tryz.func145, Tryz.ntmps145
  go_wp2
  go_ret
  exact ⟨by rw [e.out]; rfl, hB⟩
 ·have e : Hid (hasB a b n = false) := by show hasB a b n = _; unfold hasB; rw [decide_eq_false h, Bool.false_and]
  go_enter Tryz.func145, Tryz.ntmps145
  go_wp2
  go_ret
  exact ⟨by rw [e.out]; rfl, hB⟩
def mxN (a c : Nat) : Nat := max a c
def mnN (b d : Nat) : Nat := min b d
theorem common_any (a b c d : Nat) (w : World) :
  Calls Tryz.prog 143 #[.agg #[.int .u64 (a : Int), .int .u64 (b : Int)], .agg #[.int .u64 (c : Int), .int .u64 (d : Int)]] w fun e w' => e = .returned (.agg #[.int .u64 (mxN a c : Nat), .int .u64 (mnN b d : Nat)]) ∧ Below w.heap.size w w' := by
 have hB : ∀ x y : Int, Below w.heap.size w (((w.alloc (Obj.cells #[.int .u64 (a : Int), .int .u64 (b : Int)] 152)).alloc (Obj.cells #[.int .u64 (c : Int), .int .u64 (d : Int)] 152)).alloc (Obj.cells #[.int .u64 x, .int .u64 y] 152)) := fun x y =>
  (((Below.refl _ w).alloc (Nat.le_refl _) _).alloc (by simp) _).alloc (by simp; omega) _
 go_enter Tryz.func143, Tryz.ntmps143
 go_wp2
 ·rename_i h1
  have e1 : mxN a c = c := by unfold mxN; omega
  have e2 : mnN b d = d := by unfold mnN; omega
  rw [e1, e2]
  exact bodyPost_ret (v := .agg #[.int .u64 (c : Int), .int .u64 (d : Int)]) (by simp [results, Tryz.f143, go_sem]) rfl ⟨rfl, hB _ _⟩
 ·rename_i h1
  have e1 : mxN a c = c := by unfold mxN; omega
  have e2 : mnN b d = b := by unfold mnN; omega
  rw [e1, e2]
  exact bodyPost_ret (v := .agg #[.int .u64 (c : Int), .int .u64 (b : Int)]) (by simp [results, Tryz.f143, go_sem]) rfl ⟨rfl, hB _ _⟩
 ·rename_i h1
  have e1 : mxN a c = a := by unfold mxN; omega
  have e2 : mnN b d = d := by unfold mnN; omega
  rw [e1, e2]
  exact bodyPost_ret (v := .agg #[.int .u64 (a : Int), .int .u64 (d : Int)]) (by simp [results, Tryz.f143, go_sem]) rfl ⟨rfl, hB _ _⟩
 ·rename_i h1
  have e1 : mxN a c = a := by unfold mxN; omega
  have e2 : mnN b d = b := by unfold mnN; omega
  rw [e1, e2]
  exact bodyPost_ret (v := .agg #[.int .u64 (a : Int), .int .u64 (b : Int)]) (by simp [results, Tryz.f143, go_sem]) rfl ⟨rfl, hB _ _⟩
def apartB (a b c d : Nat) : Bool := !ltB (mxN a c) (mnN b d)
theorem apart_any (a b c d : Nat) (w : World) :
  Calls Tryz.prog 112 #[.agg #[.int .u64 (a : Int), .int .u64 (b : Int)], .agg #[.int .u64 (c : Int), .int .u64 (d : Int)]] w fun e w' => e = .returned (.bool (apartB a b c d)) ∧ Below w.heap.size w w' := by
 have hB := ((Below.refl w.heap.size w).alloc (Nat.le_refl _) (.cells #[.int .u64 (a : Int), .int .u64 (b : Int)] 36)).alloc (by simp) (.cells #[.int .u64 (c : Int), .int .u64 (d : Int)] 36)
 go_enter Tryz.func112, Tryz.ntmps112
 go_wp2_with (first | (go_at_call 143; refine (common_any _ _ _ _ _).mono ?_; rintro e w1 ⟨rfl, hb⟩; replace hB := hB.trans (hb.mono hB.size); clear hb) | (go_at_call 144; refine (some_any _ _ _).mono ?_; rintro e w1 ⟨rfl, hb⟩; replace hB := hB.trans (hb.mono hB.size); clear hb))
 go_ret
 exact ⟨rfl, hB⟩
end Go.Proofs.YtnhjfjhbmekamaaGreat.SrM
namespace Go.Proofs.YtnhjfjhbmekamaaGreat.SrM
set_option maxRecDepth 100000
set_option maxHeartbeats 8000000
open Go.ChangeShapes Go.WideShapes Go.ChangeAt Go.RowKit
set_option linter.unusedVariables false

theorem below_drewN {n : Nat} {w W : World} (h : Below n w W) (k : Nat) : Below n w (W.drewN k) := h.trans ⟨rfl, rfl, rfl, Nat.le_refl _, fun _ _ => rfl⟩
def hasK (k a b m : Nat) : Bool := (decide (1 ≤ m) && decide (m ≤ 2305843009213693952)) && hasB a b (Pm.numN k m)
theorem Has_any {k a b m : Nat} (hm : m < 18446744073709551616) (w : World) :
  Calls Tryz.prog 113 #[.int .u64 (k : Int), .agg #[.int .u64 (a : Int), .int .u64 (b : Int)], .int .u64 (m : Int)] w fun e w' => e = .returned (.bool (hasK k a b m)) ∧ Below w.heap.size w w' := by
 have hB := (Below.refl w.heap.size w).alloc (Nat.le_refl _) (.cells #[.int .u64 (a : Int), .int .u64 (b : Int)] 36)
 have hT := Two.new w 36 (.int .u64 (a : Int)) (.int .u64 (b : Int))
 have hn := fun w => num_any (key := k) hm w
 have hr : Hid (hasK k a b m = ((decide (1 ≤ m) && decide (m ≤ 2305843009213693952)) && hasB a b (Pm.numN k m))) := rfl
 obtain ⟨y, hy⟩ : ∃ y, Hid (Pm.numN k m = y) := ⟨_, rfl⟩
 rw [hy.out] at hr
 simp only [hy.out] at hn
 go_enter Tryz.func113, Tryz.ntmps113
 go_upto_region 1 with fail
 obtain ⟨W, hW⟩ : ∃ W, Hid (w.alloc (.cells #[.int .u64 (a : Int), .int .u64 (b : Int)] 36) = W) := ⟨_, rfl⟩
 rw [hW.out] at hT hB ⊢
 clear hW
 have d0 := hT.cell0
 have d1 := hT.cell1
 by_cases h1 : 1 ≤ m
 ·have v1 : decide ((1 : Int) ≤ (m : Int)) = true := decide_eq_true (by omega)
  by_cases h2 : m ≤ 2305843009213693952
  ·have e : Hid (hasK k a b m = hasB a b y) := by show _ = _; rw [hr.out, decide_eq_true h1, decide_eq_true h2]; rfl
   have v2 : decide ((m : Int) ≤ 2305843009213693952) = true := decide_eq_true (by omega)
   clear hr h1 h2
   go_region_held3 (fun w' => w'.cell? ⟨w.heap.size, 0, none⟩ = some (.int .u64 (a : Int)) ∧ w'.cell? ⟨w.heap.size, 1, none⟩ = some (.int .u64 (b : Int))) (go_keep) (first | (go_at_call 146; refine (hn _).mono ?_; rintro e w1 ⟨rfl, hb1⟩; have hb2 : Below W.heap.size W w1 := (Below.refl _ W).drew.trans hb1; have c0 := (hT.next hb2).cell0; have c1 := (hT.next hb2).cell1) | (go_at_call 145; refine (has_any _ _ _ _).mono ?_; rintro e w2 ⟨rfl, hb3⟩; have z0 := ((hT.next hb2).next hb3).cell0; have z1 := ((hT.next hb2).next hb3).cell1))
   go_wp2
   go_ret
   exact ⟨by rw [e.out]; rfl, (hB.trans (hb2.mono hB.size)).trans (hb3.mono (Nat.le_trans hB.size hb2.size))⟩
  ·have e : Hid (hasK k a b m = false) := by show _ = _; rw [hr.out, decide_eq_true h1, decide_eq_false h2]; rfl
   have v2 : decide ((m : Int) ≤ 2305843009213693952) = false := decide_eq_false (by omega)
   clear hr h1 h2
   go_quiet (fail)
   go_wp2
   go_ret
   exact ⟨by rw [e.out]; rfl, below_drewN hB _⟩
 ·have e : Hid (hasK k a b m = false) := by show _ = _; rw [hr.out, decide_eq_false h1]; rfl
  have v1 : decide ((1 : Int) ≤ (m : Int)) = false := decide_eq_false (by omega)
  clear hr h1
  go_quiet (fail)
  go_wp2
  go_ret
  exact ⟨by rw [e.out]; rfl, below_drewN hB _⟩
end Go.Proofs.YtnhjfjhbmekamaaGreat.SrM
namespace Go.Proofs.YtnhjfjhbmekamaaGreat
set_option maxRecDepth 100000
set_option maxHeartbeats 8000000
open Go.RowKit Go.Shelf
set_option linter.unusedVariables false
attribute [local go_sem] Oper.semAt_some

def ownN (key a b : Nat) (tid : Int) (kd : Int) (id c d : Nat) : Bool := (decide (kd ≠ 4) || (decide ((id : Int) = tid) || SrM.apartB a b c d)) && !SrM.hasK key a b id
theorem own1_v {w : World} {C Ct G : Array Value} {Bt Bs Bv key a b m c d : Nat} {tid kd : Int} (hz : C.size = 51) (c0 : C[0]? = some (.int .u64 (m : Int))) (c1 : C[1]? = some (.int .i64 kd)) (c37 : C[37]? = some (.int .u64 (c : Int))) (c38 : C[38]? = some (.int .u64 (d : Int))) (hm : m < 18446744073709551616)
  (ht : Blk w Bt Ct 43) (e0 : Ct[0]? = some (.int .u64 tid)) (hs : Blk w Bs #[.int .u64 (a : Int), .int .u64 (b : Int)] 36) (hv : Blk w Bv G 70) (k0 : G[1]? = some (.int .u64 (key : Int))) :
  Calls Tryz.prog 111 #[.agg C, .pointer (some ⟨Bt, 0, none⟩), .pointer (some ⟨Bs, 0, none⟩), .pointer (some ⟨Bv, 0, none⟩)] w fun e w' => e = .returned (.bool (ownN key a b tid kd m c d)) ∧ Below w.heap.size w w' := by
 have hV : C.extract 37 (37 + 2) = #[.int .u64 (c : Int), .int .u64 (d : Int)] := ext2 c37 c38
 replace e0 := (ht.cell 0).trans e0
 replace k0 := (hv.cell 1).trans k0
 have hr : Hid (ownN key a b tid kd m c d = ((decide (kd ≠ 4) || (decide ((m : Int) = tid) || SrM.apartB a b c d)) && !SrM.hasK key a b m)) := rfl
 rw [hr.out]
 by_cases hk4 : kd = 4
 ·subst hk4
  have hq : decide ((4 : Int) ≠ 4) = false := rfl
  rw [hq, Bool.false_or]
  by_cases hid : (m : Int) = tid
  ·subst hid
   have hq : decide ((m : Int) = (m : Int)) = true := decide_eq_true rfl
   rw [hq, Bool.true_or, Bool.true_and]
   go_enter Tryz.func111, Tryz.ntmps111
   go_wp2_with (first
    | (with_reducible refine wpList_box rfl 43 _ rfl C rfl ?_; intro B4 W hN hb hk; replace c0 := (hb.cell 0).trans c0; replace c1 := (hb.cell 1).trans c1; replace e0 := (hk.cell (p := ⟨Bt, 0, none⟩) ht.lt).trans e0; replace k0 := (hk.cell (p := ⟨Bv, 1, none⟩) hv.lt).trans k0; replace hs := hs.next hk; have hkW := hk.size)
    | (with_reducible refine wpList_loadb (by with_unfolding_all rfl) _ _ rfl Bs rfl #[.int .u64 (a : Int), .int .u64 (b : Int)] hs _ Tryz.underlying36 (by kernel_rfl) (by kernel_rfl) ?_)
    | (go_at_call 113; (with_reducible refine (SrM.Has_any hm _).mono ?_); rintro e w2 ⟨rfl, hb2⟩; replace hk := hk.trans (hb2.mono hk.size)))
   go_ret
   exact ⟨rfl, hk⟩
  ·have hq : decide ((m : Int) = tid) = false := decide_eq_false hid
   have hq2 : ((m : Int) == tid) = false := by simpa using hid
   rw [hq, Bool.false_or]
   cases hap : SrM.apartB a b c d with
   | true =>
    rw [Bool.true_and]
    go_enter Tryz.func111, Tryz.ntmps111
    go_wp2_with (first
     | (with_reducible refine wpList_box rfl 43 _ rfl C rfl ?_; intro B4 W hN hb hk; replace c0 := (hb.cell 0).trans c0; replace c1 := (hb.cell 1).trans c1; replace e0 := (hk.cell (p := ⟨Bt, 0, none⟩) ht.lt).trans e0; replace k0 := (hk.cell (p := ⟨Bv, 1, none⟩) hv.lt).trans k0; replace hs := hs.next hk; have hkW := hk.size)
     | (with_reducible refine wpList_loadb (by with_unfolding_all rfl) _ _ rfl Bs rfl #[.int .u64 (a : Int), .int .u64 (b : Int)] hs _ Tryz.underlying36 (by kernel_rfl) (by kernel_rfl) ?_)
     | (with_reducible refine wpList_loadp (by kernel_rfl) _ _ rfl B4 37 rfl 2 C _ hb #[.int .u64 (c : Int), .int .u64 (d : Int)] hV (by omega) _ Tryz.underlying36 (by kernel_rfl) (by kernel_rfl) ?_)
     | (go_at_call 112; (with_reducible refine (SrM.apart_any a b c d _).mono ?_); rintro e w1 ⟨rfl, hb1⟩; replace hk := hk.trans (hb1.mono hk.size); replace hs := hs.next hb1; replace k0 := (hb1.cell (p := ⟨Bv, 1, none⟩) (Nat.lt_of_lt_of_le hv.lt hkW)).trans k0; replace c0 := (hb1.cell (p := ⟨B4, 0, none⟩) hb.lt).trans c0; rw [hap])
     | (go_at_call 113; (with_reducible refine (SrM.Has_any hm _).mono ?_); rintro e w2 ⟨rfl, hb2⟩; replace hk := hk.trans (hb2.mono hk.size)))
    go_ret
    exact ⟨rfl, hk⟩
   | false =>
    rw [Bool.false_and]
    go_enter Tryz.func111, Tryz.ntmps111
    go_wp2_with (first
     | (with_reducible refine wpList_box rfl 43 _ rfl C rfl ?_; intro B4 W hN hb hk; replace c0 := (hb.cell 0).trans c0; replace c1 := (hb.cell 1).trans c1; replace e0 := (hk.cell (p := ⟨Bt, 0, none⟩) ht.lt).trans e0; replace k0 := (hk.cell (p := ⟨Bv, 1, none⟩) hv.lt).trans k0; replace hs := hs.next hk; have hkW := hk.size)
     | (with_reducible refine wpList_loadb (by with_unfolding_all rfl) _ _ rfl Bs rfl #[.int .u64 (a : Int), .int .u64 (b : Int)] hs _ Tryz.underlying36 (by kernel_rfl) (by kernel_rfl) ?_)
     | (with_reducible refine wpList_loadp (by kernel_rfl) _ _ rfl B4 37 rfl 2 C _ hb #[.int .u64 (c : Int), .int .u64 (d : Int)] hV (by omega) _ Tryz.underlying36 (by kernel_rfl) (by kernel_rfl) ?_)
     | (go_at_call 112; (with_reducible refine (SrM.apart_any a b c d _).mono ?_); rintro e w1 ⟨rfl, hb1⟩; replace hk := hk.trans (hb1.mono hk.size); replace hs := hs.next hb1; replace k0 := (hb1.cell (p := ⟨Bv, 1, none⟩) (Nat.lt_of_lt_of_le hv.lt hkW)).trans k0; replace c0 := (hb1.cell (p := ⟨B4, 0, none⟩) hb.lt).trans c0; rw [hap]))
    go_ret
    exact ⟨rfl, hk⟩
 ·have hq : decide (kd ≠ 4) = true := decide_eq_true hk4
  have hq2 : (kd == 4) = false := by simpa using hk4
  have hq3 : (kd != 4) = true := by simpa using hk4
  rw [hq, Bool.true_or, Bool.true_and]
  go_enter Tryz.func111, Tryz.ntmps111
  go_wp2_with (first
   | (with_reducible refine wpList_box rfl 43 _ rfl C rfl ?_; intro B4 W hN hb hk; replace c0 := (hb.cell 0).trans c0; replace c1 := (hb.cell 1).trans c1; replace e0 := (hk.cell (p := ⟨Bt, 0, none⟩) ht.lt).trans e0; replace k0 := (hk.cell (p := ⟨Bv, 1, none⟩) hv.lt).trans k0; replace hs := hs.next hk; have hkW := hk.size)
   | (with_reducible refine wpList_loadb (by with_unfolding_all rfl) _ _ rfl Bs rfl #[.int .u64 (a : Int), .int .u64 (b : Int)] hs _ Tryz.underlying36 (by kernel_rfl) (by kernel_rfl) ?_)
   | (go_at_call 113; (with_reducible refine (SrM.Has_any hm _).mono ?_); rintro e w2 ⟨rfl, hb2⟩; replace hk := hk.trans (hb2.mono hk.size)))
  go_ret
  exact ⟨rfl, hk⟩
end Go.Proofs.YtnhjfjhbmekamaaGreat
namespace Go.Proofs.YtnhjfjhbmekamaaGreat
set_option maxRecDepth 100000
set_option maxHeartbeats 8000000
open Go.RowKit Go.Shelf
set_option linter.unusedVariables false
attribute [local go_sem] Oper.semAt_some

def WdO (x : Ob) : Prop := (0 ≤ x.id ∧ x.id < 18446744073709551616) ∧ (0 ≤ x.th.lo ∧ x.th.lo < 18446744073709551616) ∧ (0 ≤ x.th.hi ∧ x.th.hi < 18446744073709551616)
def ownO (key : Nat) (X : List Ob) (o : Ob) : Bool := (List.range X.length).all fun j => ownN key o.th.lo.toNat o.th.hi.toNat o.id (oat X j).kind (oat X j).id.toNat (oat X j).th.lo.toNat (oat X j).th.hi.toNat
theorem ownNumbers_v {w : World} {t ro : Int} {key : Nat} {ao : Option Addr} {n cap : Nat} {X : List Ob} {Cf : Nat → Array Value} {C : Array Value} {o : Ob} (h : ObsF (LtN w) (LtN w) w ao n cap X Cf) (hw : ∀ x ∈ X, WdO x) (ho : ObD (LtN w) w C o) (hwo : WdO o) : Calls Tryz.prog 78 #[.agg #[.int .i64 t, .int .u64 (key : Int), .int .u64 ro, .slice ao n cap], .agg C] w fun e w' => e = .returned (.bool (ownO key X o)) ∧ Below w.heap.size w w' := by
 have hn : Hid (X.length = n) := h.1
 have hz := ho.size
 have hzv : (Tryz.prog.info? 70).map (·.size) = some (#[.int .i64 t, .int .u64 (key : Int), .int .u64 ro, .slice ao n cap] : Array Value).size := by kernel_rfl
 have k1 : (#[.int .i64 t, .int .u64 (key : Int), .int .u64 ro, .slice ao n cap] : Array Value)[1]? = some (.int .u64 (key : Int)) := rfl
 have e1 : ((o.th.lo.toNat : Nat) : Int) = o.th.lo := Int.toNat_of_nonneg hwo.2.1.1
 have e2 : ((o.th.hi.toNat : Nat) : Int) = o.th.hi := Int.toNat_of_nonneg hwo.2.2.1
 have hV : C.extract 37 (37 + 2) = #[.int .u64 ((o.th.lo.toNat : Nat) : Int), .int .u64 ((o.th.hi.toNat : Nat) : Int)] := by rw [e1, e2]; exact ext2 ho.th.lo ho.th.hi
 have hr : Hid (ownO key X o = (List.range n).all fun j => ownN key o.th.lo.toNat o.th.hi.toNat o.id (oat X j).kind (oat X j).id.toNat (oat X j).th.lo.toNat (oat X j).th.hi.toNat) := by show ownO key X o = _; unfold ownO; rw [hn.out]
 rw [hr.out]
 have c0 := ho.id
 obtain ⟨a, ha⟩ : ∃ a, Hid (o.th.lo.toNat = a) := ⟨_, rfl⟩
 obtain ⟨b, hb⟩ : ∃ b, Hid (o.th.hi.toNat = b) := ⟨_, rfl⟩
 rw [ha.out, hb.out] at hV ⊢
 have hev := fun (W : World) (g : Nat) (lb : Array Value) (P : Nat → Bool) (hk : Below w.heap.size w W) => every_v (t := t) (ke := (key : Int)) (ro := ro) (g := g) (lb := lb) (P := P) (h.next hk)
 obtain ⟨G, hG⟩ : ∃ G : Array Value, Hid (G = #[.int .i64 t, .int .u64 (key : Int), .int .u64 ro, .slice ao n cap]) := ⟨_, rfl⟩
 rw [← hG.out] at hzv k1 hev
 rw [← hG.out]
 clear e1 e2 hr
 go_enter Tryz.func78, Tryz.ntmps78
 go_wp2_with (first
  | (with_reducible refine wpList_box rfl 70 _ rfl G rfl ?_; intro B2 W2 hN2 hB2 hk)
  | (with_reducible refine wpList_box rfl 43 _ rfl C rfl ?_; intro B3 W3 hN3 hB3 hk3; replace hB2 := hB2.next hk3; replace hk := hk.trans (hk3.mono hk.size))
  | (with_reducible refine wpList_loadp (by kernel_rfl) _ _ rfl B3 37 rfl 2 C _ hB3 #[.int .u64 (a : Int), .int .u64 (b : Int)] hV (by omega) _ Tryz.underlying36 (by kernel_rfl) (by kernel_rfl) ?_)
  | ((with_reducible refine wpList_alloc rfl _ rfl #[.int .u64 0, .int .u64 0] Tryz.zeroValue36 ?_); intro R W4 hN4 hR4 hk4; have hne : B2 ≠ R ∧ B3 ≠ R := (by have := hN4.out; have := hB2.lt; have := hB3.lt; omega); have hwR : w.heap.size ≤ R := (by have := hN4.out; have := hk.size; omega); replace hB2 := hB2.next hk4; replace hB3 := hB3.next hk4; replace hk := hk.trans (hk4.mono hk.size))
  | ((with_reducible refine wpList_store_blk rfl _ _ _ rfl R rfl #[.int .u64 (a : Int), .int .u64 (b : Int)] rfl _ hR4 (by kernel_rfl) (two_size _ _ _ _) (two_all _ _ _ _) ?_); intro W5 hR5 o5; have hk5 := o5.below w.heap.size w hwR hk; have hB25 : Blk W5 B2 G 70 := (o5.block B2 hne.1).trans hB2; have hB35 : Blk W5 B3 C 43 := (o5.block B3 hne.2).trans hB3; have hP := fun (j : Nat) (W : World) (hj : j < n) (q : Below W5.heap.size W5 W) => own1_v (key := key) (h.2.2.2.2 j hj).size (by rw [Int.toNat_of_nonneg (hw _ (oat_mem (by rw [hn.out]; exact hj))).1.1]; exact (h.2.2.2.2 j hj).id) (h.2.2.2.2 j hj).kind (by rw [Int.toNat_of_nonneg (hw _ (oat_mem (by rw [hn.out]; exact hj))).2.1.1]; exact (h.2.2.2.2 j hj).th.lo) (by rw [Int.toNat_of_nonneg (hw _ (oat_mem (by rw [hn.out]; exact hj))).2.2.1]; exact (h.2.2.2.2 j hj).th.hi) (by have := (hw _ (oat_mem (show j < X.length by rw [hn.out]; exact hj))).1; omega) (hB35.next q) c0 (hR5.next q) (hB25.next q) k1; have hcall := hev W5 111 #[.pointer (some ⟨B3, 0, none⟩), .pointer (some ⟨R, 0, none⟩), .pointer (some ⟨B2, 0, none⟩)] (fun j => ownN key a b o.id (oat X j).kind (oat X j).id.toNat (oat X j).th.lo.toNat (oat X j).th.hi.toNat) hk5 (enters_of Tryz.func111 (by kernel_rfl) rfl) (fun j W hj q => hP j W hj q))
  | (with_reducible refine wpList_loadb (by kernel_rfl) _ _ rfl B2 rfl G hB25 _ Tryz.underlying70 (by kernel_rfl) hzv ?_)
  | (go_at_call 39; (with_reducible refine hcall.mono ?_); rintro e w6 ⟨rfl, hb6⟩))
 go_ret
 exact ⟨rfl, hk5.trans (hb6.mono hk5.size)⟩
end Go.Proofs.YtnhjfjhbmekamaaGreat
namespace Go.Proofs.YtnhjfjhbmekamaaGreat
set_option maxRecDepth 100000
set_option maxHeartbeats 8000000
open Go.RowKit Go.Shelf
set_option linter.unusedVariables false
attribute [local go_sem] Oper.semAt_some

theorem wpList_lookup {ops : Array Oper} {rest : List Oper} {op : Oper} {a : Act} {Q : Exit → Act → World → Prop} {w : World} (hw : Region.wanted op (yielded ops a.tmps) = true) (x y : Operand) (ho : op.op = .lookup 71 x y false) (M : Nat) (hx : a.eval x = .map (some M)) (k : Int) (hy : a.eval y = .int .u64 k) (f : Int → Int × Int) (hm : MapF w M f)
  (h : wpList Tryz.prog ops Q rest (a.put op.dst (.agg #[.int .i64 (f k).1, .int .u64 (f k).2])) w) : wpList Tryz.prog ops Q (op :: rest) a w := by
 refine wpList_val hw ?_ h
 unfold execOp
 simp [ho, hx, hy, map_get hm k]
 rfl
def whoB (key : Nat) (X : List Ob) (ro : Int) (f : Int → Int × Int) (o : Ob) : Bool := keepB X o && (liesB ro o (f o.id).1 && (if o.kind = 2 then topF f X.length o.id == ro else if o.kind = 4 then ownO key X o else true))
theorem whole_v {w : World} {t ro : Int} {key M : Nat} {ao : Option Addr} {n cap : Nat} {X : List Ob} {Cf : Nat → Array Value} {C : Array Value} {o : Ob} {f : Int → Int × Int} (h : ObsF (LtN w) (LtN w) w ao n cap X Cf) (hs : Srt X) (hn16 : n ≤ 4096) (hq : ∀ x ∈ X, 0 ≤ x.quota ∧ x.quota ≤ 4096) (hlb : ∀ x ∈ X, x.label.length < 1048576) (hw : ∀ x ∈ X, WdO x) (ho : ObD (LtN w) w C o) (hsm : Small o) (hoq : 0 ≤ o.quota ∧ o.quota ≤ 4096) (hol : o.label.length < 1048576) (hwo : WdO o) (hM : MapF w M f) : Calls Tryz.prog 41 #[.agg #[.int .i64 t, .int .u64 (key : Int), .int .u64 ro, .slice ao n cap], .agg C, .map (some M)] w fun e w' => e = .returned (.bool (whoB key X ro f o)) ∧ Below w.heap.size w w' := by
 have hn : Hid (X.length = n) := h.1
 have hz := ho.size
 have c0 := ho.id
 have c1 := ho.kind
 have hzv : (Tryz.prog.info? 70).map (·.size) = some (#[.int .i64 t, .int .u64 (key : Int), .int .u64 ro, .slice ao n cap] : Array Value).size := by kernel_rfl
 have hke := fun (W : World) (hk : Below w.heap.size w W) => keeps_v (t := t) (ke := (key : Int)) (ro := ro) (h.next hk) hs hn16 hq hlb (ho.next hk) hsm hoq hol
 have hli := fun (W : World) (hk : Below w.heap.size w W) => lies_v (t := t) (ke := (key : Int)) (ro := ro) (ao := ao) (n := n) (cap := cap) (c := (f o.id).1) (f := (f o.id).2) (ho.next hk)
 have hup := fun (W : World) (hk : Below w.heap.size w W) => comesUp_v (t := t) (ke := (key : Int)) (ro := ro) (i := o.id) (ao := ao) (cap := cap) hn16 (hM.next hk)
 have how := fun (W : World) (hk : Below w.heap.size w W) => ownNumbers_v (t := t) (ro := ro) (key := key) (h.next hk) hw (ho.next hk) hwo
 have hr : Hid (whoB key X ro f o = (keepB X o && (liesB ro o (f o.id).1 && (if o.kind = 2 then topF f n o.id == ro else if o.kind = 4 then ownO key X o else true)))) := by show whoB key X ro f o = _; unfold whoB; rw [hn.out]
 rw [hr.out]
 obtain ⟨G, hG⟩ : ∃ G : Array Value, Hid (G = #[.int .i64 t, .int .u64 (key : Int), .int .u64 ro, .slice ao n cap]) := ⟨_, rfl⟩
 rw [← hG.out] at hzv hke hli hup how
 rw [← hG.out]
 clear hr
 generalize keepB X o = bk at hke ⊢
 generalize liesB ro o (f o.id).1 = bl at hli ⊢
 generalize (topF f n o.id == ro) = bu at hup ⊢
 generalize ownO key X o = bo at how ⊢
 generalize o.kind = kd at c1 ⊢
 cases bk with
 | false =>
  go_enter Tryz.func41, Tryz.ntmps41
  go_wp2_with (first
   | (with_reducible refine wpList_box rfl 70 _ rfl G rfl ?_; intro B3 W3 hN3 hB3 hk)
   | (with_reducible refine wpList_box rfl 43 _ rfl C rfl ?_; intro B4 W4 hN4 hB4 hk4; replace hB3 := hB3.next hk4; replace hk := hk.trans (hk4.mono hk.size); have d0 := (hB4.cell 0).trans c0; have d1 := (hB4.cell 1).trans c1)
   | (with_reducible refine wpList_loadb (by with_unfolding_all rfl) _ _ rfl B4 rfl C hB4 _ Tryz.underlying43 (by kernel_rfl) (size40C hz) ?_)
   | (with_reducible refine wpList_loadb (by with_unfolding_all rfl) _ _ rfl B3 rfl G hB3 _ Tryz.underlying70 (by kernel_rfl) hzv ?_)
   | (go_at_call 75; (with_reducible refine (hke _ hk).mono ?_); rintro e w1 ⟨rfl, hb1⟩; replace hB3 := hB3.next hb1; replace hB4 := hB4.next hb1; replace hk := hk.trans (hb1.mono hk.size); replace d0 := (hB4.cell 0).trans c0; replace d1 := (hB4.cell 1).trans c1))
  all_goals (go_ret; exact ⟨rfl, hk⟩)
 | true =>
  cases bl with
  | false =>
   go_enter Tryz.func41, Tryz.ntmps41
   go_wp2_with (first
    | (with_reducible refine wpList_box rfl 70 _ rfl G rfl ?_; intro B3 W3 hN3 hB3 hk)
    | (with_reducible refine wpList_box rfl 43 _ rfl C rfl ?_; intro B4 W4 hN4 hB4 hk4; replace hB3 := hB3.next hk4; replace hk := hk.trans (hk4.mono hk.size); have d0 := (hB4.cell 0).trans c0; have d1 := (hB4.cell 1).trans c1)
    | (with_reducible refine wpList_loadb (by with_unfolding_all rfl) _ _ rfl B4 rfl C hB4 _ Tryz.underlying43 (by kernel_rfl) (size40C hz) ?_)
    | (with_reducible refine wpList_loadb (by with_unfolding_all rfl) _ _ rfl B3 rfl G hB3 _ Tryz.underlying70 (by kernel_rfl) hzv ?_)
    | (go_at_call 75; (with_reducible refine (hke _ hk).mono ?_); rintro e w1 ⟨rfl, hb1⟩; replace hB3 := hB3.next hb1; replace hB4 := hB4.next hb1; replace hk := hk.trans (hb1.mono hk.size); replace d0 := (hB4.cell 0).trans c0; replace d1 := (hB4.cell 1).trans c1)
    | (with_reducible refine wpList_lookup (by with_unfolding_all rfl) _ _ rfl M rfl o.id rfl f (hM.next hk) ?_)
    | (go_at_call 76; (with_reducible refine (hli _ hk).mono ?_); rintro e w2 ⟨rfl, hb2⟩; replace hB3 := hB3.next hb2; replace hB4 := hB4.next hb2; replace hk := hk.trans (hb2.mono hk.size); replace d0 := (hB4.cell 0).trans c0; replace d1 := (hB4.cell 1).trans c1))
   all_goals (go_ret; exact ⟨rfl, hk⟩)
  | true =>
   rw [Bool.true_and, Bool.true_and]
   by_cases h2 : kd = 2
   ·subst h2
    rw [if_pos rfl]
    go_enter Tryz.func41, Tryz.ntmps41
    go_wp2_with (first
     | (with_reducible refine wpList_box rfl 70 _ rfl G rfl ?_; intro B3 W3 hN3 hB3 hk)
     | (with_reducible refine wpList_box rfl 43 _ rfl C rfl ?_; intro B4 W4 hN4 hB4 hk4; replace hB3 := hB3.next hk4; replace hk := hk.trans (hk4.mono hk.size); have d0 := (hB4.cell 0).trans c0; have d1 := (hB4.cell 1).trans c1)
     | (with_reducible refine wpList_loadb (by with_unfolding_all rfl) _ _ rfl B4 rfl C hB4 _ Tryz.underlying43 (by kernel_rfl) (size40C hz) ?_)
     | (with_reducible refine wpList_loadb (by with_unfolding_all rfl) _ _ rfl B3 rfl G hB3 _ Tryz.underlying70 (by kernel_rfl) hzv ?_)
     | (go_at_call 75; (with_reducible refine (hke _ hk).mono ?_); rintro e w1 ⟨rfl, hb1⟩; replace hB3 := hB3.next hb1; replace hB4 := hB4.next hb1; replace hk := hk.trans (hb1.mono hk.size); replace d0 := (hB4.cell 0).trans c0; replace d1 := (hB4.cell 1).trans c1)
     | (with_reducible refine wpList_lookup (by with_unfolding_all rfl) _ _ rfl M rfl o.id rfl f (hM.next hk) ?_)
     | (go_at_call 76; (with_reducible refine (hli _ hk).mono ?_); rintro e w2 ⟨rfl, hb2⟩; replace hB3 := hB3.next hb2; replace hB4 := hB4.next hb2; replace hk := hk.trans (hb2.mono hk.size); replace d0 := (hB4.cell 0).trans c0; replace d1 := (hB4.cell 1).trans c1)
     | (go_at_call 77; (with_reducible refine (hup _ hk).mono ?_); rintro e w3 ⟨rfl, hb3⟩; replace hk := hk.trans (hb3.mono hk.size)))
    all_goals (go_ret; exact ⟨rfl, hk⟩)
   ·have h2b : (kd == 2) = false := by simpa using h2
    rw [if_neg h2]
    by_cases h4 : kd = 4
    ·subst h4
     rw [if_pos rfl]
     go_enter Tryz.func41, Tryz.ntmps41
     go_wp2_with (first
      | (with_reducible refine wpList_box rfl 70 _ rfl G rfl ?_; intro B3 W3 hN3 hB3 hk)
      | (with_reducible refine wpList_box rfl 43 _ rfl C rfl ?_; intro B4 W4 hN4 hB4 hk4; replace hB3 := hB3.next hk4; replace hk := hk.trans (hk4.mono hk.size); have d0 := (hB4.cell 0).trans c0; have d1 := (hB4.cell 1).trans c1)
      | (with_reducible refine wpList_loadb (by with_unfolding_all rfl) _ _ rfl B4 rfl C hB4 _ Tryz.underlying43 (by kernel_rfl) (size40C hz) ?_)
      | (with_reducible refine wpList_loadb (by with_unfolding_all rfl) _ _ rfl B3 rfl G hB3 _ Tryz.underlying70 (by kernel_rfl) hzv ?_)
      | (go_at_call 75; (with_reducible refine (hke _ hk).mono ?_); rintro e w1 ⟨rfl, hb1⟩; replace hB3 := hB3.next hb1; replace hB4 := hB4.next hb1; replace hk := hk.trans (hb1.mono hk.size); replace d0 := (hB4.cell 0).trans c0; replace d1 := (hB4.cell 1).trans c1)
      | (with_reducible refine wpList_lookup (by with_unfolding_all rfl) _ _ rfl M rfl o.id rfl f (hM.next hk) ?_)
      | (go_at_call 76; (with_reducible refine (hli _ hk).mono ?_); rintro e w2 ⟨rfl, hb2⟩; replace hB3 := hB3.next hb2; replace hB4 := hB4.next hb2; replace hk := hk.trans (hb2.mono hk.size); replace d0 := (hB4.cell 0).trans c0; replace d1 := (hB4.cell 1).trans c1)
      | (go_at_call 78; (with_reducible refine (how _ hk).mono ?_); rintro e w3 ⟨rfl, hb3⟩; replace hk := hk.trans (hb3.mono hk.size)))
     all_goals (go_ret; exact ⟨rfl, hk⟩)
    ·have h4b : (kd == 4) = false := by simpa using h4
     rw [if_neg h4]
     go_enter Tryz.func41, Tryz.ntmps41
     go_wp2_with (first
      | (with_reducible refine wpList_box rfl 70 _ rfl G rfl ?_; intro B3 W3 hN3 hB3 hk)
      | (with_reducible refine wpList_box rfl 43 _ rfl C rfl ?_; intro B4 W4 hN4 hB4 hk4; replace hB3 := hB3.next hk4; replace hk := hk.trans (hk4.mono hk.size); have d0 := (hB4.cell 0).trans c0; have d1 := (hB4.cell 1).trans c1)
      | (with_reducible refine wpList_loadb (by with_unfolding_all rfl) _ _ rfl B4 rfl C hB4 _ Tryz.underlying43 (by kernel_rfl) (size40C hz) ?_)
      | (with_reducible refine wpList_loadb (by with_unfolding_all rfl) _ _ rfl B3 rfl G hB3 _ Tryz.underlying70 (by kernel_rfl) hzv ?_)
      | (go_at_call 75; (with_reducible refine (hke _ hk).mono ?_); rintro e w1 ⟨rfl, hb1⟩; replace hB3 := hB3.next hb1; replace hB4 := hB4.next hb1; replace hk := hk.trans (hb1.mono hk.size); replace d0 := (hB4.cell 0).trans c0; replace d1 := (hB4.cell 1).trans c1)
      | (with_reducible refine wpList_lookup (by with_unfolding_all rfl) _ _ rfl M rfl o.id rfl f (hM.next hk) ?_)
      | (go_at_call 76; (with_reducible refine (hli _ hk).mono ?_); rintro e w2 ⟨rfl, hb2⟩; replace hB3 := hB3.next hb2; replace hB4 := hB4.next hb2; replace hk := hk.trans (hb2.mono hk.size); replace d0 := (hB4.cell 0).trans c0; replace d1 := (hB4.cell 1).trans c1))
     all_goals (go_ret; exact ⟨rfl, hk⟩)
end Go.Proofs.YtnhjfjhbmekamaaGreat
namespace Go.Proofs.YtnhjfjhbmekamaaGreat
set_option maxRecDepth 100000
set_option maxHeartbeats 8000000
open Go.RowKit Go.Shelf
set_option linter.unusedVariables false
attribute [local go_sem] Oper.semAt_some

theorem fit1_v {w : World} {t ro : Int} {key M Bv Bh : Nat} {ao : Option Addr} {n cap : Nat} {X : List Ob} {Cf : Nat → Array Value} {C : Array Value} {o : Ob} {f : Int → Int × Int} (h : ObsF (LtN w) (LtN w) w ao n cap X Cf) (hs : Srt X) (hn16 : n ≤ 4096) (hq : ∀ x ∈ X, 0 ≤ x.quota ∧ x.quota ≤ 4096) (hlb : ∀ x ∈ X, x.label.length < 1048576) (hw : ∀ x ∈ X, WdO x) (ho : ObD (LtN w) w C o) (hsm : Small o) (hoq : 0 ≤ o.quota ∧ o.quota ≤ 4096) (hol : o.label.length < 1048576) (hwo : WdO o) (hM : MapF w M f)
  (hBv : Blk w Bv #[.int .i64 t, .int .u64 (key : Int), .int .u64 ro, .slice ao n cap] 70) (hBh : Boxed w Bh 71 (.map (some M))) : Calls Tryz.prog 40 #[.agg C, .pointer (some ⟨Bv, 0, none⟩), .pointer (some ⟨Bh, 0, none⟩)] w fun e w' => e = .returned (.bool (whoB key X ro f o)) ∧ Below w.heap.size w w' := by
 have hz := ho.size
 have hzv : (Tryz.prog.info? 70).map (·.size) = some (#[.int .i64 t, .int .u64 (key : Int), .int .u64 ro, .slice ao n cap] : Array Value).size := by kernel_rfl
 have hwh := fun (W : World) (hk : Below w.heap.size w W) => whole_v (t := t) (ro := ro) (key := key) (h.next hk) hs hn16 hq hlb hw (ho.next hk) hsm hoq hol hwo (hM.next hk)
 obtain ⟨G, hG⟩ : ∃ G : Array Value, Hid (G = #[.int .i64 t, .int .u64 (key : Int), .int .u64 ro, .slice ao n cap]) := ⟨_, rfl⟩
 rw [← hG.out] at hzv hwh hBv
 generalize whoB key X ro f o = b at hwh ⊢
 go_enter Tryz.func40, Tryz.ntmps40
 go_wp2_with (first
  | (with_reducible refine wpList_box rfl 43 _ rfl C rfl ?_; intro B4 W4 hN4 hB4 hk; have hv4 := hBv.next hk; have ch := (hk.cell (p := ⟨Bh, 0, none⟩) hBh.lt).trans hBh.cell)
  | (with_reducible refine wpList_loadb (by kernel_rfl) _ _ rfl B4 rfl C hB4 _ Tryz.underlying43 (by kernel_rfl) (size40C hz) ?_)
  | (with_reducible refine wpList_loadb (by kernel_rfl) _ _ rfl Bv rfl G hv4 _ Tryz.underlying70 (by kernel_rfl) hzv ?_)
  | (go_at_call 41; (with_reducible refine (hwh _ hk).mono ?_); rintro e w1 ⟨rfl, hb1⟩; replace hk := hk.trans (hb1.mono hk.size)))
 go_ret
 exact ⟨rfl, hk⟩
end Go.Proofs.YtnhjfjhbmekamaaGreat
