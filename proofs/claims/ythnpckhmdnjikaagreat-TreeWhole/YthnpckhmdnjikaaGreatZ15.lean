/-
 PROVED HERE: what each function of package serial that has no call of perm, and its like of the document's answer, returns . What is asked stands at each.
-/
import Derived.Test.YthnpckhmdnjikaaGreatRows
import Derived.RegionTactic
import Derived.ChangeAlike
import Derived.Deep.RegionHeld3
import Derived.Deep.DeepCutAuto
import Derived.Deep.QuietTactic
import Derived.BigQuiet
import Derived.Test.YthnpckhmdnjikaaGreatZ13
import Derived.Test.YthnpckhmdnjikaaGreatZ14
namespace Go.Proofs.YthnpckhmdnjikaaGreat
set_option maxRecDepth 100000
set_option maxHeartbeats 8000000
set_option linter.unusedVariables false
open Go.Proofs.Tryz
namespace SrM
open Go.ChangeShapes Go.WideShapes Go.ChangeAt Go.RowKit
def ltB (a b : Nat) : Bool := decide (a < b)
def hasB (a b n : Nat) : Bool := decide (a ≤ n) && decide (n < b)
theorem some_any (a b : Nat) (w : World) :
  Calls prog 143 #[.agg #[.int .u64 (a : Int), .int .u64 (b : Int)]] w fun e w' => e = .returned (.bool (ltB a b)) ∧ Below w.heap.size w w' := by
 have hB := (brp1 w.heap.size w).alloc (lrp1 _) (.cells #[.int .u64 (a : Int), .int .u64 (b : Int)] 154)
 go_enter func143, ntmps143
 go_wp2
 go_ret
 exact ⟨rfl, hB⟩
theorem has_any (a b n : Nat) (w : World) :
  Calls prog 144 #[.agg #[.int .u64 (a : Int), .int .u64 (b : Int)], .int .u64 (n : Int)] w fun e w' => e = .returned (.bool (hasB a b n)) ∧ Below w.heap.size w w' := by
 have hB := (brp1 w.heap.size w).alloc (lrp1 _) (.cells #[.int .u64 (a : Int), .int .u64 (b : Int)] 154)
 by_cases h : a ≤ n
 ·have e : Hid (hasB a b n = decide (n < b)) := by show hasB a b n = _; unfold hasB; rw [decide_eq_true h, Bool.true_and]
  go_enter func144, ntmps144
  go_wp2
  go_ret
  exact ⟨by rw [e.out]; rfl, hB⟩
 ·have e : Hid (hasB a b n = false) := by show hasB a b n = _; unfold hasB; rw [decide_eq_false h, Bool.false_and]
  go_enter func144, ntmps144
  go_wp2
  go_ret
  exact ⟨by rw [e.out]; rfl, hB⟩
def mxN (a c : Nat) : Nat := max a c
def mnN (b d : Nat) : Nat := min b d
theorem common_any (a b c d : Nat) (w : World) :
  Calls prog 142 #[.agg #[.int .u64 (a : Int), .int .u64 (b : Int)], .agg #[.int .u64 (c : Int), .int .u64 (d : Int)]] w fun e w' => e = .returned (.agg #[.int .u64 (mxN a c : Nat), .int .u64 (mnN b d : Nat)]) ∧ Below w.heap.size w w' := by
 have hB : ∀ x y : Int, Below w.heap.size w (((w.alloc (Obj.cells #[.int .u64 (a : Int), .int .u64 (b : Int)] 154)).alloc (Obj.cells #[.int .u64 (c : Int), .int .u64 (d : Int)] 154)).alloc (Obj.cells #[.int .u64 x, .int .u64 y] 154)) := fun x y =>
  (((brp1 _ w).alloc (lrp1 _) _).alloc (by simp) _).alloc (by simp; omega) _
 go_enter func142, ntmps142
 go_wp2
 ·rename_i h1
  have e1 : mxN a c = c := by unfold mxN; omega
  have e2 : mnN b d = d := by unfold mnN; omega
  rw [e1, e2]
  exact bodyPost_ret (v := .agg #[.int .u64 (c : Int), .int .u64 (d : Int)]) (by simp [results, Tryz.f142, go_sem]) rfl ⟨rfl, hB _ _⟩
 ·rename_i h1
  have e1 : mxN a c = c := by unfold mxN; omega
  have e2 : mnN b d = b := by unfold mnN; omega
  rw [e1, e2]
  exact bodyPost_ret (v := .agg #[.int .u64 (c : Int), .int .u64 (b : Int)]) (by simp [results, Tryz.f142, go_sem]) rfl ⟨rfl, hB _ _⟩
 ·rename_i h1
  have e1 : mxN a c = a := by unfold mxN; omega
  have e2 : mnN b d = d := by unfold mnN; omega
  rw [e1, e2]
  exact bodyPost_ret (v := .agg #[.int .u64 (a : Int), .int .u64 (d : Int)]) (by simp [results, Tryz.f142, go_sem]) rfl ⟨rfl, hB _ _⟩
 ·rename_i h1
  have e1 : mxN a c = a := by unfold mxN; omega
  have e2 : mnN b d = b := by unfold mnN; omega
  rw [e1, e2]
  exact bodyPost_ret (v := .agg #[.int .u64 (a : Int), .int .u64 (b : Int)]) (by simp [results, Tryz.f142, go_sem]) rfl ⟨rfl, hB _ _⟩
def apartB (a b c d : Nat) : Bool := !ltB (mxN a c) (mnN b d)
theorem apart_any (a b c d : Nat) (w : World) :
  Calls prog 110 #[.agg #[.int .u64 (a : Int), .int .u64 (b : Int)], .agg #[.int .u64 (c : Int), .int .u64 (d : Int)]] w fun e w' => e = .returned (.bool (apartB a b c d)) ∧ Below w.heap.size w w' := by
 have hB := ((brp1 w.heap.size w).alloc (lrp1 _) (.cells #[.int .u64 (a : Int), .int .u64 (b : Int)] 36)).alloc (by simp) (.cells #[.int .u64 (c : Int), .int .u64 (d : Int)] 36)
 go_enter func110, ntmps110
 go_wp2_with (first | (go_at_call 142; refine (common_any _ _ _ _ _).mono ?_; rintro e w1 ⟨rfl, hb⟩; replace hB := btp1 hB hb; clear hb) | (go_at_call 143; refine (some_any _ _ _).mono ?_; rintro e w1 ⟨rfl, hb⟩; replace hB := btp1 hB hb; clear hb))
 go_ret
 exact ⟨rfl, hB⟩
end SrM
namespace SrM
open Go.ChangeShapes Go.WideShapes Go.ChangeAt Go.RowKit
structure Giver (w : World) (a b : Nat) (w3 : World) : Prop where
 s : Two w3 w.heap.size 36 (.int .u64 (a : Int)) (.int .u64 (b : Int))
 r : Two w3 (w.heap.size + 1) 36 (.int .u64 0) (.int .u64 0)
 g : Two w3 (w.heap.size + 1 + 1) 999 (.int .u64 (a : Int)) (.int .u64 (b : Int))
 bel : Below w.heap.size w w3
theorem Giver.next {w w3 w4 : World} {a b : Nat} (h : Giver w a b w3) (k : Below w3.heap.size w3 w4) : Giver w a b w4 :=
 ⟨h.s.next k, h.r.next k, h.g.next k, h.bel.trans (k.mono h.bel.size)⟩
structure bKz (w : World) (a b : Nat) (w3 : World) : Prop where
 s : Two w3 w.heap.size 36 (.int .u64 (a : Int)) (.int .u64 (b : Int))
 r : Two w3 (w.heap.size + 1) 36 (.int .u64 0) (.int .u64 0)
 t : Two w3 (w.heap.size + 1 + 1) 36 (.int .u64 0) (.int .u64 0)
 g : Two w3 (w.heap.size + 1 + 1 + 1) 999 (.int .u64 (a : Int)) (.int .u64 (b : Int))
 bel : Below w.heap.size w w3
theorem bKz.next {w w3 w4 : World} {a b : Nat} (h : bKz w a b w3) (k : Below w3.heap.size w3 w4) : bKz w a b w4 :=
 ⟨h.s.next k, h.r.next k, h.t.next k, h.g.next k, h.bel.trans (k.mono h.bel.size)⟩
end SrM
namespace SrM
open Go.ChangeShapes Go.WideShapes Go.ChangeAt Go.RowKit
theorem below_drewN {n : Nat} {w W : World} (h : Below n w W) (k : Nat) : Below n w (W.drewN k) := h.trans ⟨rfl, rfl, rfl, lrp1 _, fun _ _ => rfl⟩
def hasK (k a b m : Nat) : Bool := (decide (1 ≤ m) && decide (m ≤ 2305843009213693952)) && hasB a b (Pm.numN k m)
theorem Has_any {k a b m : Nat} (hm : m < 18446744073709551616) (w : World) :
  Calls prog 111 #[.int .u64 (k : Int), .agg #[.int .u64 (a : Int), .int .u64 (b : Int)], .int .u64 (m : Int)] w fun e w' => e = .returned (.bool (hasK k a b m)) ∧ Below w.heap.size w w' := by
 have hB := (brp1 w.heap.size w).alloc (lrp1 _) (.cells #[.int .u64 (a : Int), .int .u64 (b : Int)] 36)
 have hT := Two.new w 36 (.int .u64 (a : Int)) (.int .u64 (b : Int))
 have hn := fun w => num_any (key := k) hm w
 have hr : Hid (hasK k a b m = ((decide (1 ≤ m) && decide (m ≤ 2305843009213693952)) && hasB a b (Pm.numN k m))) := rfl
 obtain ⟨y, hy⟩ : ∃ y, Hid (Pm.numN k m = y) := ⟨_, rfl⟩
 rw [hy.out] at hr
 simp only [hy.out] at hn
 go_enter func111, ntmps111
 go_upto_region 1 with fail
 obtain ⟨W, hW⟩ : ∃ W, Hid (w.alloc (.cells #[.int .u64 (a : Int), .int .u64 (b : Int)] 36) = W) := ⟨_, rfl⟩
 rw [hW.out] at hT hB ⊢
 clear hW
 have d0 := hT.cell0
 have d1 := hT.cell1
 by_cases h1 : 1 ≤ m
 ·have v1 : decide ((1 : Int) ≤ (m : Int)) = true := decide_eq_true (by omega)
  by_cases h2 : m ≤ 2305843009213693952
  ·have e : Hid (hasK k a b m = hasB a b y) := by show _ = _; rw [hr.out, decide_eq_true h1, decide_eq_true h2]; rfl
   have v2 : decide ((m : Int) ≤ 2305843009213693952) = true := decide_eq_true (by omega)
   clear hr h1 h2
   go_region_held3 (fun w' => w'.cell? ⟨w.heap.size, 0, none⟩ = some (.int .u64 (a : Int)) ∧ w'.cell? ⟨w.heap.size, 1, none⟩ = some (.int .u64 (b : Int))) (go_keep) (first | (go_at_call 145; refine (hn _).mono ?_; rintro e w1 ⟨rfl, hb1⟩; have hb2 : Below W.heap.size W w1 := (brp1 _ W).drew.trans hb1; have c0 := (hT.next hb2).cell0; have c1 := (hT.next hb2).cell1) | (go_at_call 144; refine (has_any _ _ _ _).mono ?_; rintro e w2 ⟨rfl, hb3⟩; have z0 := ((hT.next hb2).next hb3).cell0; have z1 := ((hT.next hb2).next hb3).cell1))
   go_wp2
   go_ret
   exact ⟨by rw [e.out]; rfl, (btp1 hB hb2).trans (hb3.mono (Nat.le_trans hB.size hb2.size))⟩
  ·have e : Hid (hasK k a b m = false) := by show _ = _; rw [hr.out, decide_eq_true h1, decide_eq_false h2]; rfl
   have v2 : decide ((m : Int) ≤ 2305843009213693952) = false := decide_eq_false (by omega)
   clear hr h1 h2
   go_quiet (fail)
   go_wp2
   go_ret
   exact ⟨by rw [e.out]; rfl, below_drewN hB _⟩
 ·have e : Hid (hasK k a b m = false) := by show _ = _; rw [hr.out, decide_eq_false h1]; rfl
  have v1 : decide ((1 : Int) ≤ (m : Int)) = false := decide_eq_false (by omega)
  clear hr h1
  go_quiet (fail)
  go_wp2
  go_ret
  exact ⟨by rw [e.out]; rfl, below_drewN hB _⟩
end SrM
end Go.Proofs.YthnpckhmdnjikaaGreat
