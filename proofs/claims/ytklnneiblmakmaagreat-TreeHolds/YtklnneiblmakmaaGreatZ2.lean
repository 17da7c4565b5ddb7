/-
 PROVED HERE: what each function of package level, and of the document's answer to it, returns when it is called (contracts . What is asked stands at each.
-/
import Derived.Test.YtklnneiblmakmaaGreatRows
import Derived.WalkKit
import Derived.ProofKit
import Derived.OpenShut
import Derived.Below
import Derived.WalkSmall
import Derived.Deep.QuietTactic
import Derived.BigQuiet
import Derived.Test.YtklnneiblmakmaaGreatZ0
import Derived.Test.YtklnneiblmakmaaGreatZ1
namespace Go.Proofs.YtklnneiblmakmaaGreat
set_option maxRecDepth 100000
set_option maxHeartbeats 8000000
set_option linter.unusedVariables false
open Go.Proofs.Tryz
section
open Go.ChangeShapes Go.WideShapes Go.ChangeAt Go.RowKit
theorem next {w a b : World} (h : Below w.heap.size w a) (k : Below a.heap.size a b) : Below w.heap.size w b := btz h k
theorem fit_any (n : Int) (w : World) : Calls prog 182 #[.int .i64 n] w fun e w' => e = .returned (.bool (Lv.fit n)) ∧ w' = w := by
 by_cases h0 : 0 ≤ n
 ·by_cases h5 : n ≤ 5
  ·have hf : Lv.fit n = true := by simp [Lv.fit, h0, h5]
   rw [hf]
   go_enter func182, ntmps182
   go_wp2
   go_ret
   exact ⟨rfl, rfl⟩
  ·have hf : Lv.fit n = false := by simp [Lv.fit, h0, h5]
   rw [hf]
   go_enter func182, ntmps182
   go_wp2
   go_ret
   exact ⟨rfl, rfl⟩
 ·have hf : Lv.fit n = false := by simp [Lv.fit, h0]
  rw [hf]
  go_enter func182, ntmps182
  go_wp2
  go_ret
  exact ⟨rfl, rfl⟩
theorem wHz (n : Int) (w : World) : Calls prog 164 #[.int .i64 n] w fun e w' => e = .returned (.int .i64 (Lv.lv n)) ∧ w' = w := by
 by_cases h : 0 ≤ n ∧ n ≤ 5
 ·have hf : Lv.fit n = true := by simp [Lv.fit, h]
  have hl : Lv.lv n = n := Lv.lv_of h.1 h.2
  rw [hl]
  clear h hl
  go_enter func164, ntmps164
  go_wp2_with (go_at_call 182; refine (fit_any _ _).mono ?_; rintro e w' ⟨rfl, rfl⟩)
  go_ret
  exact ⟨rfl, rfl⟩
 ·have hf : Lv.fit n = false := by simp [Lv.fit, h]
  have hl : Lv.lv n = 2 := Lv.lv_no h
  rw [hl]
  clear h hl
  go_enter func164, ntmps164
  go_wp2_with (go_at_call 182; refine (fit_any _ _).mono ?_; rintro e w' ⟨rfl, rfl⟩)
  go_ret
  exact ⟨rfl, rfl⟩
theorem uZz (a b : Int) (w : World) : Calls prog 160 #[.int .i64 a, .int .i64 b] w fun e w' => e = .returned (.bool (Lv.leq a b)) ∧ w' = w := by
 unfold Lv.leq
 go_enter func160, ntmps160
 go_wp2_with (go_at_call 164; refine (wHz _ _).mono ?_; rintro e w' ⟨rfl, rfl⟩)
 go_ret
 exact ⟨rfl, rfl⟩
theorem j3z (b : Nat) (x y : Int) (w : World) (c0 : w.cell? ⟨b, 0, none⟩ = some (.int .i64 x)) (c1 : w.cell? ⟨b, 1, none⟩ = some (.int .i64 y)) :
  Calls prog 162 #[.slice (some ⟨b, 0, none⟩) 2 2] w fun e w' => e = .returned (.int .i64 (Lv.join x y)) ∧ w' = w := by
 have x0 := Lv.lv_lo x
 go_enter func162, ntmps162
 go_wp2
 go_loop [3, 8] (fun t i => (i = .int .i64 0 ∧ t = .int .i64 0) ∨ (i = .int .i64 1 ∧ t = .int .i64 (Lv.lv x)) ∨ (i = .int .i64 2 ∧ t = .int .i64 (Lv.join x y))) (fun _ i => (2 - intOf i).toNat)
 case atStart => exact .inl ⟨rfl, rfl⟩
 case round =>
  rcases hrel with ⟨rfl, rfl⟩ | ⟨rfl, rfl⟩ | ⟨rfl, rfl⟩
  ·by_cases h : 0 < Lv.lv x
   ·go_wp2_with (go_at_call 164; refine (wHz _ _).mono ?_; rintro e w' ⟨rfl, rfl⟩)
    go_round
    case rel => exact .inr (.inl ⟨rfl, rfl⟩)
    case measure => simp [intOf]
   ·have hx : Hid (Lv.lv x = 0) := by show Lv.lv x = 0; omega
    go_wp2_with (go_at_call 164; refine (wHz _ _).mono ?_; rintro e w' ⟨rfl, rfl⟩)
    go_round
    case rel => exact .inr (.inl ⟨rfl, by rw [hx.out]⟩)
    case measure => simp [intOf]
  ·by_cases h : Lv.lv x < Lv.lv y
   ·have hj : Hid (Lv.join x y = Lv.lv y) := by show Lv.join x y = Lv.lv y; unfold Lv.join; rw [if_pos h]
    go_wp2_with (go_at_call 164; refine (wHz _ _).mono ?_; rintro e w' ⟨rfl, rfl⟩)
    go_round
    case rel => exact .inr (.inr ⟨rfl, by rw [hj.out]⟩)
    case measure => simp [intOf]
   ·have hj : Hid (Lv.join x y = Lv.lv x) := by show Lv.join x y = Lv.lv x; unfold Lv.join; rw [if_neg h]
    go_wp2_with (go_at_call 164; refine (wHz _ _).mono ?_; rintro e w' ⟨rfl, rfl⟩)
    go_round
    case rel => exact .inr (.inr ⟨rfl, by rw [hj.out]⟩)
    case measure => simp [intOf]
  ·go_wp2
   go_ret
   exact ⟨rfl, rfl⟩
theorem uDz (n : Int) (w : World) : Calls prog 131 #[.int .i64 n] w fun e w' => e = .returned (.int .i64 (Lv.raise n)) ∧ w' = w := by
 by_cases h : n = 0
 ·subst h
  have hr : Lv.raise 0 = 5 := by decide
  rw [hr]
  go_enter func131, ntmps131
  go_wp2
  go_ret
  exact ⟨rfl, rfl⟩
 ·have hn : (n == 0) = false := by simpa using h
  have hr : Lv.raise n = Lv.lv n := by unfold Lv.raise Lv.lv; split <;> simp_all
  rw [hr]
  clear h hr
  go_enter func131, ntmps131
  go_wp2_with (go_at_call 164; refine (wHz _ _).mono ?_; rintro e w' ⟨rfl, rfl⟩)
  go_ret
  exact ⟨rfl, rfl⟩
theorem join_any (a b : Int) (w : World) : Calls prog 129 #[.int .i64 a, .int .i64 b] w fun e w' => e = .returned (.int .i64 (Lv.join a b)) ∧ Below w.heap.size w w' := by
 go_enter func129, ntmps129
 go_wp2_with (go_at_call 162; refine (j3z _ a b _ (by go_simp) (by go_simp)).mono ?_; rintro e w' ⟨rfl, rfl⟩)
 go_ret
 exact ⟨rfl, (Below.refl _ _).alloc (Nat.le_refl _) _⟩
theorem jTz (n : Int) (w : World) : Calls prog 92 #[.int .i64 n] w fun e w' => e = .returned (.int .i64 (Lv.lv n)) ∧ w' = w := by
 by_cases h0 : n < 0
 ·have hl : Lv.lv n = 2 := Lv.lv_no (by omega)
  rw [hl]
  clear hl
  go_enter func92, ntmps92
  go_wp2
  go_ret
  exact ⟨rfl, rfl⟩
 ·by_cases h5 : 5 < n
  ·have hl : Lv.lv n = 2 := Lv.lv_no (by omega)
   rw [hl]
   clear hl
   go_enter func92, ntmps92
   go_wp2
   go_ret
   exact ⟨rfl, rfl⟩
  ·have hl : Lv.lv n = n := Lv.lv_of (by omega) (by omega)
   rw [hl]
   clear hl
   go_enter func92, ntmps92
   go_wp2
   go_ret
   exact ⟨rfl, rfl⟩
theorem rfit_any (n : Int) (w : World) : Calls prog 91 #[.int .i64 n] w fun e w' => e = .returned (.bool (Lv.fit n)) ∧ w' = w := by
 by_cases h0 : 0 ≤ n
 ·by_cases h5 : n ≤ 5
  ·have hf : Lv.fit n = true := by simp [Lv.fit, h0, h5]
   rw [hf]
   go_enter func91, ntmps91
   go_wp2
   go_ret
   exact ⟨rfl, rfl⟩
  ·have hf : Lv.fit n = false := by simp [Lv.fit, h0, h5]
   rw [hf]
   go_enter func91, ntmps91
   go_wp2
   go_ret
   exact ⟨rfl, rfl⟩
 ·have hf : Lv.fit n = false := by simp [Lv.fit, h0]
  rw [hf]
  go_enter func91, ntmps91
  go_wp2
  go_ret
  exact ⟨rfl, rfl⟩
theorem xWz (a b : Int) (w : World) : Calls prog 61 #[.int .i64 a, .int .i64 b] w fun e w' => e = .returned (.bool (Lv.leq a b)) ∧ w' = w := by
 unfold Lv.leq
 go_enter func61, ntmps61
 go_wp2_with (go_at_call 92; refine (jTz _ _).mono ?_; rintro e w' ⟨rfl, rfl⟩)
 go_ret
 exact ⟨rfl, rfl⟩
theorem jLz (a b : Int) (w : World) : Calls prog 114 #[.int .i64 a, .int .i64 b] w fun e w' => e = .returned (.int .i64 (Lv.join a b)) ∧ w' = w := by
 by_cases h : Lv.lv b < Lv.lv a
 ·have hj : Lv.join a b = Lv.lv a := by unfold Lv.join; rw [if_neg (by omega)]
  rw [hj]
  clear hj
  go_enter func114, ntmps114
  go_wp2_with (go_at_call 92; refine (jTz _ _).mono ?_; rintro e w' ⟨rfl, rfl⟩)
  go_ret
  exact ⟨rfl, rfl⟩
 ·have hj : Lv.join a b = Lv.lv b := by unfold Lv.join; split <;> omega
  rw [hj]
  clear hj
  go_enter func114, ntmps114
  go_wp2_with (go_at_call 92; refine (jTz _ _).mono ?_; rintro e w' ⟨rfl, rfl⟩)
  go_ret
  exact ⟨rfl, rfl⟩
theorem ywz (n : Int) (w : World) : Calls prog 115 #[.int .i64 n] w fun e w' => e = .returned (.int .i64 (Lv.raise n)) ∧ w' = w := by
 by_cases h : Lv.lv n = 0
 ·have hr : Lv.raise n = 5 := by unfold Lv.raise; rw [if_pos h]
  have hn : (Lv.lv n == 0) = true := by simpa using h
  rw [hr]
  clear h hr
  go_enter func115, ntmps115
  go_wp2_with (go_at_call 92; refine (jTz _ _).mono ?_; rintro e w' ⟨rfl, rfl⟩)
  go_ret
  exact ⟨rfl, rfl⟩
 ·have hr : Lv.raise n = Lv.lv n := by unfold Lv.raise; rw [if_neg h]
  have hn : (Lv.lv n == 0) = false := by simpa using h
  rw [hr]
  clear h hr
  go_enter func115, ntmps115
  go_wp2_with (go_at_call 92; refine (jTz _ _).mono ?_; rintro e w' ⟨rfl, rfl⟩)
  go_ret
  exact ⟨rfl, rfl⟩
end
section
open Go.ChangeShapes Go.WideShapes Go.ChangeAt Go.RowKit
theorem xaz {B : Nat} {w : World} {ao : Option Addr} {n cap : Nat} {L : List (Int × Int)} (c : Int) (hL : Lab B w ao n cap L) :
  Calls prog 62 #[.slice ao n cap, .int .u64 c] w fun e w' => e = .returned (.int .i64 (get L c)) ∧ w' = w := by
 have hn := hL.1
 have hnc := hL.2.1
 have hcm := hL.2.2.1.1
 go_enter func62, ntmps62
 go_wp2
 go_loop [5] (fun i => ∃ k : Nat, k ≤ n ∧ i = .int .i64 k ∧ get (L.drop k) c = get L c) (fun i => n - (intOf i).toNat)
 case atStart => exact ⟨0, Nat.zero_le _, rfl, by simp⟩
 case round =>
  obtain ⟨k, hk, rfl, hg⟩ := hrel
  by_cases hkn : k < n
  ·obtain ⟨b, off, x, y, rfl, hbB, d0, d1, hxy⟩ := hL.at (Below.refl _ _) hkn
   clear hL
   by_cases hxc : x = c
   ·have hr : Hid (get L c = y) := hg.symm.trans (get_hit (by omega) hxy.out hxc)
    clear hg
    go_wp2
    go_ret
    exact ⟨by rw [hr.out]; rfl, rfl⟩
   ·have hr : Hid (get (L.drop (k + 1)) c = get L c) := (get_miss (by omega) hxy.out hxc).symm.trans hg
    clear hg
    go_wp2
    go_round
    case rel => exact ⟨k + 1, by omega, by go_num, hr.out⟩
    case measure => simp [intOf]; omega
  ·have hr : Hid (get L c = 2) := hg.symm.trans (get_end (by omega) c)
   clear hg hL
   go_wp2
   go_ret
   exact ⟨by rw [hr.out]; rfl, rfl⟩
theorem lfit_any {B : Nat} {w : World} {ao : Option Addr} {n cap : Nat} {L : List (Int × Int)} (hL : Lab B w ao n cap L) (hB : B ≤ w.heap.size) :
  Calls prog 165 #[.slice ao n cap] w fun e w' => e = .returned (.bool (fitB L)) ∧ Below w.heap.size w w' := by
 have hn := hL.1
 have hnc := hL.2.1
 have hcm := hL.2.2.1.1
 go_enter func165, ntmps165
 go_wp2
 go_loopw [7] (fun i wr => ∃ k : Nat, k ≤ n ∧ i = .int .i64 k ∧ (∀ j, j < k → okAt L j = true) ∧ Below w.heap.size w wr) (fun i _ => n - (intOf i).toNat)
 case atStart => exact ⟨0, Nat.zero_le _, rfl, fun j hj => absurd hj (by omega), Below.refl _ _⟩
 case round =>
  obtain ⟨k, hk, rfl, hg, hb⟩ := hrel
  by_cases hkn : k < n
  ·obtain ⟨b, off, x, y, rfl, hbB, d0, d1, hxy⟩ := hL.at (hb.mono hB) hkn
   have hG : Hid (∀ j, j < k → okAt L j = true) := hg
   clear hg
   cases hf : Lv.fit y with
   | false =>
    have hr : Hid (fitB L = false) := fitB_no (k := k) (by omega) (v8z hxy.out hf)
    clear hL
    go_wp2_with (go_at_call 182; refine (fit_any _ _).mono ?_; rintro e w' ⟨rfl, rfl⟩)
    go_ret
    exact ⟨by rw [hr.out]; rfl, hb.alloc hb.size _⟩
   | true =>
    by_cases h2 : y = 2
    ·have hr : Hid (fitB L = false) := fitB_no (k := k) (by omega) (v7z hxy.out h2)
     clear hL
     go_wp2_with (go_at_call 182; refine (fit_any _ _).mono ?_; rintro e w' ⟨rfl, rfl⟩)
     go_ret
     exact ⟨by rw [hr.out]; rfl, hb.alloc hb.size _⟩
    ·by_cases h0 : k = 0
     ·subst h0
      have ho : Hid (okAt L 0 = true) := jRz hxy.out hf h2
      simp only [Nat.zero_mul, Nat.add_zero] at d0 d1
      clear hL
      go_wp2_with (go_at_call 182; refine (fit_any _ _).mono ?_; rintro e w' ⟨rfl, rfl⟩)
      go_quiet (fail)
      go_wp2
      go_roundw
      case rel => exact ⟨1, by omega, by go_num, all_succ hG.out ho.out, below_drewN (hb.alloc hb.size _) _⟩
      case measure => simp [intOf]; omega
     ·obtain ⟨m, rfl⟩ : ∃ m, k = m + 1 := ⟨k - 1, by omega⟩
      obtain ⟨b', off', x', y', hbo, _, d2, _, hxy'⟩ := hL.at (hb.mono hB) (i := m) (by omega)
      simp only [Option.some.injEq, Addr.mk.injEq, and_true] at hbo
      obtain ⟨rfl, rfl⟩ := hbo
      have hwm : IntKind.i64.wrap (m : Int) = m := wrapN (by omega)
      have hmn : (m : Int) < n := by omega
      have d3 : ∀ o, (wr.alloc o).cell? ⟨b, off + m * 2, none⟩ = some (.int .u64 x') := fun o => cellLater d2 o
      by_cases hxx : x ≤ x'
      ·have hr : Hid (fitB L = false) := fitB_no (k := m + 1) (by omega) (v9z hxy.out hxy'.out (by omega) hxx)
       clear hL
       go_wp2_with (go_at_call 182; refine (fit_any _ _).mono ?_; rintro e w' ⟨rfl, rfl⟩)
       go_quiet (fail)
       go_wp2
       go_ret
       exact ⟨by rw [hr.out]; rfl, below_drewN (hb.alloc hb.size _) _⟩
      ·have ho : Hid (okAt L (m + 1) = true) := v6z hxy.out hf h2 hxy'.out (by omega)
       clear hL
       go_wp2_with (go_at_call 182; refine (fit_any _ _).mono ?_; rintro e w' ⟨rfl, rfl⟩)
       go_quiet (fail)
       go_wp2
       go_roundw
       case rel => exact ⟨m + 1 + 1, by omega, by go_num, all_succ hG.out ho.out, below_drewN (hb.alloc hb.size _) _⟩
       case measure => simp [intOf]; omega
  ·have hr : Hid (fitB L = true) := fitB_yes (fun j hj => hg j (by omega))
   clear hg hL
   go_wp2
   go_ret
   exact ⟨by rw [hr.out]; rfl, hb⟩
end
end Go.Proofs.YtklnneiblmakmaaGreat
