/-
 PROVED HERE: what each function of package level, and of the document's answer to it, returns when it is called (contracts . What is asked stands at each.
-/
import Derived.Test.YtlaagheeemkklaaRows
import Derived.WalkKit
import Derived.ProofKit
import Derived.OpenShut
import Derived.Below
import Derived.WalkSmall
import Derived.Deep.QuietTactic
import Derived.BigQuiet
import Derived.Test.YtlaagheeemkklaaZ0
namespace Go.Proofs.Ytlaagheeemkklaa
set_option maxRecDepth 100000
set_option maxHeartbeats 8000000
open Go.ChangeShapes Go.WideShapes Go.ChangeAt Go.RowKit
set_option linter.unusedVariables false

theorem fit_any (n : Int) (w : World) : Calls Try.prog 88 #[.int .i64 n] w fun e w' => e = .returned (.bool (Lv.fit n)) ∧ w' = w := by
 by_cases h0 : 0 ≤ n
 ·by_cases h5 : n ≤ 5
  ·have hf : Lv.fit n = true := by simp [Lv.fit, h0, h5]
   rw [hf]
   go_enter Try.func88, Try.ntmps88
   go_wp2
   go_ret
   exact ⟨rfl, rfl⟩
  ·have hf : Lv.fit n = false := by simp [Lv.fit, h0, h5]
   rw [hf]
   go_enter Try.func88, Try.ntmps88
   go_wp2
   go_ret
   exact ⟨rfl, rfl⟩
 ·have hf : Lv.fit n = false := by simp [Lv.fit, h0]
  rw [hf]
  go_enter Try.func88, Try.ntmps88
  go_wp2
  go_ret
  exact ⟨rfl, rfl⟩

theorem meant_any (n : Int) (w : World) : Calls Try.prog 98 #[.int .i64 n] w fun e w' => e = .returned (.int .i64 (Lv.lv n)) ∧ w' = w := by
 by_cases h : 0 ≤ n ∧ n ≤ 5
 ·have hf : Lv.fit n = true := by simp [Lv.fit, h]
  have hl : Lv.lv n = n := Lv.lv_of h.1 h.2
  rw [hl]
  clear h hl
  go_enter Try.func98, Try.ntmps98
  go_wp2_with (go_at_call 88; refine (fit_any _ _).mono ?_; rintro e w' ⟨rfl, rfl⟩)
  go_ret
  exact ⟨rfl, rfl⟩
 ·have hf : Lv.fit n = false := by simp [Lv.fit, h]
  have hl : Lv.lv n = 2 := Lv.lv_no h
  rw [hl]
  clear h hl
  go_enter Try.func98, Try.ntmps98
  go_wp2_with (go_at_call 88; refine (fit_any _ _).mono ?_; rintro e w' ⟨rfl, rfl⟩)
  go_ret
  exact ⟨rfl, rfl⟩

theorem leq_any (a b : Int) (w : World) : Calls Try.prog 93 #[.int .i64 a, .int .i64 b] w fun e w' => e = .returned (.bool (Lv.leq a b)) ∧ w' = w := by
 unfold Lv.leq
 go_enter Try.func93, Try.ntmps93
 go_wp2_with (go_at_call 98; refine (meant_any _ _).mono ?_; rintro e w' ⟨rfl, rfl⟩)
 go_ret
 exact ⟨rfl, rfl⟩

theorem of_any (n : Int) (w : World) : Calls Try.prog 70 #[.int .i64 n] w fun e w' => e = .returned (.int .i64 (Lv.lv n)) ∧ w' = w := by
 by_cases h0 : n < 0
 ·have hl : Lv.lv n = 2 := Lv.lv_no (by omega)
  rw [hl]
  clear hl
  go_enter Try.func70, Try.ntmps70
  go_wp2
  go_ret
  exact ⟨rfl, rfl⟩
 ·by_cases h5 : 5 < n
  ·have hl : Lv.lv n = 2 := Lv.lv_no (by omega)
   rw [hl]
   clear hl
   go_enter Try.func70, Try.ntmps70
   go_wp2
   go_ret
   exact ⟨rfl, rfl⟩
  ·have hl : Lv.lv n = n := Lv.lv_of (by omega) (by omega)
   rw [hl]
   clear hl
   go_enter Try.func70, Try.ntmps70
   go_wp2
   go_ret
   exact ⟨rfl, rfl⟩

theorem rfit_any (n : Int) (w : World) : Calls Try.prog 42 #[.int .i64 n] w fun e w' => e = .returned (.bool (Lv.fit n)) ∧ w' = w := by
 by_cases h0 : 0 ≤ n
 ·by_cases h5 : n ≤ 5
  ·have hf : Lv.fit n = true := by simp [Lv.fit, h0, h5]
   rw [hf]
   go_enter Try.func42, Try.ntmps42
   go_wp2
   go_ret
   exact ⟨rfl, rfl⟩
  ·have hf : Lv.fit n = false := by simp [Lv.fit, h0, h5]
   rw [hf]
   go_enter Try.func42, Try.ntmps42
   go_wp2
   go_ret
   exact ⟨rfl, rfl⟩
 ·have hf : Lv.fit n = false := by simp [Lv.fit, h0]
  rw [hf]
  go_enter Try.func42, Try.ntmps42
  go_wp2
  go_ret
  exact ⟨rfl, rfl⟩

theorem rleq_any (a b : Int) (w : World) : Calls Try.prog 51 #[.int .i64 a, .int .i64 b] w fun e w' => e = .returned (.bool (Lv.leq a b)) ∧ w' = w := by
 unfold Lv.leq
 go_enter Try.func51, Try.ntmps51
 go_wp2_with (go_at_call 70; refine (of_any _ _).mono ?_; rintro e w' ⟨rfl, rfl⟩)
 go_ret
 exact ⟨rfl, rfl⟩

end Go.Proofs.Ytlaagheeemkklaa
namespace Go.Proofs.Ytlaagheeemkklaa
set_option maxRecDepth 100000
set_option maxHeartbeats 8000000
open Go.ChangeShapes Go.WideShapes Go.ChangeAt Go.RowKit
set_option linter.unusedVariables false

theorem rget_any {B : Nat} {w : World} {ao : Option Addr} {n cap : Nat} {L : List (Int × Int)} (c : Int) (hL : Lab B w ao n cap L) :
  Calls Try.prog 52 #[.slice ao n cap, .int .u64 c] w fun e w' => e = .returned (.int .i64 (get L c)) ∧ w' = w := by
 have hn := hL.1
 have hnc := hL.2.1
 have hcm := hL.2.2.1.1
 go_enter Try.func52, Try.ntmps52
 go_wp2
 go_loop [5] (fun i => ∃ k : Nat, k ≤ n ∧ i = .int .i64 k ∧ get (L.drop k) c = get L c) (fun i => n - (intOf i).toNat)
 case atStart => exact ⟨0, Nat.zero_le _, rfl, by simp⟩
 case round =>
  obtain ⟨k, hk, rfl, hg⟩ := hrel
  by_cases hkn : k < n
  ·obtain ⟨b, off, x, y, rfl, hbB, d0, d1, hxy⟩ := hL.at (Below.refl _ _) hkn
   clear hL
   by_cases hxc : x = c
   ·have hr : Hid (get L c = y) := hg.symm.trans (get_hit (by omega) hxy.out hxc)
    clear hg
    go_wp2
    go_ret
    exact ⟨by rw [hr.out]; rfl, rfl⟩
   ·have hr : Hid (get (L.drop (k + 1)) c = get L c) := (get_miss (by omega) hxy.out hxc).symm.trans hg
    clear hg
    go_wp2
    go_round
    case rel => exact ⟨k + 1, by omega, by go_num, hr.out⟩
    case measure => simp [intOf]; omega
  ·have hr : Hid (get L c = 2) := hg.symm.trans (get_end (by omega) c)
   clear hg hL
   go_wp2
   go_ret
   exact ⟨by rw [hr.out]; rfl, rfl⟩

theorem lfit_any {B : Nat} {w : World} {ao : Option Addr} {n cap : Nat} {L : List (Int × Int)} (hL : Lab B w ao n cap L) (hB : B ≤ w.heap.size) :
  Calls Try.prog 76 #[.slice ao n cap] w fun e w' => e = .returned (.bool (fitB L)) ∧ Below w.heap.size w w' := by
 have hn := hL.1
 have hnc := hL.2.1
 have hcm := hL.2.2.1.1
 go_enter Try.func76, Try.ntmps76
 go_wp2
 go_loopw [7] (fun i wr => ∃ k : Nat, k ≤ n ∧ i = .int .i64 k ∧ (∀ j, j < k → okAt L j = true) ∧ Below w.heap.size w wr) (fun i _ => n - (intOf i).toNat)
 case atStart => exact ⟨0, Nat.zero_le _, rfl, fun j hj => absurd hj (by omega), Below.refl _ _⟩
 case round =>
  obtain ⟨k, hk, rfl, hg, hb⟩ := hrel
  by_cases hkn : k < n
  ·obtain ⟨b, off, x, y, rfl, hbB, d0, d1, hxy⟩ := hL.at (hb.mono hB) hkn
   have hG : Hid (∀ j, j < k → okAt L j = true) := hg
   clear hg
   cases hf : Lv.fit y with
   | false =>
    have hr : Hid (fitB L = false) := fitB_no (k := k) (by omega) (okAt_lev hxy.out hf)
    clear hL
    go_wp2_with (go_at_call 88; refine (fit_any _ _).mono ?_; rintro e w' ⟨rfl, rfl⟩)
    go_ret
    exact ⟨by rw [hr.out]; rfl, hb.alloc hb.size _⟩
   | true =>
    by_cases h2 : y = 2
    ·have hr : Hid (fitB L = false) := fitB_no (k := k) (by omega) (okAt_two hxy.out h2)
     clear hL
     go_wp2_with (go_at_call 88; refine (fit_any _ _).mono ?_; rintro e w' ⟨rfl, rfl⟩)
     go_ret
     exact ⟨by rw [hr.out]; rfl, hb.alloc hb.size _⟩
    ·by_cases h0 : k = 0
     ·subst h0
      have ho : Hid (okAt L 0 = true) := okAt_yes0 hxy.out hf h2
      simp only [Nat.zero_mul, Nat.add_zero] at d0 d1
      clear hL
      go_wp2_with (go_at_call 88; refine (fit_any _ _).mono ?_; rintro e w' ⟨rfl, rfl⟩)
      go_quiet (fail)
      go_wp2
      go_roundw
      case rel => exact ⟨1, by omega, by go_num, all_succ hG.out ho.out, below_drewN (hb.alloc hb.size _) _⟩
      case measure => simp [intOf]; omega
     ·obtain ⟨m, rfl⟩ : ∃ m, k = m + 1 := ⟨k - 1, by omega⟩
      obtain ⟨b', off', x', y', hbo, _, d2, _, hxy'⟩ := hL.at (hb.mono hB) (i := m) (by omega)
      simp only [Option.some.injEq, Addr.mk.injEq, and_true] at hbo
      obtain ⟨rfl, rfl⟩ := hbo
      have hwm : IntKind.i64.wrap (m : Int) = m := wrapN (by omega)
      have hmn : (m : Int) < n := by omega
      have d3 : ∀ o, (wr.alloc o).cell? ⟨b, off + m * 2, none⟩ = some (.int .u64 x') := fun o => cellLater d2 o
      by_cases hxx : x ≤ x'
      ·have hr : Hid (fitB L = false) := fitB_no (k := m + 1) (by omega) (okAt_cat hxy.out hxy'.out (by omega) hxx)
       clear hL
       go_wp2_with (go_at_call 88; refine (fit_any _ _).mono ?_; rintro e w' ⟨rfl, rfl⟩)
       go_quiet (fail)
       go_wp2
       go_ret
       exact ⟨by rw [hr.out]; rfl, below_drewN (hb.alloc hb.size _) _⟩
      ·have ho : Hid (okAt L (m + 1) = true) := okAt_yes hxy.out hf h2 hxy'.out (by omega)
       clear hL
       go_wp2_with (go_at_call 88; refine (fit_any _ _).mono ?_; rintro e w' ⟨rfl, rfl⟩)
       go_quiet (fail)
       go_wp2
       go_roundw
       case rel => exact ⟨m + 1 + 1, by omega, by go_num, all_succ hG.out ho.out, below_drewN (hb.alloc hb.size _) _⟩
       case measure => simp [intOf]; omega
  ·have hr : Hid (fitB L = true) := fitB_yes (fun j hj => hg j (by omega))
   clear hg hL
   go_wp2
   go_ret
   exact ⟨by rw [hr.out]; rfl, hb⟩
end Go.Proofs.Ytlaagheeemkklaa
