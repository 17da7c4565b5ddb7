/-
 PROVED HERE: what each function of package level, and of the document's answer to it, returns when it is called (contracts . What is asked stands at each.
-/
import Derived.Test.YtiiaohejldchdaaGreatRows
import Derived.WalkKit
import Derived.ProofKit
import Derived.OpenShut
import Derived.Below
import Derived.WalkSmall
import Derived.Deep.QuietTactic
import Derived.BigQuiet
import Derived.Test.YtiiaohejldchdaaGreatZ0
import Derived.Test.YtiiaohejldchdaaGreatZ1
namespace Go.Proofs.YtiiaohejldchdaaGreat
set_option maxRecDepth 100000
set_option maxHeartbeats 8000000
open Go.ChangeShapes Go.WideShapes Go.ChangeAt Go.RowKit
set_option linter.unusedVariables false

theorem next {w a b : World} (h : Below w.heap.size w a) (k : Below a.heap.size a b) : Below w.heap.size w b := h.trans (k.mono h.size)



theorem fit_any (n : Int) (w : World) : Calls Tryz.prog 127 #[.int .i64 n] w fun e w' => e = .returned (.bool (Lv.fit n)) ∧ w' = w := by
 by_cases h0 : 0 ≤ n
 ·by_cases h5 : n ≤ 5
  ·have hf : Lv.fit n = true := by simp [Lv.fit, h0, h5]
   rw [hf]
   go_enter Tryz.func127, Tryz.ntmps127
   go_wp2
   go_ret
   exact ⟨rfl, rfl⟩
  ·have hf : Lv.fit n = false := by simp [Lv.fit, h0, h5]
   rw [hf]
   go_enter Tryz.func127, Tryz.ntmps127
   go_wp2
   go_ret
   exact ⟨rfl, rfl⟩
 ·have hf : Lv.fit n = false := by simp [Lv.fit, h0]
  rw [hf]
  go_enter Tryz.func127, Tryz.ntmps127
  go_wp2
  go_ret
  exact ⟨rfl, rfl⟩

theorem meant_any (n : Int) (w : World) : Calls Tryz.prog 108 #[.int .i64 n] w fun e w' => e = .returned (.int .i64 (Lv.lv n)) ∧ w' = w := by
 by_cases h : 0 ≤ n ∧ n ≤ 5
 ·have hf : Lv.fit n = true := by simp [Lv.fit, h]
  have hl : Lv.lv n = n := Lv.lv_of h.1 h.2
  rw [hl]
  clear h hl
  go_enter Tryz.func108, Tryz.ntmps108
  go_wp2_with (go_at_call 127; refine (fit_any _ _).mono ?_; rintro e w' ⟨rfl, rfl⟩)
  go_ret
  exact ⟨rfl, rfl⟩
 ·have hf : Lv.fit n = false := by simp [Lv.fit, h]
  have hl : Lv.lv n = 2 := Lv.lv_no h
  rw [hl]
  clear h hl
  go_enter Tryz.func108, Tryz.ntmps108
  go_wp2_with (go_at_call 127; refine (fit_any _ _).mono ?_; rintro e w' ⟨rfl, rfl⟩)
  go_ret
  exact ⟨rfl, rfl⟩

theorem leq_any (a b : Int) (w : World) : Calls Tryz.prog 85 #[.int .i64 a, .int .i64 b] w fun e w' => e = .returned (.bool (Lv.leq a b)) ∧ w' = w := by
 unfold Lv.leq
 go_enter Tryz.func85, Tryz.ntmps85
 go_wp2_with (go_at_call 108; refine (meant_any _ _).mono ?_; rintro e w' ⟨rfl, rfl⟩)
 go_ret
 exact ⟨rfl, rfl⟩

theorem raise_any (n : Int) (w : World) : Calls Tryz.prog 133 #[.int .i64 n] w fun e w' => e = .returned (.int .i64 (Lv.raise n)) ∧ w' = w := by
 by_cases h : n = 0
 ·subst h
  have hr : Lv.raise 0 = 5 := by decide
  rw [hr]
  go_enter Tryz.func133, Tryz.ntmps133
  go_wp2
  go_ret
  exact ⟨rfl, rfl⟩
 ·have hn : (n == 0) = false := by simpa using h
  have hr : Lv.raise n = Lv.lv n := by unfold Lv.raise Lv.lv; split <;> simp_all
  rw [hr]
  clear h hr
  go_enter Tryz.func133, Tryz.ntmps133
  go_wp2_with (go_at_call 108; refine (meant_any _ _).mono ?_; rintro e w' ⟨rfl, rfl⟩)
  go_ret
  exact ⟨rfl, rfl⟩

theorem of_any (n : Int) (w : World) : Calls Tryz.prog 71 #[.int .i64 n] w fun e w' => e = .returned (.int .i64 (Lv.lv n)) ∧ w' = w := by
 by_cases h0 : n < 0
 ·have hl : Lv.lv n = 2 := Lv.lv_no (by omega)
  rw [hl]
  clear hl
  go_enter Tryz.func71, Tryz.ntmps71
  go_wp2
  go_ret
  exact ⟨rfl, rfl⟩
 ·by_cases h5 : 5 < n
  ·have hl : Lv.lv n = 2 := Lv.lv_no (by omega)
   rw [hl]
   clear hl
   go_enter Tryz.func71, Tryz.ntmps71
   go_wp2
   go_ret
   exact ⟨rfl, rfl⟩
  ·have hl : Lv.lv n = n := Lv.lv_of (by omega) (by omega)
   rw [hl]
   clear hl
   go_enter Tryz.func71, Tryz.ntmps71
   go_wp2
   go_ret
   exact ⟨rfl, rfl⟩

theorem rfit_any (n : Int) (w : World) : Calls Tryz.prog 96 #[.int .i64 n] w fun e w' => e = .returned (.bool (Lv.fit n)) ∧ w' = w := by
 by_cases h0 : 0 ≤ n
 ·by_cases h5 : n ≤ 5
  ·have hf : Lv.fit n = true := by simp [Lv.fit, h0, h5]
   rw [hf]
   go_enter Tryz.func96, Tryz.ntmps96
   go_wp2
   go_ret
   exact ⟨rfl, rfl⟩
  ·have hf : Lv.fit n = false := by simp [Lv.fit, h0, h5]
   rw [hf]
   go_enter Tryz.func96, Tryz.ntmps96
   go_wp2
   go_ret
   exact ⟨rfl, rfl⟩
 ·have hf : Lv.fit n = false := by simp [Lv.fit, h0]
  rw [hf]
  go_enter Tryz.func96, Tryz.ntmps96
  go_wp2
  go_ret
  exact ⟨rfl, rfl⟩

theorem rleq_any (a b : Int) (w : World) : Calls Tryz.prog 44 #[.int .i64 a, .int .i64 b] w fun e w' => e = .returned (.bool (Lv.leq a b)) ∧ w' = w := by
 unfold Lv.leq
 go_enter Tryz.func44, Tryz.ntmps44
 go_wp2_with (go_at_call 71; refine (of_any _ _).mono ?_; rintro e w' ⟨rfl, rfl⟩)
 go_ret
 exact ⟨rfl, rfl⟩

theorem rjoin_any (a b : Int) (w : World) : Calls Tryz.prog 115 #[.int .i64 a, .int .i64 b] w fun e w' => e = .returned (.int .i64 (Lv.join a b)) ∧ w' = w := by
 by_cases h : Lv.lv b < Lv.lv a
 ·have hj : Lv.join a b = Lv.lv a := by unfold Lv.join; rw [if_neg (by omega)]
  rw [hj]
  clear hj
  go_enter Tryz.func115, Tryz.ntmps115
  go_wp2_with (go_at_call 71; refine (of_any _ _).mono ?_; rintro e w' ⟨rfl, rfl⟩)
  go_ret
  exact ⟨rfl, rfl⟩
 ·have hj : Lv.join a b = Lv.lv b := by unfold Lv.join; split <;> omega
  rw [hj]
  clear hj
  go_enter Tryz.func115, Tryz.ntmps115
  go_wp2_with (go_at_call 71; refine (of_any _ _).mono ?_; rintro e w' ⟨rfl, rfl⟩)
  go_ret
  exact ⟨rfl, rfl⟩

theorem rraise_any (n : Int) (w : World) : Calls Tryz.prog 70 #[.int .i64 n] w fun e w' => e = .returned (.int .i64 (Lv.raise n)) ∧ w' = w := by
 by_cases h : Lv.lv n = 0
 ·have hr : Lv.raise n = 5 := by unfold Lv.raise; rw [if_pos h]
  have hn : (Lv.lv n == 0) = true := by simpa using h
  rw [hr]
  clear h hr
  go_enter Tryz.func70, Tryz.ntmps70
  go_wp2_with (go_at_call 71; refine (of_any _ _).mono ?_; rintro e w' ⟨rfl, rfl⟩)
  go_ret
  exact ⟨rfl, rfl⟩
 ·have hr : Lv.raise n = Lv.lv n := by unfold Lv.raise; rw [if_neg h]
  have hn : (Lv.lv n == 0) = false := by simpa using h
  rw [hr]
  clear h hr
  go_enter Tryz.func70, Tryz.ntmps70
  go_wp2_with (go_at_call 71; refine (of_any _ _).mono ?_; rintro e w' ⟨rfl, rfl⟩)
  go_ret
  exact ⟨rfl, rfl⟩

end Go.Proofs.YtiiaohejldchdaaGreat
namespace Go.Proofs.YtiiaohejldchdaaGreat
set_option maxRecDepth 100000
set_option maxHeartbeats 8000000
open Go.ChangeShapes Go.WideShapes Go.ChangeAt Go.RowKit
set_option linter.unusedVariables false

theorem rget_any {B : Nat} {w : World} {ao : Option Addr} {n cap : Nat} {L : List (Int × Int)} (c : Int) (hL : Lab B w ao n cap L) :
  Calls Tryz.prog 45 #[.slice ao n cap, .int .u64 c] w fun e w' => e = .returned (.int .i64 (get L c)) ∧ w' = w := by
 have hn := hL.1
 have hnc := hL.2.1
 have hcm := hL.2.2.1.1
 go_enter Tryz.func45, Tryz.ntmps45
 go_wp2
 go_loop [5] (fun i => ∃ k : Nat, k ≤ n ∧ i = .int .i64 k ∧ get (L.drop k) c = get L c) (fun i => n - (intOf i).toNat)
 case atStart => exact ⟨0, Nat.zero_le _, rfl, by simp⟩
 case round =>
  obtain ⟨k, hk, rfl, hg⟩ := hrel
  by_cases hkn : k < n
  ·obtain ⟨b, off, x, y, rfl, hbB, d0, d1, hxy⟩ := hL.at (Below.refl _ _) hkn
   clear hL
   by_cases hxc : x = c
   ·have hr : Hid (get L c = y) := hg.symm.trans (get_hit (by omega) hxy.out hxc)
    clear hg
    go_wp2
    go_ret
    exact ⟨by rw [hr.out]; rfl, rfl⟩
   ·have hr : Hid (get (L.drop (k + 1)) c = get L c) := (get_miss (by omega) hxy.out hxc).symm.trans hg
    clear hg
    go_wp2
    go_round
    case rel => exact ⟨k + 1, by omega, by go_num, hr.out⟩
    case measure => simp [intOf]; omega
  ·have hr : Hid (get L c = 2) := hg.symm.trans (get_end (by omega) c)
   clear hg hL
   go_wp2
   go_ret
   exact ⟨by rw [hr.out]; rfl, rfl⟩

end Go.Proofs.YtiiaohejldchdaaGreat
