/-
  PROVED HERE: what Same of package curtilageref10 returns when it is called: the same lines (a contract over this translation). At most 65536 lines.
-/
import Derived.Test.YtnghendglcblkaaGreatDoorAsm17
namespace Go.Proofs.YtnghendglcblkaaGreatDoor
open Go.RowKit Go.Shelf
set_option linter.unusedVariables false
open Asm

set_option maxRecDepth 100000 in
set_option maxHeartbeats 2000000 in
theorem rSame_any (ao : Option Addr) (n cap : Nat) (l : List Ln) (bo : Option Addr) (j kap : Nat) (r : List Ln) (w : World) (hn : n ≤ 65536) (h : Lns w.heap.size w ao n cap l) (h' : Lns w.heap.size w bo j kap r) (e : l = r) :
    Calls Tryz.prog 7 #[.slice ao n cap, .slice bo j kap] w fun e w' => e = .returned (.bool true) ∧ Below w.heap.size w w' := by
  subst e
  obtain rfl : n = j := h.1.symm.trans h'.1
  go_enter Tryz.func7, Tryz.ntmps7
  go_wp2
  go_loopw [5] (fun vi wr => ∃ k : Nat, k ≤ n ∧ vi = .int .i64 k ∧ Below w.heap.size w wr) (fun vi _ => n - (intOf vi).toNat)
  case atStart => exact ⟨0, Nat.zero_le _, rfl, Below.refl _ _⟩
  case round =>
    obtain ⟨k, hk, rfl, hB⟩ := hrel
    by_cases hks : k < n
    · obtain ⟨b, off, m', op, a, b', c, i', tt, rfl, hb, hx, c0, c1, c2, c3, c4, c5, c6⟩ := LnsD.at (h.next hB) hks
      obtain ⟨d, off2, m2, op2, a2, b2, e2, i2, t2, rfl, hb2, hx2, d0, d1, d2, d3, d4, d5, d6⟩ := LnsD.at (h'.next hB) hks
      have he := hx.out.symm.trans hx2.out
      simp only [Ln.mk.injEq] at he
      obtain ⟨rfl, rfl, rfl, rfl, rfl, rfl, rfl⟩ := he
      clear hx hx2
      go_wp2
      go_quiet (fail)
      go_wp2
      go_roundw
      case rel => exact ⟨k + 1, by omega, by simp, hB.trans ((below_drewN wr _).mono hB.size)⟩
      case measure => simp [intOf]; omega
    · obtain rfl : k = n := by omega
      go_wp2
      go_ret
      exact ⟨rfl, hB⟩
end Go.Proofs.YtnghendglcblkaaGreatDoor
