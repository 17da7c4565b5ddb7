/-
  PROVED HERE: what the readers of package label, and of the document's answer to it, return when they are called (contracts over this translation). No condition.
-/
import Derived.Test.YtkhnlgbebbhmbaaLvCon
import Derived.Test.YtkhnlgbebbhmbaaLab
import Derived.WalkKit
import Derived.ProofKit
import Derived.OpenShut
import Derived.Below
import Derived.WalkSmall
import Derived.Deep.QuietTactic
import Derived.BigQuiet
namespace Go.Proofs.Ytkhnlgbebbhmbaa
open Go.ChangeShapes Go.WideShapes Go.ChangeAt Go.RowKit
set_option linter.unusedVariables false

theorem rget_any {B : Nat} {w : World} {ao : Option Addr} {n cap : Nat} {L : List (Int × Int)} (c : Int) (hL : Lab B w ao n cap L) :
    Calls Try.prog 35 #[.slice ao n cap, .int .u64 c] w fun e w' => e = .returned (.int .i64 (get L c)) ∧ w' = w := by
  have hn := hL.1
  have hnc := hL.2.1
  have hcm := hL.2.2.1.1
  go_enter Try.func35, Try.ntmps35
  go_wp2
  go_loop [5] (fun i => ∃ k : Nat, k ≤ n ∧ i = .int .i64 k ∧ get (L.drop k) c = get L c) (fun i => n - (intOf i).toNat)
  case atStart => exact ⟨0, Nat.zero_le _, rfl, by simp⟩
  case round =>
    obtain ⟨k, hk, rfl, hg⟩ := hrel
    by_cases hkn : k < n
    · obtain ⟨b, off, x, y, rfl, hbB, d0, d1, hxy⟩ := hL.at (Below.refl _ _) hkn
      clear hL
      by_cases hxc : x = c
      · have hr : Hid (get L c = y) := hg.symm.trans (get_hit (by omega) hxy.out hxc)
        clear hg
        go_wp2
        go_ret
        exact ⟨by rw [hr.out]; rfl, rfl⟩
      · have hr : Hid (get (L.drop (k + 1)) c = get L c) := (get_miss (by omega) hxy.out hxc).symm.trans hg
        clear hg
        go_wp2
        go_round
        case rel => exact ⟨k + 1, by omega, by go_num, hr.out⟩
        case measure => simp [intOf]; omega
    · have hr : Hid (get L c = 2) := hg.symm.trans (get_end (by omega) c)
      clear hg hL
      go_wp2
      go_ret
      exact ⟨by rw [hr.out]; rfl, rfl⟩

end Go.Proofs.Ytkhnlgbebbhmbaa
