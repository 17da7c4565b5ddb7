/-
  PROVED HERE: for every seven labels the law CheckBack returns true (P3.7: only owners come back). No condition.
-/
import Derived.Test.YtkhnlgbebbhmbaaRows
import Derived.Test.YtkhnlgbebbhmbaaChk13
import Derived.WalkKit
import Derived.ProofKit
import Derived.OpenShut
import Derived.Below
import Derived.ShutString
import Derived.Deep.QuietTactic
import Derived.Deep.DeepCutAuto
namespace Go.Proofs.Ytkhnlgbebbhmbaa
namespace checkBack
open Go.ChangeShapes Go.WideShapes Go.ChangeAt Go.RowKit
open Go.ChangeMaps (open_string shut_string)
set_option linter.unusedVariables false

theorem own : ownKnob Try.prog.godebug = none := by kernel_rfl

set_option maxRecDepth 100000 in
set_option maxHeartbeats 8000000 in
theorem walk (ao0 : Option Addr) (n0 cap0 : Nat) (L0 : List (Int × Int)) (ao1 : Option Addr) (n1 cap1 : Nat) (L1 : List (Int × Int)) (ao2 : Option Addr) (n2 cap2 : Nat) (L2 : List (Int × Int)) (ao3 : Option Addr) (n3 cap3 : Nat) (L3 : List (Int × Int)) (ao4 : Option Addr) (n4 cap4 : Nat) (L4 : List (Int × Int)) (ao5 : Option Addr) (n5 cap5 : Nat) (L5 : List (Int × Int)) (ao6 : Option Addr) (n6 cap6 : Nat) (L6 : List (Int × Int)) (w : World) (l0 : Lab w.heap.size w ao0 n0 cap0 L0) (l1 : Lab w.heap.size w ao1 n1 cap1 L1) (l2 : Lab w.heap.size w ao2 n2 cap2 L2) (l3 : Lab w.heap.size w ao3 n3 cap3 L3) (l4 : Lab w.heap.size w ao4 n4 cap4 L4) (l5 : Lab w.heap.size w ao5 n5 cap5 L5) (l6 : Lab w.heap.size w ao6 n6 cap6 L6) :
    Calls Try.prog 6 #[.slice ao0 n0 cap0, .slice ao1 n1 cap1, .slice ao2 n2 cap2, .slice ao3 n3 cap3, .slice ao4 n4 cap4, .slice ao5 n5 cap5, .slice ao6 n6 cap6] w fun e w' => e = .returned (.bool true) ∧ Below w.heap.size w w' := by
  have hB := Below.refl w.heap.size w
  have H := (((((((((Labs.nil w).push l6).push l5).push l4).push l3).push l2).push l1).push l0).push (Lab.nil _ _))
  clear l0 l1 l2 l3 l4 l5 l6
  have fnil := Fit.nil
  cases hok : okB [(ao0, n0, cap0, L0), (ao1, n1, cap1, L1), (ao2, n2, cap2, L2), (ao3, n3, cap3, L3), (ao4, n4, cap4, L4), (ao5, n5, cap5, L5), (ao6, n6, cap6, L6)] with
  | false =>
    go_enter Try.func6, Try.ntmps6
    go_wp2_with (first | (go_at_call 9; refine (fit7_any _ _ _ _ _ _ _ _ _ _ _ _ _ _ _ _ _ _ _ _ _ _ L0 L1 L2 L3 L4 L5 L6 (H.sub (fun x hx => List.mem_cons_of_mem _ hx))).mono ?_; rintro e w1 ⟨rfl, hb⟩; replace H := H.next hb; replace hB := next3 hB hb; clear hb) | (go_at_call 10; refine (awake3_any _).mono ?_; rintro e w1 ⟨rfl, hb⟩; replace H := H.next hb; replace hB := next3 hB hb; clear hb))
    go_ret
    exact ⟨rfl, hB⟩
  | true =>
    obtain ⟨hn0, F0⟩ := okB_get hok (ao := ao0) (n := n0) (cap := cap0) (L := L0) (by repeat (first | exact List.Mem.head _ | apply List.Mem.tail))
    obtain ⟨hn1, F1⟩ := okB_get hok (ao := ao1) (n := n1) (cap := cap1) (L := L1) (by repeat (first | exact List.Mem.head _ | apply List.Mem.tail))
    obtain ⟨hn2, F2⟩ := okB_get hok (ao := ao2) (n := n2) (cap := cap2) (L := L2) (by repeat (first | exact List.Mem.head _ | apply List.Mem.tail))
    obtain ⟨hn3, F3⟩ := okB_get hok (ao := ao3) (n := n3) (cap := cap3) (L := L3) (by repeat (first | exact List.Mem.head _ | apply List.Mem.tail))
    obtain ⟨hn4, F4⟩ := okB_get hok (ao := ao4) (n := n4) (cap := cap4) (L := L4) (by repeat (first | exact List.Mem.head _ | apply List.Mem.tail))
    obtain ⟨hn5, F5⟩ := okB_get hok (ao := ao5) (n := n5) (cap := cap5) (L := L5) (by repeat (first | exact List.Mem.head _ | apply List.Mem.tail))
    obtain ⟨hn6, F6⟩ := okB_get hok (ao := ao6) (n := n6) (cap := cap6) (L := L6) (by repeat (first | exact List.Mem.head _ | apply List.Mem.tail))
    cases a0 : abvB L0 with
    | false =>
      cases a4 : abvB L4 with
      | false =>
        have G2 := raiseL_fit F2
        cases hk : leqB (raiseL L2) L6 with
        | false =>
          have tok : True := trivial
          go_enter Try.func6, Try.ntmps6
          go_upto_region 4 with (first | (go_at_call 9; refine (fit7_any _ _ _ _ _ _ _ _ _ _ _ _ _ _ _ _ _ _ _ _ _ _ L0 L1 L2 L3 L4 L5 L6 (H.sub (fun x hx => List.mem_cons_of_mem _ hx))).mono ?_; rintro e w1 ⟨rfl, hb⟩; replace H := H.next hb; replace hB := next3 hB hb; clear hb) | (go_at_call 33; refine (above_any (H.get (by repeat (first | exact List.Mem.head _ | apply List.Mem.tail)))).mono ?_; rintro e w1 ⟨rfl, hb⟩; replace H := H.next hb; replace hB := next3 hB hb; clear hb) | (go_at_call 28; clear tok; refine (hides_any (H.get (by repeat (first | exact List.Mem.head _ | apply List.Mem.tail))) (H.get (by repeat (first | exact List.Mem.head _ | apply List.Mem.tail))) (by omega) (by omega)).mono ?_; rintro e w1 ⟨aoH, nH, capH, rfl, hH, hb⟩; replace H := H.next hb; replace hB := next3 hB hb; clear hb) | (go_at_call 28; refine (hides_any (H.get (by repeat (first | exact List.Mem.head _ | apply List.Mem.tail))) (H.get (by repeat (first | exact List.Mem.head _ | apply List.Mem.tail))) (by omega) (by omega)).mono ?_; rintro e w1 ⟨aoI, nI, capI, rfl, hI, hb⟩; obtain ⟨hp1, hp2⟩ := exc_p hI.1 (by assumption) (by assumption) (by assumption); clear hI; replace H := H.next hb; replace hH := hH.next hb; replace hB := next3 hB hb; clear hb))
          go_cut [64] (fun s wc => s = .bool false ∧ Labs wc [(none, 0, 0, []), (ao0, n0, cap0, L0), (ao1, n1, cap1, L1), (ao2, n2, cap2, L2), (ao3, n3, cap3, L3), (ao4, n4, cap4, L4), (ao5, n5, cap5, L5), (ao6, n6, cap6, L6)] ∧ Cts wc.heap.size wc aoH nH capH (exc (raiseL L0) L6) ∧ Below w.heap.size w wc)
          case first =>
            cases qB : (!abvB L2 && (leqB L0 L2 && leqB L2 L1)) with
            | false =>
              go_wp2_with (first | (go_at_call 21; refine (become_any (H.get (by repeat (first | exact List.Mem.head _ | apply List.Mem.tail))) (H.get (by repeat (first | exact List.Mem.head _ | apply List.Mem.tail))) (H.get (by repeat (first | exact List.Mem.head _ | apply List.Mem.tail))) (by omega) (by omega) (by omega)).mono ?_; rintro e w1 ⟨rfl, hb⟩; rw [qB]; replace H := H.next hb; replace hH := hH.next hb; replace hB := next3 hB hb; clear hb))
              go_meet
              case rel => exact ⟨rfl, H, hH, hB⟩
            | true =>
              obtain ⟨_, t1, t2⟩ := become_iff.1 qB
              go_wp2_with (first | (go_at_call 21; refine (become_any (H.get (by repeat (first | exact List.Mem.head _ | apply List.Mem.tail))) (H.get (by repeat (first | exact List.Mem.head _ | apply List.Mem.tail))) (H.get (by repeat (first | exact List.Mem.head _ | apply List.Mem.tail))) (by omega) (by omega) (by omega)).mono ?_; rintro e w1 ⟨rfl, hb⟩; rw [qB]; replace H := H.next hb; replace hH := hH.next hb; replace hB := next3 hB hb; clear hb) | (go_at_call 32; refine (owns_any (H.get (by repeat (first | exact List.Mem.head _ | apply List.Mem.tail))) (H.get (by repeat (first | exact List.Mem.head _ | apply List.Mem.tail))) hH).mono ?_; rintro e w1 ⟨rfl, rfl⟩; rw [ow]) | (go_at_call 30; refine (rleq_f (H.get (by repeat (first | exact List.Mem.head _ | apply List.Mem.tail))) (H.get (by repeat (first | exact List.Mem.head _ | apply List.Mem.tail))) (by assumption) (by assumption)).mono ?_; rintro e w1 ⟨rfl, hb⟩; replace H := H.next hb; replace hH := hH.next hb; replace hB := next3 hB hb; clear hb))
              go_meet
              case rel => exact ⟨rfl, H, hH, hB⟩
          case rest =>
            clear H hH hB
            obtain ⟨rfl, H, hH, hB⟩ := hcut
            go_upto_region 6 with fail
            go_cut [81] (fun s wc => s = .bool false ∧ Labs wc [(none, 0, 0, []), (ao0, n0, cap0, L0), (ao1, n1, cap1, L1), (ao2, n2, cap2, L2), (ao3, n3, cap3, L3), (ao4, n4, cap4, L4), (ao5, n5, cap5, L5), (ao6, n6, cap6, L6)] ∧ Cts wc.heap.size wc aoH nH capH (exc (raiseL L0) L6) ∧ Below w.heap.size w wc)
            case first =>
              cases qE : ((!abvB L2 && !abvB L3) && (leqB L0 L5 && (leqB (lowerL (joinL (raiseL L0) (raiseL L4))) L2 && (leqB L2 L3 && leqB L3 (joinL L1 L5))))) with
              | false =>
                go_wp2_with (first | (go_at_call 25; refine (enter_any (H.get (by repeat (first | exact List.Mem.head _ | apply List.Mem.tail))) (H.get (by repeat (first | exact List.Mem.head _ | apply List.Mem.tail))) (H.get (by repeat (first | exact List.Mem.head _ | apply List.Mem.tail))) (H.get (by repeat (first | exact List.Mem.head _ | apply List.Mem.tail))) (H.get (by repeat (first | exact List.Mem.head _ | apply List.Mem.tail))) (H.get (by repeat (first | exact List.Mem.head _ | apply List.Mem.tail))) (by omega) (by omega) (by omega) (by omega) (by omega) (by omega)).mono ?_; rintro e w1 ⟨rfl, hb⟩; rw [qE]; replace H := H.next hb; replace hH := hH.next hb; replace hB := next3 hB hb; clear hb))
                go_meet
                case rel => exact ⟨rfl, H, hH, hB⟩
              | true =>
                go_wp2_with (first | (go_at_call 25; refine (enter_any (H.get (by repeat (first | exact List.Mem.head _ | apply List.Mem.tail))) (H.get (by repeat (first | exact List.Mem.head _ | apply List.Mem.tail))) (H.get (by repeat (first | exact List.Mem.head _ | apply List.Mem.tail))) (H.get (by repeat (first | exact List.Mem.head _ | apply List.Mem.tail))) (H.get (by repeat (first | exact List.Mem.head _ | apply List.Mem.tail))) (H.get (by repeat (first | exact List.Mem.head _ | apply List.Mem.tail))) (by omega) (by omega) (by omega) (by omega) (by omega) (by omega)).mono ?_; rintro e w1 ⟨rfl, hb⟩; rw [qE]; replace H := H.next hb; replace hH := hH.next hb; replace hB := next3 hB hb; clear hb) | (go_at_call 32; refine (owns_any (H.get (by repeat (first | exact List.Mem.head _ | apply List.Mem.tail))) (H.get (by repeat (first | exact List.Mem.head _ | apply List.Mem.tail))) hH).mono ?_; rintro e w1 ⟨rfl, rfl⟩; rw [ow]))
                go_meet
                case rel => exact ⟨rfl, H, hH, hB⟩
            case rest =>
              clear H hH hB
              obtain ⟨rfl, H, hH, hB⟩ := hcut
              go_upto_region 8 with fail
              go_cut [101] (fun s wc => s = .bool false ∧ Labs wc [(none, 0, 0, []), (ao0, n0, cap0, L0), (ao1, n1, cap1, L1), (ao2, n2, cap2, L2), (ao3, n3, cap3, L3), (ao4, n4, cap4, L4), (ao5, n5, cap5, L5), (ao6, n6, cap6, L6)] ∧ Cts wc.heap.size wc aoH nH capH (exc (raiseL L0) L6) ∧ Below w.heap.size w wc)
              case first =>
                cases qP : ((!abvB L2 && !abvB L3) && (leqB L0 L2 && (leqB L2 L3 && leqB L3 L1))) with
                | false =>
                  go_wp2_with (first | (go_at_call 19; refine (spawn_any (H.get (by repeat (first | exact List.Mem.head _ | apply List.Mem.tail))) (H.get (by repeat (first | exact List.Mem.head _ | apply List.Mem.tail))) (H.get (by repeat (first | exact List.Mem.head _ | apply List.Mem.tail))) (H.get (by repeat (first | exact List.Mem.head _ | apply List.Mem.tail))) (by omega) (by omega) (by omega) (by omega)).mono ?_; rintro e w1 ⟨rfl, hb⟩; rw [qP]; replace H := H.next hb; replace hH := hH.next hb; replace hB := next3 hB hb; clear hb))
                  go_meet
                  case rel => exact ⟨rfl, H, hH, hB⟩
                | true =>
                  obtain ⟨_, _, t1, _, t2⟩ := spawn_iff.1 qP
                  go_wp2_with (first | (go_at_call 19; refine (spawn_any (H.get (by repeat (first | exact List.Mem.head _ | apply List.Mem.tail))) (H.get (by repeat (first | exact List.Mem.head _ | apply List.Mem.tail))) (H.get (by repeat (first | exact List.Mem.head _ | apply List.Mem.tail))) (H.get (by repeat (first | exact List.Mem.head _ | apply List.Mem.tail))) (by omega) (by omega) (by omega) (by omega)).mono ?_; rintro e w1 ⟨rfl, hb⟩; rw [qP]; replace H := H.next hb; replace hH := hH.next hb; replace hB := next3 hB hb; clear hb) | (go_at_call 32; refine (owns_any (H.get (by repeat (first | exact List.Mem.head _ | apply List.Mem.tail))) (H.get (by repeat (first | exact List.Mem.head _ | apply List.Mem.tail))) hH).mono ?_; rintro e w1 ⟨rfl, rfl⟩; rw [ow]) | (go_at_call 30; refine (rleq_f (H.get (by repeat (first | exact List.Mem.head _ | apply List.Mem.tail))) (H.get (by repeat (first | exact List.Mem.head _ | apply List.Mem.tail))) (by assumption) (by assumption)).mono ?_; rintro e w1 ⟨rfl, hb⟩; replace H := H.next hb; replace hH := hH.next hb; replace hB := next3 hB hb; clear hb))
                  go_meet
                  case rel => exact ⟨rfl, H, hH, hB⟩
              case rest =>
                clear H hH hB
                obtain ⟨rfl, H, hH, hB⟩ := hcut
                clear hH
                go_wp2_with (first | (go_at_call 34; refine (rowned_any (H.get (by repeat (first | exact List.Mem.head _ | apply List.Mem.tail))) (by omega)).mono ?_; rintro e w1 ⟨aoW, nW, capW, rfl, hW, hb⟩; replace H := H.next hb; replace hB := next3 hB hb; clear hb))
                have hW1 := hW.1
                have hW2 := hW.2.1
                have hW3 := hW.2.2.1
                go_loopw [105] (fun i wr => ∃ k : Nat, k ≤ nW ∧ i = .int .i64 k ∧ Labs wr [(none, 0, 0, []), (ao0, n0, cap0, L0), (ao1, n1, cap1, L1), (ao2, n2, cap2, L2), (ao3, n3, cap3, L3), (ao4, n4, cap4, L4), (ao5, n5, cap5, L5), (ao6, n6, cap6, L6)] ∧ Cts wr.heap.size wr aoW nW capW (owned L2) ∧ Below w.heap.size w wr) (fun i _ => nW - (intOf i).toNat)
                case atStart => exact ⟨0, Nat.zero_le _, rfl, H, hW, hB⟩
                case round =>
                  clear H hW hB
                  obtain ⟨k, hkn, rfl, H, hW, hB⟩ := hrel
                  by_cases hlt : k < nW
                  · obtain ⟨b, off, x, rfl, hbB, d0, hx⟩ := hW.at hlt
                    have g2 : get L2 x = 0 := by rw [← hx.out]; exact own_in F2 (by omega)
                    cases qB : (!abvB L2 && (leqB L0 L2 && leqB L2 L1)) with
                    | false =>
                      cases qE : ((!abvB L2 && !abvB L3) && (leqB L0 L5 && (leqB (lowerL (joinL (raiseL L0) (raiseL L4))) L2 && (leqB L2 L3 && leqB L3 (joinL L1 L5))))) with
                      | false =>
                        go_wp2_with (first | (go_at_call 21; refine (become_any (H.get (by repeat (first | exact List.Mem.head _ | apply List.Mem.tail))) (H.get (by repeat (first | exact List.Mem.head _ | apply List.Mem.tail))) (H.get (by repeat (first | exact List.Mem.head _ | apply List.Mem.tail))) (by omega) (by omega) (by omega)).mono ?_; rintro e w1 ⟨rfl, hb⟩; rw [qB]; replace H := H.next hb; replace hW := hW.next hb; replace hB := next3 hB hb; clear hb) | (go_at_call 25; refine (enter_any (H.get (by repeat (first | exact List.Mem.head _ | apply List.Mem.tail))) (H.get (by repeat (first | exact List.Mem.head _ | apply List.Mem.tail))) (H.get (by repeat (first | exact List.Mem.head _ | apply List.Mem.tail))) (H.get (by repeat (first | exact List.Mem.head _ | apply List.Mem.tail))) (H.get (by repeat (first | exact List.Mem.head _ | apply List.Mem.tail))) (H.get (by repeat (first | exact List.Mem.head _ | apply List.Mem.tail))) (by omega) (by omega) (by omega) (by omega) (by omega) (by omega)).mono ?_; rintro e w1 ⟨rfl, hb⟩; rw [qE]; replace H := H.next hb; replace hW := hW.next hb; replace hB := next3 hB hb; clear hb) | (go_at_call 35; refine (rget_any _ (H.get (by repeat (first | exact List.Mem.head _ | apply List.Mem.tail)))).mono ?_; rintro e w1 ⟨rfl, rfl⟩))
                        go_roundw
                        case rel => exact ⟨k + 1, by omega, by go_num, H, hW, hB⟩
                        case measure => simp [intOf]; omega
                      | true =>
                        have hE := enter_iff qE
                        by_cases g0 : get L0 x = 0
                        · skip
                          go_wp2_with (first | (go_at_call 21; refine (become_any (H.get (by repeat (first | exact List.Mem.head _ | apply List.Mem.tail))) (H.get (by repeat (first | exact List.Mem.head _ | apply List.Mem.tail))) (H.get (by repeat (first | exact List.Mem.head _ | apply List.Mem.tail))) (by omega) (by omega) (by omega)).mono ?_; rintro e w1 ⟨rfl, hb⟩; rw [qB]; replace H := H.next hb; replace hW := hW.next hb; replace hB := next3 hB hb; clear hb) | (go_at_call 25; refine (enter_any (H.get (by repeat (first | exact List.Mem.head _ | apply List.Mem.tail))) (H.get (by repeat (first | exact List.Mem.head _ | apply List.Mem.tail))) (H.get (by repeat (first | exact List.Mem.head _ | apply List.Mem.tail))) (H.get (by repeat (first | exact List.Mem.head _ | apply List.Mem.tail))) (H.get (by repeat (first | exact List.Mem.head _ | apply List.Mem.tail))) (H.get (by repeat (first | exact List.Mem.head _ | apply List.Mem.tail))) (by omega) (by omega) (by omega) (by omega) (by omega) (by omega)).mono ?_; rintro e w1 ⟨rfl, hb⟩; rw [qE]; replace H := H.next hb; replace hW := hW.next hb; replace hB := next3 hB hb; clear hb) | (go_at_call 35; refine (rget_any _ (H.get (by repeat (first | exact List.Mem.head _ | apply List.Mem.tail)))).mono ?_; rintro e w1 ⟨rfl, rfl⟩))
                          go_roundw
                          case rel => exact ⟨k + 1, by omega, by go_num, H, hW, hB⟩
                          case measure => simp [intOf]; omega
                        · obtain ⟨g1, g1n⟩ := neq0 g0
                          have g4 := gate_zero F0 F4 F2 a0 a4 hE g2 g0
                          go_wp2_with (first | (go_at_call 21; refine (become_any (H.get (by repeat (first | exact List.Mem.head _ | apply List.Mem.tail))) (H.get (by repeat (first | exact List.Mem.head _ | apply List.Mem.tail))) (H.get (by repeat (first | exact List.Mem.head _ | apply List.Mem.tail))) (by omega) (by omega) (by omega)).mono ?_; rintro e w1 ⟨rfl, hb⟩; rw [qB]; replace H := H.next hb; replace hW := hW.next hb; replace hB := next3 hB hb; clear hb) | (go_at_call 25; refine (enter_any (H.get (by repeat (first | exact List.Mem.head _ | apply List.Mem.tail))) (H.get (by repeat (first | exact List.Mem.head _ | apply List.Mem.tail))) (H.get (by repeat (first | exact List.Mem.head _ | apply List.Mem.tail))) (H.get (by repeat (first | exact List.Mem.head _ | apply List.Mem.tail))) (H.get (by repeat (first | exact List.Mem.head _ | apply List.Mem.tail))) (H.get (by repeat (first | exact List.Mem.head _ | apply List.Mem.tail))) (by omega) (by omega) (by omega) (by omega) (by omega) (by omega)).mono ?_; rintro e w1 ⟨rfl, hb⟩; rw [qE]; replace H := H.next hb; replace hW := hW.next hb; replace hB := next3 hB hb; clear hb) | (go_at_call 35; refine (rget_any _ (H.get (by repeat (first | exact List.Mem.head _ | apply List.Mem.tail)))).mono ?_; rintro e w1 ⟨rfl, rfl⟩))
                          go_roundw
                          case rel => exact ⟨k + 1, by omega, by go_num, H, hW, hB⟩
                          case measure => simp [intOf]; omega
                    | true =>
                      obtain ⟨_, t1, _⟩ := become_iff.1 qB
                      have g0 := leq_own F0 F2 t1 g2
                      cases qE : ((!abvB L2 && !abvB L3) && (leqB L0 L5 && (leqB (lowerL (joinL (raiseL L0) (raiseL L4))) L2 && (leqB L2 L3 && leqB L3 (joinL L1 L5))))) with
                      | false =>
                        go_wp2_with (first | (go_at_call 21; refine (become_any (H.get (by repeat (first | exact List.Mem.head _ | apply List.Mem.tail))) (H.get (by repeat (first | exact List.Mem.head _ | apply List.Mem.tail))) (H.get (by repeat (first | exact List.Mem.head _ | apply List.Mem.tail))) (by omega) (by omega) (by omega)).mono ?_; rintro e w1 ⟨rfl, hb⟩; rw [qB]; replace H := H.next hb; replace hW := hW.next hb; replace hB := next3 hB hb; clear hb) | (go_at_call 25; refine (enter_any (H.get (by repeat (first | exact List.Mem.head _ | apply List.Mem.tail))) (H.get (by repeat (first | exact List.Mem.head _ | apply List.Mem.tail))) (H.get (by repeat (first | exact List.Mem.head _ | apply List.Mem.tail))) (H.get (by repeat (first | exact List.Mem.head _ | apply List.Mem.tail))) (H.get (by repeat (first | exact List.Mem.head _ | apply List.Mem.tail))) (H.get (by repeat (first | exact List.Mem.head _ | apply List.Mem.tail))) (by omega) (by omega) (by omega) (by omega) (by omega) (by omega)).mono ?_; rintro e w1 ⟨rfl, hb⟩; rw [qE]; replace H := H.next hb; replace hW := hW.next hb; replace hB := next3 hB hb; clear hb) | (go_at_call 35; refine (rget_any _ (H.get (by repeat (first | exact List.Mem.head _ | apply List.Mem.tail)))).mono ?_; rintro e w1 ⟨rfl, rfl⟩))
                        go_roundw
                        case rel => exact ⟨k + 1, by omega, by go_num, H, hW, hB⟩
                        case measure => simp [intOf]; omega
                      | true =>
                        go_wp2_with (first | (go_at_call 21; refine (become_any (H.get (by repeat (first | exact List.Mem.head _ | apply List.Mem.tail))) (H.get (by repeat (first | exact List.Mem.head _ | apply List.Mem.tail))) (H.get (by repeat (first | exact List.Mem.head _ | apply List.Mem.tail))) (by omega) (by omega) (by omega)).mono ?_; rintro e w1 ⟨rfl, hb⟩; rw [qB]; replace H := H.next hb; replace hW := hW.next hb; replace hB := next3 hB hb; clear hb) | (go_at_call 25; refine (enter_any (H.get (by repeat (first | exact List.Mem.head _ | apply List.Mem.tail))) (H.get (by repeat (first | exact List.Mem.head _ | apply List.Mem.tail))) (H.get (by repeat (first | exact List.Mem.head _ | apply List.Mem.tail))) (H.get (by repeat (first | exact List.Mem.head _ | apply List.Mem.tail))) (H.get (by repeat (first | exact List.Mem.head _ | apply List.Mem.tail))) (H.get (by repeat (first | exact List.Mem.head _ | apply List.Mem.tail))) (by omega) (by omega) (by omega) (by omega) (by omega) (by omega)).mono ?_; rintro e w1 ⟨rfl, hb⟩; rw [qE]; replace H := H.next hb; replace hW := hW.next hb; replace hB := next3 hB hb; clear hb) | (go_at_call 35; refine (rget_any _ (H.get (by repeat (first | exact List.Mem.head _ | apply List.Mem.tail)))).mono ?_; rintro e w1 ⟨rfl, rfl⟩))
                        go_roundw
                        case rel => exact ⟨k + 1, by omega, by go_num, H, hW, hB⟩
                        case measure => simp [intOf]; omega
                  · go_wp2_with (first | (go_at_call 10; refine (awake3_any _).mono ?_; rintro e w1 ⟨rfl, hb⟩; replace H := H.next hb; replace hB := next3 hB hb; clear hb))
                    go_ret
                    exact ⟨rfl, hB⟩
        | true =>
          have tok : True := trivial
          go_enter Try.func6, Try.ntmps6
          go_upto_region 4 with (first | (go_at_call 9; refine (fit7_any _ _ _ _ _ _ _ _ _ _ _ _ _ _ _ _ _ _ _ _ _ _ L0 L1 L2 L3 L4 L5 L6 (H.sub (fun x hx => List.mem_cons_of_mem _ hx))).mono ?_; rintro e w1 ⟨rfl, hb⟩; replace H := H.next hb; replace hB := next3 hB hb; clear hb) | (go_at_call 33; refine (above_any (H.get (by repeat (first | exact List.Mem.head _ | apply List.Mem.tail)))).mono ?_; rintro e w1 ⟨rfl, hb⟩; replace H := H.next hb; replace hB := next3 hB hb; clear hb) | (go_at_call 28; clear tok; refine (hides_any (H.get (by repeat (first | exact List.Mem.head _ | apply List.Mem.tail))) (H.get (by repeat (first | exact List.Mem.head _ | apply List.Mem.tail))) (by omega) (by omega)).mono ?_; rintro e w1 ⟨aoH, nH, capH, rfl, hH, hb⟩; replace H := H.next hb; replace hB := next3 hB hb; clear hb) | (go_at_call 28; refine (hides_any (H.get (by repeat (first | exact List.Mem.head _ | apply List.Mem.tail))) (H.get (by repeat (first | exact List.Mem.head _ | apply List.Mem.tail))) (by omega) (by omega)).mono ?_; rintro e w1 ⟨aoI, nI, capI, rfl, hI, hb⟩; obtain rfl := exc_z hI.1 (by assumption) (by assumption) (by assumption); clear hI; replace H := H.next hb; replace hH := hH.next hb; replace hB := next3 hB hb; clear hb))
          go_cut [64] (fun s wc => s = .bool false ∧ Labs wc [(none, 0, 0, []), (ao0, n0, cap0, L0), (ao1, n1, cap1, L1), (ao2, n2, cap2, L2), (ao3, n3, cap3, L3), (ao4, n4, cap4, L4), (ao5, n5, cap5, L5), (ao6, n6, cap6, L6)] ∧ Cts wc.heap.size wc aoH nH capH (exc (raiseL L0) L6) ∧ Below w.heap.size w wc)
          case first =>
            cases qB : (!abvB L2 && (leqB L0 L2 && leqB L2 L1)) with
            | false =>
              go_wp2_with (first | (go_at_call 21; refine (become_any (H.get (by repeat (first | exact List.Mem.head _ | apply List.Mem.tail))) (H.get (by repeat (first | exact List.Mem.head _ | apply List.Mem.tail))) (H.get (by repeat (first | exact List.Mem.head _ | apply List.Mem.tail))) (by omega) (by omega) (by omega)).mono ?_; rintro e w1 ⟨rfl, hb⟩; rw [qB]; replace H := H.next hb; replace hH := hH.next hb; replace hB := next3 hB hb; clear hb))
              go_meet
              case rel => exact ⟨rfl, H, hH, hB⟩
            | true =>
              obtain ⟨_, t1, t2⟩ := become_iff.1 qB
              have ow := back_own (G := []) F0 F2 F6 t1 hk
              go_wp2_with (first | (go_at_call 21; refine (become_any (H.get (by repeat (first | exact List.Mem.head _ | apply List.Mem.tail))) (H.get (by repeat (first | exact List.Mem.head _ | apply List.Mem.tail))) (H.get (by repeat (first | exact List.Mem.head _ | apply List.Mem.tail))) (by omega) (by omega) (by omega)).mono ?_; rintro e w1 ⟨rfl, hb⟩; rw [qB]; replace H := H.next hb; replace hH := hH.next hb; replace hB := next3 hB hb; clear hb) | (go_at_call 32; refine (owns_any (H.get (by repeat (first | exact List.Mem.head _ | apply List.Mem.tail))) (H.get (by repeat (first | exact List.Mem.head _ | apply List.Mem.tail))) hH).mono ?_; rintro e w1 ⟨rfl, rfl⟩; rw [ow]) | (go_at_call 30; refine (rleq_f (H.get (by repeat (first | exact List.Mem.head _ | apply List.Mem.tail))) (H.get (by repeat (first | exact List.Mem.head _ | apply List.Mem.tail))) (by assumption) (by assumption)).mono ?_; rintro e w1 ⟨rfl, hb⟩; replace H := H.next hb; replace hH := hH.next hb; replace hB := next3 hB hb; clear hb))
              go_meet
              case rel => exact ⟨rfl, H, hH, hB⟩
          case rest =>
            clear H hH hB
            obtain ⟨rfl, H, hH, hB⟩ := hcut
            go_upto_region 6 with fail
            go_cut [81] (fun s wc => s = .bool false ∧ Labs wc [(none, 0, 0, []), (ao0, n0, cap0, L0), (ao1, n1, cap1, L1), (ao2, n2, cap2, L2), (ao3, n3, cap3, L3), (ao4, n4, cap4, L4), (ao5, n5, cap5, L5), (ao6, n6, cap6, L6)] ∧ Cts wc.heap.size wc aoH nH capH (exc (raiseL L0) L6) ∧ Below w.heap.size w wc)
            case first =>
              cases qE : ((!abvB L2 && !abvB L3) && (leqB L0 L5 && (leqB (lowerL (joinL (raiseL L0) (raiseL L4))) L2 && (leqB L2 L3 && leqB L3 (joinL L1 L5))))) with
              | false =>
                go_wp2_with (first | (go_at_call 25; refine (enter_any (H.get (by repeat (first | exact List.Mem.head _ | apply List.Mem.tail))) (H.get (by repeat (first | exact List.Mem.head _ | apply List.Mem.tail))) (H.get (by repeat (first | exact List.Mem.head _ | apply List.Mem.tail))) (H.get (by repeat (first | exact List.Mem.head _ | apply List.Mem.tail))) (H.get (by repeat (first | exact List.Mem.head _ | apply List.Mem.tail))) (H.get (by repeat (first | exact List.Mem.head _ | apply List.Mem.tail))) (by omega) (by omega) (by omega) (by omega) (by omega) (by omega)).mono ?_; rintro e w1 ⟨rfl, hb⟩; rw [qE]; replace H := H.next hb; replace hH := hH.next hb; replace hB := next3 hB hb; clear hb))
                go_meet
                case rel => exact ⟨rfl, H, hH, hB⟩
              | true =>
                have ow := gate_own F0 F4 F2 F6 a0 a4 (enter_iff qE) hk
                go_wp2_with (first | (go_at_call 25; refine (enter_any (H.get (by repeat (first | exact List.Mem.head _ | apply List.Mem.tail))) (H.get (by repeat (first | exact List.Mem.head _ | apply List.Mem.tail))) (H.get (by repeat (first | exact List.Mem.head _ | apply List.Mem.tail))) (H.get (by repeat (first | exact List.Mem.head _ | apply List.Mem.tail))) (H.get (by repeat (first | exact List.Mem.head _ | apply List.Mem.tail))) (H.get (by repeat (first | exact List.Mem.head _ | apply List.Mem.tail))) (by omega) (by omega) (by omega) (by omega) (by omega) (by omega)).mono ?_; rintro e w1 ⟨rfl, hb⟩; rw [qE]; replace H := H.next hb; replace hH := hH.next hb; replace hB := next3 hB hb; clear hb) | (go_at_call 32; refine (owns_any (H.get (by repeat (first | exact List.Mem.head _ | apply List.Mem.tail))) (H.get (by repeat (first | exact List.Mem.head _ | apply List.Mem.tail))) hH).mono ?_; rintro e w1 ⟨rfl, rfl⟩; rw [ow]))
                go_meet
                case rel => exact ⟨rfl, H, hH, hB⟩
            case rest =>
              clear H hH hB
              obtain ⟨rfl, H, hH, hB⟩ := hcut
              go_upto_region 8 with fail
              go_cut [101] (fun s wc => s = .bool false ∧ Labs wc [(none, 0, 0, []), (ao0, n0, cap0, L0), (ao1, n1, cap1, L1), (ao2, n2, cap2, L2), (ao3, n3, cap3, L3), (ao4, n4, cap4, L4), (ao5, n5, cap5, L5), (ao6, n6, cap6, L6)] ∧ Cts wc.heap.size wc aoH nH capH (exc (raiseL L0) L6) ∧ Below w.heap.size w wc)
              case first =>
                cases qP : ((!abvB L2 && !abvB L3) && (leqB L0 L2 && (leqB L2 L3 && leqB L3 L1))) with
                | false =>
                  go_wp2_with (first | (go_at_call 19; refine (spawn_any (H.get (by repeat (first | exact List.Mem.head _ | apply List.Mem.tail))) (H.get (by repeat (first | exact List.Mem.head _ | apply List.Mem.tail))) (H.get (by repeat (first | exact List.Mem.head _ | apply List.Mem.tail))) (H.get (by repeat (first | exact List.Mem.head _ | apply List.Mem.tail))) (by omega) (by omega) (by omega) (by omega)).mono ?_; rintro e w1 ⟨rfl, hb⟩; rw [qP]; replace H := H.next hb; replace hH := hH.next hb; replace hB := next3 hB hb; clear hb))
                  go_meet
                  case rel => exact ⟨rfl, H, hH, hB⟩
                | true =>
                  obtain ⟨_, _, t1, _, t2⟩ := spawn_iff.1 qP
                  have ow := back_own (G := []) F0 F2 F6 t1 hk
                  go_wp2_with (first | (go_at_call 19; refine (spawn_any (H.get (by repeat (first | exact List.Mem.head _ | apply List.Mem.tail))) (H.get (by repeat (first | exact List.Mem.head _ | apply List.Mem.tail))) (H.get (by repeat (first | exact List.Mem.head _ | apply List.Mem.tail))) (H.get (by repeat (first | exact List.Mem.head _ | apply List.Mem.tail))) (by omega) (by omega) (by omega) (by omega)).mono ?_; rintro e w1 ⟨rfl, hb⟩; rw [qP]; replace H := H.next hb; replace hH := hH.next hb; replace hB := next3 hB hb; clear hb) | (go_at_call 32; refine (owns_any (H.get (by repeat (first | exact List.Mem.head _ | apply List.Mem.tail))) (H.get (by repeat (first | exact List.Mem.head _ | apply List.Mem.tail))) hH).mono ?_; rintro e w1 ⟨rfl, rfl⟩; rw [ow]) | (go_at_call 30; refine (rleq_f (H.get (by repeat (first | exact List.Mem.head _ | apply List.Mem.tail))) (H.get (by repeat (first | exact List.Mem.head _ | apply List.Mem.tail))) (by assumption) (by assumption)).mono ?_; rintro e w1 ⟨rfl, hb⟩; replace H := H.next hb; replace hH := hH.next hb; replace hB := next3 hB hb; clear hb))
                  go_meet
                  case rel => exact ⟨rfl, H, hH, hB⟩
              case rest =>
                clear H hH hB
                obtain ⟨rfl, H, hH, hB⟩ := hcut
                clear hH
                go_wp2_with (first | (go_at_call 34; refine (rowned_any (H.get (by repeat (first | exact List.Mem.head _ | apply List.Mem.tail))) (by omega)).mono ?_; rintro e w1 ⟨aoW, nW, capW, rfl, hW, hb⟩; replace H := H.next hb; replace hB := next3 hB hb; clear hb))
                have hW1 := hW.1
                have hW2 := hW.2.1
                have hW3 := hW.2.2.1
                go_loopw [105] (fun i wr => ∃ k : Nat, k ≤ nW ∧ i = .int .i64 k ∧ Labs wr [(none, 0, 0, []), (ao0, n0, cap0, L0), (ao1, n1, cap1, L1), (ao2, n2, cap2, L2), (ao3, n3, cap3, L3), (ao4, n4, cap4, L4), (ao5, n5, cap5, L5), (ao6, n6, cap6, L6)] ∧ Cts wr.heap.size wr aoW nW capW (owned L2) ∧ Below w.heap.size w wr) (fun i _ => nW - (intOf i).toNat)
                case atStart => exact ⟨0, Nat.zero_le _, rfl, H, hW, hB⟩
                case round =>
                  clear H hW hB
                  obtain ⟨k, hkn, rfl, H, hW, hB⟩ := hrel
                  by_cases hlt : k < nW
                  · obtain ⟨b, off, x, rfl, hbB, d0, hx⟩ := hW.at hlt
                    have g2 : get L2 x = 0 := by rw [← hx.out]; exact own_in F2 (by omega)
                    cases qB : (!abvB L2 && (leqB L0 L2 && leqB L2 L1)) with
                    | false =>
                      cases qE : ((!abvB L2 && !abvB L3) && (leqB L0 L5 && (leqB (lowerL (joinL (raiseL L0) (raiseL L4))) L2 && (leqB L2 L3 && leqB L3 (joinL L1 L5))))) with
                      | false =>
                        go_wp2_with (first | (go_at_call 21; refine (become_any (H.get (by repeat (first | exact List.Mem.head _ | apply List.Mem.tail))) (H.get (by repeat (first | exact List.Mem.head _ | apply List.Mem.tail))) (H.get (by repeat (first | exact List.Mem.head _ | apply List.Mem.tail))) (by omega) (by omega) (by omega)).mono ?_; rintro e w1 ⟨rfl, hb⟩; rw [qB]; replace H := H.next hb; replace hW := hW.next hb; replace hB := next3 hB hb; clear hb) | (go_at_call 25; refine (enter_any (H.get (by repeat (first | exact List.Mem.head _ | apply List.Mem.tail))) (H.get (by repeat (first | exact List.Mem.head _ | apply List.Mem.tail))) (H.get (by repeat (first | exact List.Mem.head _ | apply List.Mem.tail))) (H.get (by repeat (first | exact List.Mem.head _ | apply List.Mem.tail))) (H.get (by repeat (first | exact List.Mem.head _ | apply List.Mem.tail))) (H.get (by repeat (first | exact List.Mem.head _ | apply List.Mem.tail))) (by omega) (by omega) (by omega) (by omega) (by omega) (by omega)).mono ?_; rintro e w1 ⟨rfl, hb⟩; rw [qE]; replace H := H.next hb; replace hW := hW.next hb; replace hB := next3 hB hb; clear hb) | (go_at_call 35; refine (rget_any _ (H.get (by repeat (first | exact List.Mem.head _ | apply List.Mem.tail)))).mono ?_; rintro e w1 ⟨rfl, rfl⟩))
                        go_roundw
                        case rel => exact ⟨k + 1, by omega, by go_num, H, hW, hB⟩
                        case measure => simp [intOf]; omega
                      | true =>
                        have hE := enter_iff qE
                        by_cases g0 : get L0 x = 0
                        · skip
                          go_wp2_with (first | (go_at_call 21; refine (become_any (H.get (by repeat (first | exact List.Mem.head _ | apply List.Mem.tail))) (H.get (by repeat (first | exact List.Mem.head _ | apply List.Mem.tail))) (H.get (by repeat (first | exact List.Mem.head _ | apply List.Mem.tail))) (by omega) (by omega) (by omega)).mono ?_; rintro e w1 ⟨rfl, hb⟩; rw [qB]; replace H := H.next hb; replace hW := hW.next hb; replace hB := next3 hB hb; clear hb) | (go_at_call 25; refine (enter_any (H.get (by repeat (first | exact List.Mem.head _ | apply List.Mem.tail))) (H.get (by repeat (first | exact List.Mem.head _ | apply List.Mem.tail))) (H.get (by repeat (first | exact List.Mem.head _ | apply List.Mem.tail))) (H.get (by repeat (first | exact List.Mem.head _ | apply List.Mem.tail))) (H.get (by repeat (first | exact List.Mem.head _ | apply List.Mem.tail))) (H.get (by repeat (first | exact List.Mem.head _ | apply List.Mem.tail))) (by omega) (by omega) (by omega) (by omega) (by omega) (by omega)).mono ?_; rintro e w1 ⟨rfl, hb⟩; rw [qE]; replace H := H.next hb; replace hW := hW.next hb; replace hB := next3 hB hb; clear hb) | (go_at_call 35; refine (rget_any _ (H.get (by repeat (first | exact List.Mem.head _ | apply List.Mem.tail)))).mono ?_; rintro e w1 ⟨rfl, rfl⟩))
                          go_roundw
                          case rel => exact ⟨k + 1, by omega, by go_num, H, hW, hB⟩
                          case measure => simp [intOf]; omega
                        · obtain ⟨g1, g1n⟩ := neq0 g0
                          have g4 := gate_zero F0 F4 F2 a0 a4 hE g2 g0
                          go_wp2_with (first | (go_at_call 21; refine (become_any (H.get (by repeat (first | exact List.Mem.head _ | apply List.Mem.tail))) (H.get (by repeat (first | exact List.Mem.head _ | apply List.Mem.tail))) (H.get (by repeat (first | exact List.Mem.head _ | apply List.Mem.tail))) (by omega) (by omega) (by omega)).mono ?_; rintro e w1 ⟨rfl, hb⟩; rw [qB]; replace H := H.next hb; replace hW := hW.next hb; replace hB := next3 hB hb; clear hb) | (go_at_call 25; refine (enter_any (H.get (by repeat (first | exact List.Mem.head _ | apply List.Mem.tail))) (H.get (by repeat (first | exact List.Mem.head _ | apply List.Mem.tail))) (H.get (by repeat (first | exact List.Mem.head _ | apply List.Mem.tail))) (H.get (by repeat (first | exact List.Mem.head _ | apply List.Mem.tail))) (H.get (by repeat (first | exact List.Mem.head _ | apply List.Mem.tail))) (H.get (by repeat (first | exact List.Mem.head _ | apply List.Mem.tail))) (by omega) (by omega) (by omega) (by omega) (by omega) (by omega)).mono ?_; rintro e w1 ⟨rfl, hb⟩; rw [qE]; replace H := H.next hb; replace hW := hW.next hb; replace hB := next3 hB hb; clear hb) | (go_at_call 35; refine (rget_any _ (H.get (by repeat (first | exact List.Mem.head _ | apply List.Mem.tail)))).mono ?_; rintro e w1 ⟨rfl, rfl⟩))
                          go_roundw
                          case rel => exact ⟨k + 1, by omega, by go_num, H, hW, hB⟩
                          case measure => simp [intOf]; omega
                    | true =>
                      obtain ⟨_, t1, _⟩ := become_iff.1 qB
                      have g0 := leq_own F0 F2 t1 g2
                      cases qE : ((!abvB L2 && !abvB L3) && (leqB L0 L5 && (leqB (lowerL (joinL (raiseL L0) (raiseL L4))) L2 && (leqB L2 L3 && leqB L3 (joinL L1 L5))))) with
                      | false =>
                        go_wp2_with (first | (go_at_call 21; refine (become_any (H.get (by repeat (first | exact List.Mem.head _ | apply List.Mem.tail))) (H.get (by repeat (first | exact List.Mem.head _ | apply List.Mem.tail))) (H.get (by repeat (first | exact List.Mem.head _ | apply List.Mem.tail))) (by omega) (by omega) (by omega)).mono ?_; rintro e w1 ⟨rfl, hb⟩; rw [qB]; replace H := H.next hb; replace hW := hW.next hb; replace hB := next3 hB hb; clear hb) | (go_at_call 25; refine (enter_any (H.get (by repeat (first | exact List.Mem.head _ | apply List.Mem.tail))) (H.get (by repeat (first | exact List.Mem.head _ | apply List.Mem.tail))) (H.get (by repeat (first | exact List.Mem.head _ | apply List.Mem.tail))) (H.get (by repeat (first | exact List.Mem.head _ | apply List.Mem.tail))) (H.get (by repeat (first | exact List.Mem.head _ | apply List.Mem.tail))) (H.get (by repeat (first | exact List.Mem.head _ | apply List.Mem.tail))) (by omega) (by omega) (by omega) (by omega) (by omega) (by omega)).mono ?_; rintro e w1 ⟨rfl, hb⟩; rw [qE]; replace H := H.next hb; replace hW := hW.next hb; replace hB := next3 hB hb; clear hb) | (go_at_call 35; refine (rget_any _ (H.get (by repeat (first | exact List.Mem.head _ | apply List.Mem.tail)))).mono ?_; rintro e w1 ⟨rfl, rfl⟩))
                        go_roundw
                        case rel => exact ⟨k + 1, by omega, by go_num, H, hW, hB⟩
                        case measure => simp [intOf]; omega
                      | true =>
                        go_wp2_with (first | (go_at_call 21; refine (become_any (H.get (by repeat (first | exact List.Mem.head _ | apply List.Mem.tail))) (H.get (by repeat (first | exact List.Mem.head _ | apply List.Mem.tail))) (H.get (by repeat (first | exact List.Mem.head _ | apply List.Mem.tail))) (by omega) (by omega) (by omega)).mono ?_; rintro e w1 ⟨rfl, hb⟩; rw [qB]; replace H := H.next hb; replace hW := hW.next hb; replace hB := next3 hB hb; clear hb) | (go_at_call 25; refine (enter_any (H.get (by repeat (first | exact List.Mem.head _ | apply List.Mem.tail))) (H.get (by repeat (first | exact List.Mem.head _ | apply List.Mem.tail))) (H.get (by repeat (first | exact List.Mem.head _ | apply List.Mem.tail))) (H.get (by repeat (first | exact List.Mem.head _ | apply List.Mem.tail))) (H.get (by repeat (first | exact List.Mem.head _ | apply List.Mem.tail))) (H.get (by repeat (first | exact List.Mem.head _ | apply List.Mem.tail))) (by omega) (by omega) (by omega) (by omega) (by omega) (by omega)).mono ?_; rintro e w1 ⟨rfl, hb⟩; rw [qE]; replace H := H.next hb; replace hW := hW.next hb; replace hB := next3 hB hb; clear hb) | (go_at_call 35; refine (rget_any _ (H.get (by repeat (first | exact List.Mem.head _ | apply List.Mem.tail)))).mono ?_; rintro e w1 ⟨rfl, rfl⟩))
                        go_roundw
                        case rel => exact ⟨k + 1, by omega, by go_num, H, hW, hB⟩
                        case measure => simp [intOf]; omega
                  · go_wp2_with (first | (go_at_call 10; refine (awake3_any _).mono ?_; rintro e w1 ⟨rfl, hb⟩; replace H := H.next hb; replace hB := next3 hB hb; clear hb))
                    go_ret
                    exact ⟨rfl, hB⟩
      | true =>
        go_enter Try.func6, Try.ntmps6
        go_wp2_with (first | (go_at_call 9; refine (fit7_any _ _ _ _ _ _ _ _ _ _ _ _ _ _ _ _ _ _ _ _ _ _ L0 L1 L2 L3 L4 L5 L6 (H.sub (fun x hx => List.mem_cons_of_mem _ hx))).mono ?_; rintro e w1 ⟨rfl, hb⟩; replace H := H.next hb; replace hB := next3 hB hb; clear hb) | (go_at_call 10; refine (awake3_any _).mono ?_; rintro e w1 ⟨rfl, hb⟩; replace H := H.next hb; replace hB := next3 hB hb; clear hb) | (go_at_call 33; refine (above_any (H.get (by repeat (first | exact List.Mem.head _ | apply List.Mem.tail)))).mono ?_; rintro e w1 ⟨rfl, hb⟩; replace H := H.next hb; replace hB := next3 hB hb; clear hb))
        go_ret
        exact ⟨rfl, hB⟩
    | true =>
      go_enter Try.func6, Try.ntmps6
      go_wp2_with (first | (go_at_call 9; refine (fit7_any _ _ _ _ _ _ _ _ _ _ _ _ _ _ _ _ _ _ _ _ _ _ L0 L1 L2 L3 L4 L5 L6 (H.sub (fun x hx => List.mem_cons_of_mem _ hx))).mono ?_; rintro e w1 ⟨rfl, hb⟩; replace H := H.next hb; replace hB := next3 hB hb; clear hb) | (go_at_call 10; refine (awake3_any _).mono ?_; rintro e w1 ⟨rfl, hb⟩; replace H := H.next hb; replace hB := next3 hB hb; clear hb) | (go_at_call 33; refine (above_any (H.get (by repeat (first | exact List.Mem.head _ | apply List.Mem.tail)))).mono ?_; rintro e w1 ⟨rfl, hb⟩; replace H := H.next hb; replace hB := next3 hB hb; clear hb))
      go_ret
      exact ⟨rfl, hB⟩

set_option maxRecDepth 100000 in
theorem lifted (os : Os) (started : os.Started) (H : Type) (enc : TypeId × Value → H) :
    ReturnsInHanded {} Try.checked os 6 .any (Rows.checkBackSpec.pre6 enc Try.prog Try.f6 Rows.checkBackRow.domain false) (Rows.checkBackSpec.post enc Try.prog Try.f6 false true false false) := by
  refine returnsInHanded_of_change (C := Try.checked) own started (by kernel_rfl) Try.func6
    (ChangeSpec.witness6 (enc := enc) (C := Try.checked) false ⟨#[], #[.slice none 0 0, .slice none 0 0, .slice none 0 0, .slice none 0 0, .slice none 0 0, .slice none 0 0, .slice none 0 0], []⟩ 8 (by kernel_rfl) (by kernel_rfl) (by kernel_rfl) (by kernel_rfl)) ?_
  intro W base args ds gs before hval0 hW hcnd _
  have hval : ∀ (j : Nat) t v, Try.f6.params[j]? = some t → args[j]? = some v → Value.okWide Try.prog W .any base t v := hval0
  have hW' := hW
  obtain ⟨p, q, hA0, hV, rfl, hfz, hnd⟩ := hW
  have hA : DataW.TrodAll enc Try.prog W 0 (fun _ => true) true Try.f6.params.toList args.toList ds p := hA0
  rw [Try.params6] at hA hval
  obtain ⟨v0, vs0, d0, ds0, p0, q0, hargs, rfl, rfl, h0, r0⟩ := trodAll_cons hA
  obtain ⟨v1, vs1, d1, ds1, p1, q1, rfl, rfl, rfl, h1, r1⟩ := trodAll_cons r0
  obtain ⟨v2, vs2, d2, ds2, p2, q2, rfl, rfl, rfl, h2, r2⟩ := trodAll_cons r1
  obtain ⟨v3, vs3, d3, ds3, p3, q3, rfl, rfl, rfl, h3, r3⟩ := trodAll_cons r2
  obtain ⟨v4, vs4, d4, ds4, p4, q4, rfl, rfl, rfl, h4, r4⟩ := trodAll_cons r3
  obtain ⟨v5, vs5, d5, ds5, p5, q5, rfl, rfl, rfl, h5, r5⟩ := trodAll_cons r4
  obtain ⟨v6, vs6, d6, ds6, p6, q6, rfl, rfl, rfl, h6, r6⟩ := trodAll_cons r5
  obtain ⟨rfl, rfl, rfl⟩ := trodAll_nil r6
  obtain rfl : args = #[v0, v1, v2, v3, v4, v5, v6] := by cases args; simp_all
  obtain ⟨rfl, rfl⟩ := trodVars_none hV
  obtain ⟨ao0, n0, cap0, rfl⟩ := okWide_slice Try.underlying23 (hval 0 23 v0 rfl rfl)
  have k0 := h0
  have lt0 : ∀ x ∈ p0, x.block < W.heap.size := by obtain ⟨m, hm⟩ := k0; exact DataW.trod_lt m _ _ _ hm
  obtain ⟨L0, l0⟩ := lab_of_trod h0
  obtain ⟨ao1, n1, cap1, rfl⟩ := okWide_slice Try.underlying23 (hval 1 23 v1 rfl rfl)
  have k1 := h1
  have lt1 : ∀ x ∈ p1, x.block < W.heap.size := by obtain ⟨m, hm⟩ := k1; exact DataW.trod_lt m _ _ _ hm
  obtain ⟨L1, l1⟩ := lab_of_trod h1
  obtain ⟨ao2, n2, cap2, rfl⟩ := okWide_slice Try.underlying23 (hval 2 23 v2 rfl rfl)
  have k2 := h2
  have lt2 : ∀ x ∈ p2, x.block < W.heap.size := by obtain ⟨m, hm⟩ := k2; exact DataW.trod_lt m _ _ _ hm
  obtain ⟨L2, l2⟩ := lab_of_trod h2
  obtain ⟨ao3, n3, cap3, rfl⟩ := okWide_slice Try.underlying23 (hval 3 23 v3 rfl rfl)
  have k3 := h3
  have lt3 : ∀ x ∈ p3, x.block < W.heap.size := by obtain ⟨m, hm⟩ := k3; exact DataW.trod_lt m _ _ _ hm
  obtain ⟨L3, l3⟩ := lab_of_trod h3
  obtain ⟨ao4, n4, cap4, rfl⟩ := okWide_slice Try.underlying23 (hval 4 23 v4 rfl rfl)
  have k4 := h4
  have lt4 : ∀ x ∈ p4, x.block < W.heap.size := by obtain ⟨m, hm⟩ := k4; exact DataW.trod_lt m _ _ _ hm
  obtain ⟨L4, l4⟩ := lab_of_trod h4
  obtain ⟨ao5, n5, cap5, rfl⟩ := okWide_slice Try.underlying23 (hval 5 23 v5 rfl rfl)
  have k5 := h5
  have lt5 : ∀ x ∈ p5, x.block < W.heap.size := by obtain ⟨m, hm⟩ := k5; exact DataW.trod_lt m _ _ _ hm
  obtain ⟨L5, l5⟩ := lab_of_trod h5
  obtain ⟨ao6, n6, cap6, rfl⟩ := okWide_slice Try.underlying23 (hval 6 23 v6 rfl rfl)
  have k6 := h6
  have lt6 : ∀ x ∈ p6, x.block < W.heap.size := by obtain ⟨m, hm⟩ := k6; exact DataW.trod_lt m _ _ _ hm
  obtain ⟨L6, l6⟩ := lab_of_trod h6
  clear hA0 hval0
  refine (walk ao0 n0 cap0 L0 ao1 n1 cap1 L1 ao2 n2 cap2 L2 ao3 n3 cap3 L3 ao4 n4 cap4 L4 ao5 n5 cap5 L5 ao6 n6 cap6 L6 W l0 l1 l2 l3 l4 l5 l6).mono fun e W' ⟨he, bel⟩ => ?_
  subst he
  exact ⟨_, rfl, _, _, _, [], _, [], hW', trodAll_mk1 (shut_bool Try.underlying4 _), (trodAll_cons_mk (Below.trod laidOut (by kernel_rfl) (of_decide_eq_true (by kernel_rfl)) k0 bel lt0) (trodAll_cons_mk (Below.trod laidOut (by kernel_rfl) (of_decide_eq_true (by kernel_rfl)) k1 bel lt1) (trodAll_cons_mk (Below.trod laidOut (by kernel_rfl) (of_decide_eq_true (by kernel_rfl)) k2 bel lt2) (trodAll_cons_mk (Below.trod laidOut (by kernel_rfl) (of_decide_eq_true (by kernel_rfl)) k3 bel lt3) (trodAll_cons_mk (Below.trod laidOut (by kernel_rfl) (of_decide_eq_true (by kernel_rfl)) k4 bel lt4) (trodAll_cons_mk (Below.trod laidOut (by kernel_rfl) (of_decide_eq_true (by kernel_rfl)) k5 bel lt5) (trodAll_cons_mk (Below.trod laidOut (by kernel_rfl) (of_decide_eq_true (by kernel_rfl)) k6 bel lt6) trodAll_mk0))))))), rfl, bel.frame _, fun h => by cases h⟩

theorem over : Rows.checkBackRow.holds Try.pinned (OpenSpec.ofChange Rows.checkBackSpec) :=
  OpenClaim.holds_of_wide 6 Try.f6 rfl rfl rfl rfl rfl rfl rfl ⟨rfl, rfl, rfl, rfl, rfl⟩ rfl rfl rfl rfl rfl (by kernel_rfl) Try.func6 (by kernel_rfl)
    (of_decide_eq_true (by kernel_rfl)) (by unfold Func.isWrapper; first | (rw [if_pos (by decide +kernel)]; kernel_rfl) | (rw [if_neg (by decide +kernel)]; exact ⟨rfl, rfl⟩))
    (fun os started H enc _ => lifted os started H enc)

end checkBack
/-- The statement. -/
theorem checkBack_holds : Rows.CheckBackSaid :=
  checkBack.over
#print axioms checkBack_holds
end Go.Proofs.Ytkhnlgbebbhmbaa
