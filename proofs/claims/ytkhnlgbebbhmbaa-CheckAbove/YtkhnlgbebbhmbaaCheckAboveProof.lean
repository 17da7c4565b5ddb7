/-
  PROVED HERE: for every four labels the law CheckAbove returns true (P3.5: nothing above is seen). No condition.
-/
import Derived.Test.YtkhnlgbebbhmbaaRows
import Derived.Test.YtkhnlgbebbhmbaaChk13
import Derived.WalkKit
import Derived.ProofKit
import Derived.OpenShut
import Derived.Below
import Derived.ShutString
import Derived.Deep.QuietTactic
namespace Go.Proofs.Ytkhnlgbebbhmbaa
namespace checkAbove
open Go.ChangeShapes Go.WideShapes Go.ChangeAt Go.RowKit
open Go.ChangeMaps (open_string shut_string)
set_option linter.unusedVariables false

theorem own : ownKnob Try.prog.godebug = none := by kernel_rfl

set_option maxRecDepth 100000 in
set_option maxHeartbeats 8000000 in
theorem walk (ao0 : Option Addr) (n0 cap0 : Nat) (L0 : List (Int × Int)) (ao1 : Option Addr) (n1 cap1 : Nat) (L1 : List (Int × Int)) (ao2 : Option Addr) (n2 cap2 : Nat) (L2 : List (Int × Int)) (ao3 : Option Addr) (n3 cap3 : Nat) (L3 : List (Int × Int)) (w : World) (l0 : Lab w.heap.size w ao0 n0 cap0 L0) (l1 : Lab w.heap.size w ao1 n1 cap1 L1) (l2 : Lab w.heap.size w ao2 n2 cap2 L2) (l3 : Lab w.heap.size w ao3 n3 cap3 L3) :
    Calls Try.prog 4 #[.slice ao0 n0 cap0, .slice ao1 n1 cap1, .slice ao2 n2 cap2, .slice ao3 n3 cap3] w fun e w' => e = .returned (.bool true) ∧ Below w.heap.size w w' := by
  have hB := Below.refl w.heap.size w
  have H := ((((((Labs.nil w).push l3).push l2).push l1).push l0).push (Lab.nil _ _))
  clear l0 l1 l2 l3
  have fnil := Fit.nil
  cases hok : okB [(ao0, n0, cap0, L0), (ao1, n1, cap1, L1), (ao2, n2, cap2, L2), (ao3, n3, cap3, L3)] with
  | false =>
    go_enter Try.func4, Try.ntmps4
    go_wp2_with (first | (go_at_call 9; refine (fit4_any _ _ _ _ _ _ _ _ _ _ _ _ _ L0 L1 L2 L3 (H.sub (fun x hx => List.mem_cons_of_mem _ hx))).mono ?_; rintro e w1 ⟨rfl, hb⟩; replace H := H.next hb; replace hB := next3 hB hb; clear hb) | (go_at_call 10; refine (awake3_any _).mono ?_; rintro e w1 ⟨rfl, hb⟩; replace H := H.next hb; replace hB := next3 hB hb; clear hb))
    go_ret
    exact ⟨rfl, hB⟩
  | true =>
    obtain ⟨hn0, F0⟩ := okB_get hok (ao := ao0) (n := n0) (cap := cap0) (L := L0) (by repeat (first | exact List.Mem.head _ | apply List.Mem.tail))
    obtain ⟨hn1, F1⟩ := okB_get hok (ao := ao1) (n := n1) (cap := cap1) (L := L1) (by repeat (first | exact List.Mem.head _ | apply List.Mem.tail))
    obtain ⟨hn2, F2⟩ := okB_get hok (ao := ao2) (n := n2) (cap := cap2) (L := L2) (by repeat (first | exact List.Mem.head _ | apply List.Mem.tail))
    obtain ⟨hn3, F3⟩ := okB_get hok (ao := ao3) (n := n3) (cap := cap3) (L := L3) (by repeat (first | exact List.Mem.head _ | apply List.Mem.tail))
    have G0 := raiseL_fit F0
    cases hs : leqB (raiseL L0) L1 with
    | false =>
      cases ho : leqB L3 (raiseL L0) with
      | false =>
        go_enter Try.func4, Try.ntmps4
        go_wp2_with (first | (go_at_call 9; refine (fit4_any _ _ _ _ _ _ _ _ _ _ _ _ _ L0 L1 L2 L3 (H.sub (fun x hx => List.mem_cons_of_mem _ hx))).mono ?_; rintro e w1 ⟨rfl, hb⟩; replace H := H.next hb; replace hB := next3 hB hb; clear hb) | (go_at_call 10; refine (awake3_any _).mono ?_; rintro e w1 ⟨rfl, hb⟩; replace H := H.next hb; replace hB := next3 hB hb; clear hb) | (go_at_call 28; refine (hides_any (H.get (by repeat (first | exact List.Mem.head _ | apply List.Mem.tail))) (H.get (by repeat (first | exact List.Mem.head _ | apply List.Mem.tail))) (by omega) (by omega)).mono ?_; rintro e w1 ⟨aoH, nH, capH, rfl, hH, hb⟩; obtain ⟨hp1, hp2⟩ := exc_p hH.1 (by assumption) (by assumption) (by assumption); replace H := H.next hb; replace hB := next3 hB hb; clear hb) | (go_at_call 11; refine (observe_any (H.get (by repeat (first | exact List.Mem.head _ | apply List.Mem.tail))) (H.get (by repeat (first | exact List.Mem.head _ | apply List.Mem.tail))) (by omega) (by omega)).mono ?_; rintro e w1 ⟨rfl, hb⟩; replace H := H.next hb; replace hB := next3 hB hb; clear hb) | (go_at_call 30; refine (rleq_f (H.get (by repeat (first | exact List.Mem.head _ | apply List.Mem.tail))) (H.get (by repeat (first | exact List.Mem.head _ | apply List.Mem.tail))) (by assumption) (by assumption)).mono ?_; rintro e w1 ⟨rfl, hb⟩; replace H := H.next hb; replace hB := next3 hB hb; clear hb) | (go_at_call 13; refine (modify_any (H.get (by repeat (first | exact List.Mem.head _ | apply List.Mem.tail))) (H.get (by repeat (first | exact List.Mem.head _ | apply List.Mem.tail))) (by omega) (by omega)).mono ?_; rintro e w1 ⟨rfl, hb⟩; replace H := H.next hb; replace hB := next3 hB hb; clear hb) | (go_at_call 31; refine (rraise_f (H.get (by repeat (first | exact List.Mem.head _ | apply List.Mem.tail))) (by omega) (by assumption)).mono ?_; rintro e w1 ⟨ao1, m1, cap1, rfl, hl, kn, hb⟩; replace H := (H.next hb).push hl; replace hB := next3 hB hb; clear hb hl))
        go_ret
        exact ⟨rfl, hB⟩
      | true =>
        cases hm : leqB L0 L3 with
        | false =>
          go_enter Try.func4, Try.ntmps4
          go_wp2_with (first | (go_at_call 9; refine (fit4_any _ _ _ _ _ _ _ _ _ _ _ _ _ L0 L1 L2 L3 (H.sub (fun x hx => List.mem_cons_of_mem _ hx))).mono ?_; rintro e w1 ⟨rfl, hb⟩; replace H := H.next hb; replace hB := next3 hB hb; clear hb) | (go_at_call 10; refine (awake3_any _).mono ?_; rintro e w1 ⟨rfl, hb⟩; replace H := H.next hb; replace hB := next3 hB hb; clear hb) | (go_at_call 28; refine (hides_any (H.get (by repeat (first | exact List.Mem.head _ | apply List.Mem.tail))) (H.get (by repeat (first | exact List.Mem.head _ | apply List.Mem.tail))) (by omega) (by omega)).mono ?_; rintro e w1 ⟨aoH, nH, capH, rfl, hH, hb⟩; obtain ⟨hp1, hp2⟩ := exc_p hH.1 (by assumption) (by assumption) (by assumption); replace H := H.next hb; replace hB := next3 hB hb; clear hb) | (go_at_call 11; refine (observe_any (H.get (by repeat (first | exact List.Mem.head _ | apply List.Mem.tail))) (H.get (by repeat (first | exact List.Mem.head _ | apply List.Mem.tail))) (by omega) (by omega)).mono ?_; rintro e w1 ⟨rfl, hb⟩; replace H := H.next hb; replace hB := next3 hB hb; clear hb) | (go_at_call 30; refine (rleq_f (H.get (by repeat (first | exact List.Mem.head _ | apply List.Mem.tail))) (H.get (by repeat (first | exact List.Mem.head _ | apply List.Mem.tail))) (by assumption) (by assumption)).mono ?_; rintro e w1 ⟨rfl, hb⟩; replace H := H.next hb; replace hB := next3 hB hb; clear hb) | (go_at_call 13; refine (modify_any (H.get (by repeat (first | exact List.Mem.head _ | apply List.Mem.tail))) (H.get (by repeat (first | exact List.Mem.head _ | apply List.Mem.tail))) (by omega) (by omega)).mono ?_; rintro e w1 ⟨rfl, hb⟩; replace H := H.next hb; replace hB := next3 hB hb; clear hb) | (go_at_call 31; refine (rraise_f (H.get (by repeat (first | exact List.Mem.head _ | apply List.Mem.tail))) (by omega) (by assumption)).mono ?_; rintro e w1 ⟨ao1, m1, cap1, rfl, hl, kn, hb⟩; replace H := (H.next hb).push hl; replace hB := next3 hB hb; clear hb hl))
          go_ret
          exact ⟨rfl, hB⟩
        | true =>
          go_enter Try.func4, Try.ntmps4
          go_wp2_with (first | (go_at_call 9; refine (fit4_any _ _ _ _ _ _ _ _ _ _ _ _ _ L0 L1 L2 L3 (H.sub (fun x hx => List.mem_cons_of_mem _ hx))).mono ?_; rintro e w1 ⟨rfl, hb⟩; replace H := H.next hb; replace hB := next3 hB hb; clear hb) | (go_at_call 10; refine (awake3_any _).mono ?_; rintro e w1 ⟨rfl, hb⟩; replace H := H.next hb; replace hB := next3 hB hb; clear hb) | (go_at_call 28; refine (hides_any (H.get (by repeat (first | exact List.Mem.head _ | apply List.Mem.tail))) (H.get (by repeat (first | exact List.Mem.head _ | apply List.Mem.tail))) (by omega) (by omega)).mono ?_; rintro e w1 ⟨aoH, nH, capH, rfl, hH, hb⟩; obtain ⟨hp1, hp2⟩ := exc_p hH.1 (by assumption) (by assumption) (by assumption); replace H := H.next hb; replace hB := next3 hB hb; clear hb) | (go_at_call 11; refine (observe_any (H.get (by repeat (first | exact List.Mem.head _ | apply List.Mem.tail))) (H.get (by repeat (first | exact List.Mem.head _ | apply List.Mem.tail))) (by omega) (by omega)).mono ?_; rintro e w1 ⟨rfl, hb⟩; replace H := H.next hb; replace hB := next3 hB hb; clear hb) | (go_at_call 30; refine (rleq_f (H.get (by repeat (first | exact List.Mem.head _ | apply List.Mem.tail))) (H.get (by repeat (first | exact List.Mem.head _ | apply List.Mem.tail))) (by assumption) (by assumption)).mono ?_; rintro e w1 ⟨rfl, hb⟩; replace H := H.next hb; replace hB := next3 hB hb; clear hb) | (go_at_call 13; refine (modify_any (H.get (by repeat (first | exact List.Mem.head _ | apply List.Mem.tail))) (H.get (by repeat (first | exact List.Mem.head _ | apply List.Mem.tail))) (by omega) (by omega)).mono ?_; rintro e w1 ⟨rfl, hb⟩; replace H := H.next hb; replace hB := next3 hB hb; clear hb) | (go_at_call 31; refine (rraise_f (H.get (by repeat (first | exact List.Mem.head _ | apply List.Mem.tail))) (by omega) (by assumption)).mono ?_; rintro e w1 ⟨ao1, m1, cap1, rfl, hl, kn, hb⟩; replace H := (H.next hb).push hl; replace hB := next3 hB hb; clear hb hl))
          go_ret
          exact ⟨rfl, hB⟩
    | true =>
      cases ho : leqB L3 (raiseL L0) with
      | false =>
        cases hl : leqB L1 L2 with
        | false =>
          go_enter Try.func4, Try.ntmps4
          go_wp2_with (first | (go_at_call 9; refine (fit4_any _ _ _ _ _ _ _ _ _ _ _ _ _ L0 L1 L2 L3 (H.sub (fun x hx => List.mem_cons_of_mem _ hx))).mono ?_; rintro e w1 ⟨rfl, hb⟩; replace H := H.next hb; replace hB := next3 hB hb; clear hb) | (go_at_call 10; refine (awake3_any _).mono ?_; rintro e w1 ⟨rfl, hb⟩; replace H := H.next hb; replace hB := next3 hB hb; clear hb) | (go_at_call 28; refine (hides_any (H.get (by repeat (first | exact List.Mem.head _ | apply List.Mem.tail))) (H.get (by repeat (first | exact List.Mem.head _ | apply List.Mem.tail))) (by omega) (by omega)).mono ?_; rintro e w1 ⟨aoH, nH, capH, rfl, hH, hb⟩; obtain rfl := exc_z hH.1 (by assumption) (by assumption) (by assumption); replace H := H.next hb; replace hB := next3 hB hb; clear hb) | (go_at_call 11; refine (observe_any (H.get (by repeat (first | exact List.Mem.head _ | apply List.Mem.tail))) (H.get (by repeat (first | exact List.Mem.head _ | apply List.Mem.tail))) (by omega) (by omega)).mono ?_; rintro e w1 ⟨rfl, hb⟩; replace H := H.next hb; replace hB := next3 hB hb; clear hb) | (go_at_call 30; refine (rleq_f (H.get (by repeat (first | exact List.Mem.head _ | apply List.Mem.tail))) (H.get (by repeat (first | exact List.Mem.head _ | apply List.Mem.tail))) (by assumption) (by assumption)).mono ?_; rintro e w1 ⟨rfl, hb⟩; replace H := H.next hb; replace hB := next3 hB hb; clear hb) | (go_at_call 13; refine (modify_any (H.get (by repeat (first | exact List.Mem.head _ | apply List.Mem.tail))) (H.get (by repeat (first | exact List.Mem.head _ | apply List.Mem.tail))) (by omega) (by omega)).mono ?_; rintro e w1 ⟨rfl, hb⟩; replace H := H.next hb; replace hB := next3 hB hb; clear hb) | (go_at_call 31; refine (rraise_f (H.get (by repeat (first | exact List.Mem.head _ | apply List.Mem.tail))) (by omega) (by assumption)).mono ?_; rintro e w1 ⟨ao1, m1, cap1, rfl, hl, kn, hb⟩; replace H := (H.next hb).push hl; replace hB := next3 hB hb; clear hb hl))
          go_ret
          exact ⟨rfl, hB⟩
        | true =>
          have hs2 := leqB_trans G0 F1 F2 hs hl
          go_enter Try.func4, Try.ntmps4
          go_wp2_with (first | (go_at_call 9; refine (fit4_any _ _ _ _ _ _ _ _ _ _ _ _ _ L0 L1 L2 L3 (H.sub (fun x hx => List.mem_cons_of_mem _ hx))).mono ?_; rintro e w1 ⟨rfl, hb⟩; replace H := H.next hb; replace hB := next3 hB hb; clear hb) | (go_at_call 10; refine (awake3_any _).mono ?_; rintro e w1 ⟨rfl, hb⟩; replace H := H.next hb; replace hB := next3 hB hb; clear hb) | (go_at_call 28; refine (hides_any (H.get (by repeat (first | exact List.Mem.head _ | apply List.Mem.tail))) (H.get (by repeat (first | exact List.Mem.head _ | apply List.Mem.tail))) (by omega) (by omega)).mono ?_; rintro e w1 ⟨aoH, nH, capH, rfl, hH, hb⟩; obtain rfl := exc_z hH.1 (by assumption) (by assumption) (by assumption); replace H := H.next hb; replace hB := next3 hB hb; clear hb) | (go_at_call 11; refine (observe_any (H.get (by repeat (first | exact List.Mem.head _ | apply List.Mem.tail))) (H.get (by repeat (first | exact List.Mem.head _ | apply List.Mem.tail))) (by omega) (by omega)).mono ?_; rintro e w1 ⟨rfl, hb⟩; replace H := H.next hb; replace hB := next3 hB hb; clear hb) | (go_at_call 30; refine (rleq_f (H.get (by repeat (first | exact List.Mem.head _ | apply List.Mem.tail))) (H.get (by repeat (first | exact List.Mem.head _ | apply List.Mem.tail))) (by assumption) (by assumption)).mono ?_; rintro e w1 ⟨rfl, hb⟩; replace H := H.next hb; replace hB := next3 hB hb; clear hb) | (go_at_call 13; refine (modify_any (H.get (by repeat (first | exact List.Mem.head _ | apply List.Mem.tail))) (H.get (by repeat (first | exact List.Mem.head _ | apply List.Mem.tail))) (by omega) (by omega)).mono ?_; rintro e w1 ⟨rfl, hb⟩; replace H := H.next hb; replace hB := next3 hB hb; clear hb) | (go_at_call 31; refine (rraise_f (H.get (by repeat (first | exact List.Mem.head _ | apply List.Mem.tail))) (by omega) (by assumption)).mono ?_; rintro e w1 ⟨ao1, m1, cap1, rfl, hl, kn, hb⟩; replace H := (H.next hb).push hl; replace hB := next3 hB hb; clear hb hl))
          go_ret
          exact ⟨rfl, hB⟩
      | true =>
        have hw := leqB_trans F3 G0 F1 ho hs
        cases hm : leqB L0 L3 with
        | false =>
          cases hl : leqB L1 L2 with
          | false =>
            go_enter Try.func4, Try.ntmps4
            go_wp2_with (first | (go_at_call 9; refine (fit4_any _ _ _ _ _ _ _ _ _ _ _ _ _ L0 L1 L2 L3 (H.sub (fun x hx => List.mem_cons_of_mem _ hx))).mono ?_; rintro e w1 ⟨rfl, hb⟩; replace H := H.next hb; replace hB := next3 hB hb; clear hb) | (go_at_call 10; refine (awake3_any _).mono ?_; rintro e w1 ⟨rfl, hb⟩; replace H := H.next hb; replace hB := next3 hB hb; clear hb) | (go_at_call 28; refine (hides_any (H.get (by repeat (first | exact List.Mem.head _ | apply List.Mem.tail))) (H.get (by repeat (first | exact List.Mem.head _ | apply List.Mem.tail))) (by omega) (by omega)).mono ?_; rintro e w1 ⟨aoH, nH, capH, rfl, hH, hb⟩; obtain rfl := exc_z hH.1 (by assumption) (by assumption) (by assumption); replace H := H.next hb; replace hB := next3 hB hb; clear hb) | (go_at_call 11; refine (observe_any (H.get (by repeat (first | exact List.Mem.head _ | apply List.Mem.tail))) (H.get (by repeat (first | exact List.Mem.head _ | apply List.Mem.tail))) (by omega) (by omega)).mono ?_; rintro e w1 ⟨rfl, hb⟩; replace H := H.next hb; replace hB := next3 hB hb; clear hb) | (go_at_call 30; refine (rleq_f (H.get (by repeat (first | exact List.Mem.head _ | apply List.Mem.tail))) (H.get (by repeat (first | exact List.Mem.head _ | apply List.Mem.tail))) (by assumption) (by assumption)).mono ?_; rintro e w1 ⟨rfl, hb⟩; replace H := H.next hb; replace hB := next3 hB hb; clear hb) | (go_at_call 13; refine (modify_any (H.get (by repeat (first | exact List.Mem.head _ | apply List.Mem.tail))) (H.get (by repeat (first | exact List.Mem.head _ | apply List.Mem.tail))) (by omega) (by omega)).mono ?_; rintro e w1 ⟨rfl, hb⟩; replace H := H.next hb; replace hB := next3 hB hb; clear hb) | (go_at_call 31; refine (rraise_f (H.get (by repeat (first | exact List.Mem.head _ | apply List.Mem.tail))) (by omega) (by assumption)).mono ?_; rintro e w1 ⟨ao1, m1, cap1, rfl, hl, kn, hb⟩; replace H := (H.next hb).push hl; replace hB := next3 hB hb; clear hb hl))
            go_ret
            exact ⟨rfl, hB⟩
          | true =>
            have hs2 := leqB_trans G0 F1 F2 hs hl
            go_enter Try.func4, Try.ntmps4
            go_wp2_with (first | (go_at_call 9; refine (fit4_any _ _ _ _ _ _ _ _ _ _ _ _ _ L0 L1 L2 L3 (H.sub (fun x hx => List.mem_cons_of_mem _ hx))).mono ?_; rintro e w1 ⟨rfl, hb⟩; replace H := H.next hb; replace hB := next3 hB hb; clear hb) | (go_at_call 10; refine (awake3_any _).mono ?_; rintro e w1 ⟨rfl, hb⟩; replace H := H.next hb; replace hB := next3 hB hb; clear hb) | (go_at_call 28; refine (hides_any (H.get (by repeat (first | exact List.Mem.head _ | apply List.Mem.tail))) (H.get (by repeat (first | exact List.Mem.head _ | apply List.Mem.tail))) (by omega) (by omega)).mono ?_; rintro e w1 ⟨aoH, nH, capH, rfl, hH, hb⟩; obtain rfl := exc_z hH.1 (by assumption) (by assumption) (by assumption); replace H := H.next hb; replace hB := next3 hB hb; clear hb) | (go_at_call 11; refine (observe_any (H.get (by repeat (first | exact List.Mem.head _ | apply List.Mem.tail))) (H.get (by repeat (first | exact List.Mem.head _ | apply List.Mem.tail))) (by omega) (by omega)).mono ?_; rintro e w1 ⟨rfl, hb⟩; replace H := H.next hb; replace hB := next3 hB hb; clear hb) | (go_at_call 30; refine (rleq_f (H.get (by repeat (first | exact List.Mem.head _ | apply List.Mem.tail))) (H.get (by repeat (first | exact List.Mem.head _ | apply List.Mem.tail))) (by assumption) (by assumption)).mono ?_; rintro e w1 ⟨rfl, hb⟩; replace H := H.next hb; replace hB := next3 hB hb; clear hb) | (go_at_call 13; refine (modify_any (H.get (by repeat (first | exact List.Mem.head _ | apply List.Mem.tail))) (H.get (by repeat (first | exact List.Mem.head _ | apply List.Mem.tail))) (by omega) (by omega)).mono ?_; rintro e w1 ⟨rfl, hb⟩; replace H := H.next hb; replace hB := next3 hB hb; clear hb) | (go_at_call 31; refine (rraise_f (H.get (by repeat (first | exact List.Mem.head _ | apply List.Mem.tail))) (by omega) (by assumption)).mono ?_; rintro e w1 ⟨ao1, m1, cap1, rfl, hl, kn, hb⟩; replace H := (H.next hb).push hl; replace hB := next3 hB hb; clear hb hl))
            go_ret
            exact ⟨rfl, hB⟩
        | true =>
          cases hl : leqB L1 L2 with
          | false =>
            go_enter Try.func4, Try.ntmps4
            go_wp2_with (first | (go_at_call 9; refine (fit4_any _ _ _ _ _ _ _ _ _ _ _ _ _ L0 L1 L2 L3 (H.sub (fun x hx => List.mem_cons_of_mem _ hx))).mono ?_; rintro e w1 ⟨rfl, hb⟩; replace H := H.next hb; replace hB := next3 hB hb; clear hb) | (go_at_call 10; refine (awake3_any _).mono ?_; rintro e w1 ⟨rfl, hb⟩; replace H := H.next hb; replace hB := next3 hB hb; clear hb) | (go_at_call 28; refine (hides_any (H.get (by repeat (first | exact List.Mem.head _ | apply List.Mem.tail))) (H.get (by repeat (first | exact List.Mem.head _ | apply List.Mem.tail))) (by omega) (by omega)).mono ?_; rintro e w1 ⟨aoH, nH, capH, rfl, hH, hb⟩; obtain rfl := exc_z hH.1 (by assumption) (by assumption) (by assumption); replace H := H.next hb; replace hB := next3 hB hb; clear hb) | (go_at_call 11; refine (observe_any (H.get (by repeat (first | exact List.Mem.head _ | apply List.Mem.tail))) (H.get (by repeat (first | exact List.Mem.head _ | apply List.Mem.tail))) (by omega) (by omega)).mono ?_; rintro e w1 ⟨rfl, hb⟩; replace H := H.next hb; replace hB := next3 hB hb; clear hb) | (go_at_call 30; refine (rleq_f (H.get (by repeat (first | exact List.Mem.head _ | apply List.Mem.tail))) (H.get (by repeat (first | exact List.Mem.head _ | apply List.Mem.tail))) (by assumption) (by assumption)).mono ?_; rintro e w1 ⟨rfl, hb⟩; replace H := H.next hb; replace hB := next3 hB hb; clear hb) | (go_at_call 13; refine (modify_any (H.get (by repeat (first | exact List.Mem.head _ | apply List.Mem.tail))) (H.get (by repeat (first | exact List.Mem.head _ | apply List.Mem.tail))) (by omega) (by omega)).mono ?_; rintro e w1 ⟨rfl, hb⟩; replace H := H.next hb; replace hB := next3 hB hb; clear hb) | (go_at_call 31; refine (rraise_f (H.get (by repeat (first | exact List.Mem.head _ | apply List.Mem.tail))) (by omega) (by assumption)).mono ?_; rintro e w1 ⟨ao1, m1, cap1, rfl, hl, kn, hb⟩; replace H := (H.next hb).push hl; replace hB := next3 hB hb; clear hb hl))
            go_ret
            exact ⟨rfl, hB⟩
          | true =>
            have hs2 := leqB_trans G0 F1 F2 hs hl
            go_enter Try.func4, Try.ntmps4
            go_wp2_with (first | (go_at_call 9; refine (fit4_any _ _ _ _ _ _ _ _ _ _ _ _ _ L0 L1 L2 L3 (H.sub (fun x hx => List.mem_cons_of_mem _ hx))).mono ?_; rintro e w1 ⟨rfl, hb⟩; replace H := H.next hb; replace hB := next3 hB hb; clear hb) | (go_at_call 10; refine (awake3_any _).mono ?_; rintro e w1 ⟨rfl, hb⟩; replace H := H.next hb; replace hB := next3 hB hb; clear hb) | (go_at_call 28; refine (hides_any (H.get (by repeat (first | exact List.Mem.head _ | apply List.Mem.tail))) (H.get (by repeat (first | exact List.Mem.head _ | apply List.Mem.tail))) (by omega) (by omega)).mono ?_; rintro e w1 ⟨aoH, nH, capH, rfl, hH, hb⟩; obtain rfl := exc_z hH.1 (by assumption) (by assumption) (by assumption); replace H := H.next hb; replace hB := next3 hB hb; clear hb) | (go_at_call 11; refine (observe_any (H.get (by repeat (first | exact List.Mem.head _ | apply List.Mem.tail))) (H.get (by repeat (first | exact List.Mem.head _ | apply List.Mem.tail))) (by omega) (by omega)).mono ?_; rintro e w1 ⟨rfl, hb⟩; replace H := H.next hb; replace hB := next3 hB hb; clear hb) | (go_at_call 30; refine (rleq_f (H.get (by repeat (first | exact List.Mem.head _ | apply List.Mem.tail))) (H.get (by repeat (first | exact List.Mem.head _ | apply List.Mem.tail))) (by assumption) (by assumption)).mono ?_; rintro e w1 ⟨rfl, hb⟩; replace H := H.next hb; replace hB := next3 hB hb; clear hb) | (go_at_call 13; refine (modify_any (H.get (by repeat (first | exact List.Mem.head _ | apply List.Mem.tail))) (H.get (by repeat (first | exact List.Mem.head _ | apply List.Mem.tail))) (by omega) (by omega)).mono ?_; rintro e w1 ⟨rfl, hb⟩; replace H := H.next hb; replace hB := next3 hB hb; clear hb) | (go_at_call 31; refine (rraise_f (H.get (by repeat (first | exact List.Mem.head _ | apply List.Mem.tail))) (by omega) (by assumption)).mono ?_; rintro e w1 ⟨ao1, m1, cap1, rfl, hl, kn, hb⟩; replace H := (H.next hb).push hl; replace hB := next3 hB hb; clear hb hl))
            go_ret
            exact ⟨rfl, hB⟩

set_option maxRecDepth 100000 in
theorem lifted (os : Os) (started : os.Started) (H : Type) (enc : TypeId × Value → H) :
    ReturnsInHanded {} Try.checked os 4 .any (Rows.checkAboveSpec.pre6 enc Try.prog Try.f4 Rows.checkAboveRow.domain false) (Rows.checkAboveSpec.post enc Try.prog Try.f4 false true false false) := by
  refine returnsInHanded_of_change (C := Try.checked) own started (by kernel_rfl) Try.func4
    (ChangeSpec.witness6 (enc := enc) (C := Try.checked) false ⟨#[], #[.slice none 0 0, .slice none 0 0, .slice none 0 0, .slice none 0 0], []⟩ 8 (by kernel_rfl) (by kernel_rfl) (by kernel_rfl) (by kernel_rfl)) ?_
  intro W base args ds gs before hval0 hW hcnd _
  have hval : ∀ (j : Nat) t v, Try.f4.params[j]? = some t → args[j]? = some v → Value.okWide Try.prog W .any base t v := hval0
  have hW' := hW
  obtain ⟨p, q, hA0, hV, rfl, hfz, hnd⟩ := hW
  have hA : DataW.TrodAll enc Try.prog W 0 (fun _ => true) true Try.f4.params.toList args.toList ds p := hA0
  rw [Try.params4] at hA hval
  obtain ⟨v0, vs0, d0, ds0, p0, q0, hargs, rfl, rfl, h0, r0⟩ := trodAll_cons hA
  obtain ⟨v1, vs1, d1, ds1, p1, q1, rfl, rfl, rfl, h1, r1⟩ := trodAll_cons r0
  obtain ⟨v2, vs2, d2, ds2, p2, q2, rfl, rfl, rfl, h2, r2⟩ := trodAll_cons r1
  obtain ⟨v3, vs3, d3, ds3, p3, q3, rfl, rfl, rfl, h3, r3⟩ := trodAll_cons r2
  obtain ⟨rfl, rfl, rfl⟩ := trodAll_nil r3
  obtain rfl : args = #[v0, v1, v2, v3] := by cases args; simp_all
  obtain ⟨rfl, rfl⟩ := trodVars_none hV
  obtain ⟨ao0, n0, cap0, rfl⟩ := okWide_slice Try.underlying23 (hval 0 23 v0 rfl rfl)
  have k0 := h0
  have lt0 : ∀ x ∈ p0, x.block < W.heap.size := by obtain ⟨m, hm⟩ := k0; exact DataW.trod_lt m _ _ _ hm
  obtain ⟨L0, l0⟩ := lab_of_trod h0
  obtain ⟨ao1, n1, cap1, rfl⟩ := okWide_slice Try.underlying23 (hval 1 23 v1 rfl rfl)
  have k1 := h1
  have lt1 : ∀ x ∈ p1, x.block < W.heap.size := by obtain ⟨m, hm⟩ := k1; exact DataW.trod_lt m _ _ _ hm
  obtain ⟨L1, l1⟩ := lab_of_trod h1
  obtain ⟨ao2, n2, cap2, rfl⟩ := okWide_slice Try.underlying23 (hval 2 23 v2 rfl rfl)
  have k2 := h2
  have lt2 : ∀ x ∈ p2, x.block < W.heap.size := by obtain ⟨m, hm⟩ := k2; exact DataW.trod_lt m _ _ _ hm
  obtain ⟨L2, l2⟩ := lab_of_trod h2
  obtain ⟨ao3, n3, cap3, rfl⟩ := okWide_slice Try.underlying23 (hval 3 23 v3 rfl rfl)
  have k3 := h3
  have lt3 : ∀ x ∈ p3, x.block < W.heap.size := by obtain ⟨m, hm⟩ := k3; exact DataW.trod_lt m _ _ _ hm
  obtain ⟨L3, l3⟩ := lab_of_trod h3
  clear hA0 hval0
  refine (walk ao0 n0 cap0 L0 ao1 n1 cap1 L1 ao2 n2 cap2 L2 ao3 n3 cap3 L3 W l0 l1 l2 l3).mono fun e W' ⟨he, bel⟩ => ?_
  subst he
  exact ⟨_, rfl, _, _, _, [], _, [], hW', trodAll_mk1 (shut_bool Try.underlying4 _), (trodAll_cons_mk (Below.trod laidOut (by kernel_rfl) (of_decide_eq_true (by kernel_rfl)) k0 bel lt0) (trodAll_cons_mk (Below.trod laidOut (by kernel_rfl) (of_decide_eq_true (by kernel_rfl)) k1 bel lt1) (trodAll_cons_mk (Below.trod laidOut (by kernel_rfl) (of_decide_eq_true (by kernel_rfl)) k2 bel lt2) (trodAll_cons_mk (Below.trod laidOut (by kernel_rfl) (of_decide_eq_true (by kernel_rfl)) k3 bel lt3) trodAll_mk0)))), rfl, bel.frame _, fun h => by cases h⟩

theorem over : Rows.checkAboveRow.holds Try.pinned (OpenSpec.ofChange Rows.checkAboveSpec) :=
  OpenClaim.holds_of_wide 4 Try.f4 rfl rfl rfl rfl rfl rfl rfl ⟨rfl, rfl, rfl, rfl, rfl⟩ rfl rfl rfl rfl rfl (by kernel_rfl) Try.func4 (by kernel_rfl)
    (of_decide_eq_true (by kernel_rfl)) (by unfold Func.isWrapper; first | (rw [if_pos (by decide +kernel)]; kernel_rfl) | (rw [if_neg (by decide +kernel)]; exact ⟨rfl, rfl⟩))
    (fun os started H enc _ => lifted os started H enc)

end checkAbove
/-- The statement. -/
theorem checkAbove_holds : Rows.CheckAboveSaid :=
  checkAbove.over
#print axioms checkAbove_holds
end Go.Proofs.Ytkhnlgbebbhmbaa
