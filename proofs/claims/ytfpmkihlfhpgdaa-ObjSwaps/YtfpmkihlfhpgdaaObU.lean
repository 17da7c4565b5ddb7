/-
  PROVED HERE: calls in a region whose order is drawn, whichever of two comes up. No condition.
-/
import Derived.Test.YtfpmkihlfhpgdaaOb14
namespace Go.Proofs.Ytfpmkihlfhpgdaa
open Go.RowKit Go.Shelf
set_option linter.unusedVariables false
attribute [local go_sem] Oper.semAt_some

section
variable {ops : Array Oper} {Q : Exit → Act → World → Prop} {S : World → Prop} {w : World} {fuel m : Nat} {a : Act} {l : Array Bool}
theorem wpOp_callL {i : Nat} {f : FuncId} {vs : List Value} {d : Option Tmp} {R : Ending → World → Prop} {K : Act → World → Prop} (hi : (ops[i]?).bind (fun o => callOf ops o a) = some (f, vs, d))
    (hf : ∀ args w, (callFunc f args).run Try.prog w = .ok (.enter f args) w) (hc : Calls Try.prog f vs.toArray w R)
    (h : ∀ e w', R e w' → ∃ v, e = .returned v ∧ K (a.put d v) w') : wpOp Try.prog ops Q i K a w := by
  cases ho : ops[i]? with
  | none => rw [ho] at hi; cases hi
  | some o =>
    rw [ho] at hi
    obtain ⟨h1, h2, h3⟩ := callOf_run (show callOf ops o a = _ from hi) hf w
    unfold wpOp
    simp only [ho, h1, if_true]
    left
    unfold Oper.wp
    rw [h3, Oper.upon_enter]
    refine hc.mono ?_
    intro e w' hR
    obtain ⟨v, rfl, h⟩ := h e w' hR
    rw [h2]
    exact h
theorem wpAnyH_callL {i : Nat} {f : FuncId} {vs : List Value} {d : Option Tmp} {R : Ending → World → Prop} (hm : m = fuel + 1) (hr : Region.ready .any ops l = [i]) (hi : (ops[i]?).bind (fun o => callOf ops o a) = some (f, vs, d))
    (hf : ∀ args w, (callFunc f args).run Try.prog w = .ok (.enter f args) w) (hc : Calls Try.prog f vs.toArray w R)
    (h : ∀ e w', R e w' → ∃ v, e = .returned v ∧ S w' ∧ wpAnyH Try.prog .any ops Q S fuel (l.setIfInBounds i true) (a.put d v) w') : wpAnyH Try.prog .any ops Q S m l a w := by
  subst hm
  refine wpAnyH_all hr (by simp) ?_
  intro j hj
  obtain rfl : j = i := by simpa using hj
  exact wpOp_callL hi hf hc h
theorem wpAnyH_call2 {i j : Nat} {f g : FuncId} {vs us : List Value} {d e : Option Tmp} {R R' : Ending → World → Prop} (hm : m = fuel + 1) (hr : Region.ready .any ops l = [i, j])
    (hi : (ops[i]?).bind (fun o => callOf ops o a) = some (f, vs, d)) (hj : (ops[j]?).bind (fun o => callOf ops o a) = some (g, us, e))
    (hf : ∀ args w, (callFunc f args).run Try.prog w = .ok (.enter f args) w) (hg : ∀ args w, (callFunc g args).run Try.prog w = .ok (.enter g args) w)
    (hc : Calls Try.prog f vs.toArray w R) (hc' : Calls Try.prog g us.toArray w R')
    (h : ∀ x w', R x w' → ∃ v, x = .returned v ∧ S w' ∧ wpAnyH Try.prog .any ops Q S fuel (l.setIfInBounds i true) (a.put d v) w')
    (h' : ∀ x w', R' x w' → ∃ v, x = .returned v ∧ S w' ∧ wpAnyH Try.prog .any ops Q S fuel (l.setIfInBounds j true) (a.put e v) w') : wpAnyH Try.prog .any ops Q S m l a w := by
  subst hm
  refine wpAnyH_all hr (by simp) ?_
  intro k hk
  rw [List.mem_cons, List.mem_singleton] at hk
  rcases hk with rfl | rfl
  · exact wpOp_callL hi hf hc h
  · exact wpOp_callL hj hg hc' h'
theorem wpAnyH_askL {X : Prop} {i : Nat} {f : FuncId} {vs : List Value} {d : Option Tmp} (hm : m = fuel + 1) (hr : Region.ready .any ops l = [i]) (hi : (ops[i]?).bind (fun o => callOf ops o a) = some (f, vs, d))
    (hf : ∀ args w, (callFunc f args).run Try.prog w = .ok (.enter f args) w) (hc : Asks f vs.toArray X w) (hS : ∀ w', Below w.heap.size w w' → S w')
    (h1 : ∀ w', Hid X → Below w.heap.size w w' → S w' → wpAnyH Try.prog .any ops Q S fuel (l.setIfInBounds i true) (a.put d (.bool true)) w')
    (h0 : ∀ w', Hid (¬ X) → Below w.heap.size w w' → S w' → wpAnyH Try.prog .any ops Q S fuel (l.setIfInBounds i true) (a.put d (.bool false)) w') : wpAnyH Try.prog .any ops Q S m l a w := by
  refine wpAnyH_callL hm hr hi hf hc ?_
  rintro e w' ⟨b, rfl, hb, hk⟩
  refine ⟨_, rfl, hS w' hk, ?_⟩
  cases b with
  | true => exact h1 w' (hb.out.1 rfl) hk (hS w' hk)
  | false => exact h0 w' (fun x => absurd (hb.out.2 x) Bool.false_ne_true) hk (hS w' hk)
end
theorem sound_iff {x : Ob} : soundB x = true ↔ (comB x = true ∧ ownB x = true ∧ witO x = comO x) := by unfold soundB; simp [sameO_iff]
set_option maxRecDepth 100000 in
set_option maxHeartbeats 4000000 in
theorem sound_any {w : World} {C : Array Value} {x : Ob} (h : ObD (LtN w) w C x) : Asks 10 #[.agg C] (soundB x = true) w := by
  have hmx : Try.prog.follows .mixedOrders = true := by kernel_rfl
  have hz := h.size
  unfold Asks
  go_enter Try.func10, Try.ntmps10
  go_wp2_with (first
    | (with_reducible refine wpList_box rfl _ _ rfl C rfl ?_; intro B W hB hb hk))
  refine PgM.region_out (S := fun W => Blk W B C 40) hmx (hb.next (Below.refl _ _).drew) (fun hS => ?_)
  replace hk := hk.trans ((Below.refl _ W).drew.mono hk.size)
  generalize W.drew = W1 at hS hk ⊢
  clear hb hB
  have ld : ∀ (S : World → Prop), (∀ w, S w → Blk w B C 40) → Obl.holds Try.prog S (.load 40 B 0 (.agg C)) := fun S hS => ob_loadb hS Try.underlying40 (by kernel_rfl) (size40C hz)
  refine wpAnyH_sym (by kernel_rfl) (fun _ _ _ _ _ h => h) hS [(0, some (.agg C))] (l' := #[true, false, false, false, false, false, false, false, false, false, false, false, false, false]) (a' := { tmps := #[.agg C, .pointer (some ⟨B, 0, none⟩), .bool false, .agg C, undef, undef, undef, undef, undef, undef, undef, undef, undef, undef, undef, undef], defers := [] }) (obs := [.load 40 B 0 (.agg C)]) (n := 13) (by kernel_rfl) (by kernel_rfl) ⟨ld _ (fun _ h => h), trivial⟩ ?_
  refine wpAnyH_askL (fuel := 12) (i := 1) (f := 31) (vs := [.agg C]) (d := some 4) (by kernel_rfl) (by kernel_rfl) (by kernel_rfl) Try.call31 (soundCommon_any (h.next hk)) (fun _ hb => hS.next hb) ?_ ?_
  · intro W2 q1 hb1 hS
    replace hk := hk.trans (hb1.mono hk.size)
    have qc := com_iff.1 q1.out
    refine wpAnyH_sym (by kernel_rfl) (fun _ _ _ _ _ h => h) hS [(2, none), (3, some (.agg C))] (l' := #[true, true, true, true, false, false, false, false, false, false, false, false, false, false]) (a' := { tmps := #[.agg C, .pointer (some ⟨B, 0, none⟩), .bool false, .agg C, .bool true, .bool true, .agg C, undef, undef, undef, undef, undef, undef, undef, undef, undef], defers := [] }) (obs := [.load 40 B 0 (.agg C)]) (n := 10) (by kernel_rfl) (by kernel_rfl) ⟨ld _ (fun _ h => h), trivial⟩ ?_
    refine wpAnyH_askL (fuel := 9) (i := 4) (f := 32) (vs := [.agg C]) (d := some 7) (by kernel_rfl) (by kernel_rfl) (by kernel_rfl) Try.call32 (soundOwn_any (h.next hk) qc.2.1 qc.2.2.1) (fun _ hb => hS.next hb) ?_ ?_
    · intro W3 q2 hb2 hS
      replace hk := hk.trans (hb2.mono hk.size)
      clear hb1 hb2
      refine wpAnyH_sym (by kernel_rfl) (fun _ _ _ _ _ h => h) hS [(5, none), (6, none), (7, some (.agg C)), (9, some (.agg C))] (l' := #[true, true, true, true, true, true, true, true, false, true, false, false, false, false]) (a' := { tmps := #[.agg C, .pointer (some ⟨B, 0, none⟩), .bool false, .agg C, .bool true, .bool true, .agg C, .bool true, .bool true, .bool true, .agg C, undef, .agg C, undef, undef, undef], defers := [] }) (obs := [.load 40 B 0 (.agg C), .load 40 B 0 (.agg C)]) (n := 5) (by kernel_rfl) (by kernel_rfl) ⟨ld _ (fun _ h => h), ld _ (fun _ h => h), trivial⟩ ?_
      refine wpAnyH_callL (fuel := 4) (i := 8) (f := 33) (vs := [.agg C]) (d := some 11) (by kernel_rfl) (by kernel_rfl) (by kernel_rfl) Try.call33 (without_any (h.next hk)) ?_
      rintro e W4 ⟨C1, rfl, o1, hb1⟩
      refine ⟨_, rfl, hS.next hb1, ?_⟩
      replace hS := hS.next hb1
      replace hk := hk.trans (hb1.mono hk.size)
      refine wpAnyH_callL (fuel := 3) (i := 10) (f := 34) (vs := [.agg C]) (d := some 13) (by kernel_rfl) (by kernel_rfl) (by kernel_rfl) Try.call34 (common_any (h.next hk)) ?_
      rintro e W5 ⟨C2, rfl, o2, hb2⟩
      refine ⟨_, rfl, hS.next hb2, ?_⟩
      replace hS := hS.next hb2
      replace hk := hk.trans (hb2.mono hk.size)
      refine wpAnyH_askL (fuel := 2) (i := 11) (f := 14) (vs := [.agg C1, .agg C2]) (d := some 14) (by kernel_rfl) (by kernel_rfl) (by kernel_rfl) Try.call14 (sameOne_any (o1.next hb2) o2) (fun _ hb => hS.next hb) ?_ ?_
      · intro W6 q3 hb3 hS
        replace hk := hk.trans (hb3.mono hk.size)
        refine wpAnyH_sym (by kernel_rfl) (fun _ _ _ _ _ h => h) hS [(12, none), (13, none)] (l' := #[true, true, true, true, true, true, true, true, true, true, true, true, true, true]) (a' := { tmps := #[.agg C, .pointer (some ⟨B, 0, none⟩), .bool true, .agg C, .bool true, .bool true, .agg C, .bool true, .bool true, .bool true, .agg C, .agg C1, .agg C, .agg C2, .bool true, .bool true], defers := [] }) (obs := []) (n := 0) (by kernel_rfl) (by kernel_rfl) trivial ?_
        refine wpAnyH_done (by kernel_rfl) ?_ _
        go_wp2
        go_ret
        exact askP_yes (sound_iff.2 ⟨q1.out, q2.out, q3.out⟩) hk
      · intro W6 q3 hb3 hS
        replace hk := hk.trans (hb3.mono hk.size)
        refine wpAnyH_sym (by kernel_rfl) (fun _ _ _ _ _ h => h) hS [(12, none), (13, none)] (l' := #[true, true, true, true, true, true, true, true, true, true, true, true, true, true]) (a' := { tmps := #[.agg C, .pointer (some ⟨B, 0, none⟩), .bool false, .agg C, .bool true, .bool true, .agg C, .bool true, .bool true, .bool true, .agg C, .agg C1, .agg C, .agg C2, .bool false, .bool false], defers := [] }) (obs := []) (n := 0) (by kernel_rfl) (by kernel_rfl) trivial ?_
        refine wpAnyH_done (by kernel_rfl) ?_ _
        go_wp2
        go_ret
        exact askP_no q3 hk (fun e => (sound_iff.1 e).2.2)
    · intro W3 q2 hb2 hS
      replace hk := hk.trans (hb2.mono hk.size)
      refine wpAnyH_sym (by kernel_rfl) (fun _ _ _ _ _ h => h) hS [(5, none), (6, none), (7, none), (8, none), (9, none), (10, none), (11, none), (12, none), (13, none)] (l' := #[true, true, true, true, true, true, true, true, true, true, true, true, true, true]) (a' := { tmps := #[.agg C, .pointer (some ⟨B, 0, none⟩), .bool false, .agg C, .bool true, .bool true, .agg C, .bool false, .bool false, .bool false, undef, undef, undef, undef, undef, .bool false], defers := [] }) (obs := []) (n := 0) (by kernel_rfl) (by kernel_rfl) trivial ?_
      refine wpAnyH_done (by kernel_rfl) ?_ _
      go_wp2
      go_ret
      exact askP_no q2 hk (fun e => (sound_iff.1 e).2.1)
  · intro W2 q1 hb1 hS
    replace hk := hk.trans (hb1.mono hk.size)
    refine wpAnyH_sym (by kernel_rfl) (fun _ _ _ _ _ h => h) hS [(2, none), (3, none), (4, none), (5, none), (6, none), (7, none), (8, none), (9, none), (10, none), (11, none), (12, none), (13, none)] (l' := #[true, true, true, true, true, true, true, true, true, true, true, true, true, true]) (a' := { tmps := #[.agg C, .pointer (some ⟨B, 0, none⟩), .bool false, .agg C, .bool false, .bool false, undef, undef, .bool false, .bool false, undef, undef, undef, undef, undef, .bool false], defers := [] }) (obs := []) (n := 0) (by kernel_rfl) (by kernel_rfl) trivial ?_
    refine wpAnyH_done (by kernel_rfl) ?_ _
    go_wp2
    go_ret
    exact askP_no q1 hk (fun e => (sound_iff.1 e).1)
end Go.Proofs.Ytfpmkihlfhpgdaa
