/-
  PROVED HERE: for every span and every count the law SerialRow returns true (P7.1, P7.4: numbers that are taken in a row are one behind the other, as many as there are). No condition.
-/
import Derived.Test.YtjgdafpciilfeaaRows
import Derived.Test.YtjgdafpciilfeaaPrm4
import Derived.Test.YtjgdafpciilfeaaSerOpen
import Derived.Test.YtjgdafpciilfeaaSer4
import Derived.WalkKit
import Derived.ProofKit
import Derived.OpenShut
import Derived.Below
import Derived.ShutString
import Derived.Deep.QuietTactic
namespace Go.Proofs.Ytjgdafpciilfeaa
namespace serialRow
open Go.ChangeShapes Go.WideShapes Go.ChangeAt Go.RowKit
open Go.ChangeMaps (open_string shut_string)
set_option linter.unusedVariables false

theorem own : ownKnob Try.prog.godebug = none := by kernel_rfl

set_option maxRecDepth 100000 in
set_option maxHeartbeats 8000000 in
theorem walk (x0 y0 : Nat) (a1 : Int) (w : World) (l0 : x0 < 18446744073709551616 ∧ y0 < 18446744073709551616) (w1 : (Lit.int .u8 a1).wf = true) :
    Calls Try.prog 5 #[.agg #[.int .u64 (x0 : Int), .int .u64 (y0 : Int)], .int .u8 a1] w fun e w' => e = .returned (.bool true) ∧ Below w.heap.size w w' := by
  obtain ⟨n, rfl, hn⟩ : ∃ n : Nat, a1 = n ∧ n < 256 := by
    have h' : 0 ≤ a1 ∧ a1 ≤ 255 := by simpa [Lit.wf, IntKind.min, IntKind.max, IntKind.bits, IntKind.signed] using w1
    exact ⟨a1.toNat, by omega, by omega⟩
  have hB := (Below.refl w.heap.size w).alloc (Nat.le_refl _) (.cells #[.int .u64 (x0 : Int), .int .u64 (y0 : Int)] 24)
  have hT := Two.new w 24 (.int .u64 (x0 : Int)) (.int .u64 (y0 : Int))
  have hf := fun w => rFit_any x0 y0 w
  by_cases hfit : sfitB x0 y0 = true
  · simp only [hfit] at hf
    obtain ⟨hxy, hy⟩ := (sfit_iff _ _).1 hfit
    clear hfit
    go_enter Try.func5, Try.ntmps5
    go_upto_region 1 with fail
    obtain ⟨W, hW⟩ : ∃ W, Hid (w.alloc (.cells #[.int .u64 (x0 : Int), .int .u64 (y0 : Int)] 24) = W) := ⟨_, rfl⟩
    rw [hW.out] at hB hT ⊢
    clear hW
    obtain ⟨d, hd⟩ : ∃ d : Nat, Hid (y0 - x0 = d) := ⟨_, rfl⟩
    have hsub : IntKind.u64.wrap ((y0 : Int) - (x0 : Int)) = (d : Int) := by have := hd.out; rw [IntKind.wrap_u64]; omega
    have t0 := hT.cell0
    have t1 := hT.cell1
    go_upto_region 3 with (go_at_call 6; refine (hf _).mono ?_; rintro e w1 ⟨rfl, hb⟩; replace hT := hT.next hb; replace hB := hB.trans (hb.mono hB.size); clear hb)
    clear t0 t1
    have t0 := hT.cell0
    have t1 := hT.cell1
    go_wp2
    go_loopw [21] (fun i wr => ∃ k q : Nat, k ≤ n ∧ k ≤ d ∧ i = .int .u64 (k : Int) ∧ Hid (x0 + k = q) ∧ Two wr w.heap.size 24 (.int .u64 (q : Int)) (.int .u64 (y0 : Int)) ∧ Below w.heap.size w wr) (fun i _ => n - (intOf i).toNat)
    case atStart => exact ⟨0, x0, by omega, by omega, rfl, rfl, hT, hB⟩
    case round =>
      clear hT hB t0 t1 hsub
      obtain ⟨k, q, hkn, hkd, rfl, hq, hT, hB⟩ := hrel
      have t0 := hT.cell0
      have t1 := hT.cell1
      have hlt := hT.lt
      by_cases h1 : k < n
      · by_cases h2 : k < d
        · have h2' : ¬ ((d : Int) ≤ (k : Int)) := by omega
          have hqy : q < y0 := by have := hq.out; have := hd.out; omega
          have hwrap : IntKind.u64.wrap ((q : Int) + 1) = (q : Int) + 1 := by rw [IntKind.wrap_u64]; omega
          go_upto_region 8 with (go_at_call 8; refine (take_some hqy hy _).mono ?_; rintro e w2 ⟨rfl, hb2⟩)
          have hT2 := (hT.next hb2).alloc (.cells #[.int .u64 ((q : Int) + 1), .int .u64 (y0 : Int)] 24)
          have hN2 := Two.new w2 24 (.int .u64 ((q : Int) + 1)) (.int .u64 (y0 : Int))
          have hB2 := (hB.trans (hb2.mono hB.size)).alloc (Nat.le_trans hB.size hb2.size) (.cells #[.int .u64 ((q : Int) + 1), .int .u64 (y0 : Int)] 24)
          have nb : w.heap.size ≠ w2.heap.size := by have := hb2.size; omega
          obtain ⟨X, hX⟩ : ∃ X, Hid (w2.alloc (.cells #[.int .u64 ((q : Int) + 1), .int .u64 (y0 : Int)] 24) = X) := ⟨_, rfl⟩
          rw [hX.out] at hT2 hN2 hB2 ⊢
          clear hX
          have c0 := hT2.cell0
          have c1 := hT2.cell1
          have c2 := hN2.cell0
          have c3 := hN2.cell1
          have f0 := hT2.frozen0 0
          have f1 := hT2.frozen0 1
          have q1 := two_over (x := .int .u64 ((q : Int) + 1)) (y := .int .u64 (y0 : Int)) hT2
          have q2 := below_over hB2 (B := w.heap.size) (Nat.le_refl _) (.int .u64 ((q : Int) + 1)) (.int .u64 (y0 : Int))
          go_wp2
          go_roundw
          case rel => exact ⟨k + 1, q + 1, by omega, by omega, by go_num, (by show x0 + (k + 1) = q + 1; have := hq.out; omega), q1, q2⟩
          case measure => simp [intOf]; omega
        · have hkd' : k = d := by omega
          have hqy : ¬ q < y0 := by have := hq.out; have := hd.out; omega
          subst hkd'
          go_upto_region 8 with (go_at_call 8; refine (take_none hqy _).mono ?_; rintro e w2 ⟨rfl, hb2⟩)
          have hT2 := (hT.next hb2).alloc (.cells #[.int .u64 (q : Int), .int .u64 (y0 : Int)] 24)
          have hN2 := Two.new w2 24 (.int .u64 (q : Int)) (.int .u64 (y0 : Int))
          have hB2 := (hB.trans (hb2.mono hB.size)).alloc (Nat.le_trans hB.size hb2.size) (.cells #[.int .u64 (q : Int), .int .u64 (y0 : Int)] 24)
          obtain ⟨X, hX⟩ : ∃ X, Hid (w2.alloc (.cells #[.int .u64 (q : Int), .int .u64 (y0 : Int)] 24) = X) := ⟨_, rfl⟩
          rw [hX.out] at hT2 hN2 hB2 ⊢
          clear hX
          have c0 := hT2.cell0
          have c1 := hT2.cell1
          have c2 := hN2.cell0
          have c3 := hN2.cell1
          go_wp2_with (go_at_call 7; refine (awake7_any _).mono ?_; rintro e w5 ⟨rfl, hb5⟩)
          go_ret
          exact ⟨rfl, hB2.trans (hb5.mono hB2.size)⟩
      · obtain rfl : k = n := by omega
        obtain ⟨z, hz⟩ : ∃ z : Nat, Hid (d - k = z) := ⟨_, rfl⟩
        have e1 : IntKind.u64.wrap ((y0 : Int) - (q : Int)) = (z : Int) := by have := hq.out; have := hd.out; have := hz.out; rw [IntKind.wrap_u64]; omega
        have e2 : IntKind.u64.wrap ((d : Int) - (k : Int)) = (z : Int) := by have := hz.out; have := hd.out; rw [IntKind.wrap_u64]; omega
        go_wp2_with (go_at_call 7; refine (awake7_any _).mono ?_; rintro e w5 ⟨rfl, hb5⟩)
        go_ret
        exact ⟨rfl, hB.trans (hb5.mono hB.size)⟩
  · simp only [Bool.not_eq_true] at hfit
    simp only [hfit] at hf
    go_enter Try.func5, Try.ntmps5
    go_wp2_with (first | (go_at_call 6; refine (hf _).mono ?_; rintro e w1 ⟨rfl, hb⟩; replace hB := hB.trans (hb.mono hB.size); clear hb) | (go_at_call 7; refine (awake7_any _).mono ?_; rintro e w1 ⟨rfl, hb⟩; replace hB := hB.trans (hb.mono hB.size); clear hb))
    go_ret
    exact ⟨rfl, hB⟩

set_option maxRecDepth 100000 in
theorem lifted (os : Os) (started : os.Started) (H : Type) (enc : TypeId × Value → H) :
    ReturnsInHanded {} Try.checked os 5 .any (Rows.serialRowSpec.pre6 enc Try.prog Try.f5 Rows.serialRowRow.domain false) (Rows.serialRowSpec.post enc Try.prog Try.f5 false true false false) := by
  refine returnsInHanded_of_change (C := Try.checked) own started (by kernel_rfl) Try.func5
    (ChangeSpec.witness6 (enc := enc) (C := Try.checked) false ⟨#[], #[.agg #[.int .u64 0, .int .u64 0], .int .u8 0], []⟩ 8 (by kernel_rfl) (by kernel_rfl) (by kernel_rfl) (by kernel_rfl)) ?_
  intro W base args ds gs before hval0 hW hcnd _
  have hval : ∀ (j : Nat) t v, Try.f5.params[j]? = some t → args[j]? = some v → Value.okWide Try.prog W .any base t v := hval0
  have hW' := hW
  obtain ⟨p, q, hA0, hV, rfl, hfz, hnd⟩ := hW
  have hA : DataW.TrodAll enc Try.prog W 0 (fun _ => true) true Try.f5.params.toList args.toList ds p := hA0
  rw [Try.params5] at hA hval
  obtain ⟨v0, vs0, d0, ds0, p0, q0, hargs, rfl, rfl, h0, r0⟩ := trodAll_cons hA
  obtain ⟨v1, vs1, d1, ds1, p1, q1, rfl, rfl, rfl, h1, r1⟩ := trodAll_cons r0
  obtain ⟨rfl, rfl, rfl⟩ := trodAll_nil r1
  obtain rfl : args = #[v0, v1] := by cases args; simp_all
  obtain ⟨rfl, rfl⟩ := trodVars_none hV
  obtain ⟨x0, y0, rfl, l0⟩ := span_of_trod (hval 0 24 v0 rfl rfl) h0
  have k0 := h0
  have lt0 : ∀ x ∈ p0, x.block < W.heap.size := by obtain ⟨m, hm⟩ := k0; exact DataW.trod_lt m _ _ _ hm
  obtain ⟨a1, rfl, rfl, rfl, w1⟩ := open_int Try.underlying5 (hval 1 5 v1 rfl rfl) h1
  clear hA0 hval0
  refine (walk x0 y0 a1 W l0 w1).mono fun e W' ⟨he, bel⟩ => ?_
  subst he
  exact ⟨_, rfl, _, _, _, [], _, [], hW', trodAll_mk1 (shut_bool Try.underlying4 _), (trodAll_cons_mk (Below.trod laidOut (by kernel_rfl) (of_decide_eq_true (by kernel_rfl)) k0 bel lt0) (trodAll_cons_mk (shut_int Try.underlying5 w1) trodAll_mk0)), rfl, bel.frame _, fun h => by cases h⟩

theorem over : Rows.serialRowRow.holds Try.pinned (OpenSpec.ofChange Rows.serialRowSpec) :=
  OpenClaim.holds_of_wide 5 Try.f5 rfl rfl rfl rfl rfl rfl rfl ⟨rfl, rfl, rfl, rfl, rfl⟩ rfl rfl rfl rfl rfl (by kernel_rfl) Try.func5 (by kernel_rfl)
    (of_decide_eq_true (by kernel_rfl)) (by unfold Func.isWrapper; first | (rw [if_pos (by decide +kernel)]; kernel_rfl) | (rw [if_neg (by decide +kernel)]; exact ⟨rfl, rfl⟩))
    (fun os started H enc _ => lifted os started H enc)

end serialRow
/-- The statement. -/
theorem serialRow_holds : Rows.SerialRowSaid :=
  serialRow.over
#print axioms serialRow_holds
end Go.Proofs.Ytjgdafpciilfeaa
