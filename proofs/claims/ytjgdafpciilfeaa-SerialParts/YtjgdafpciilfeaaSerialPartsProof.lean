/-
  PROVED HERE: for every span and every two words the law SerialParts returns true (P7.4: numbers that were parted are together what they were, each in just one of both). No condition.
-/
import Derived.Test.YtjgdafpciilfeaaRows
import Derived.Test.YtjgdafpciilfeaaPrm4
import Derived.Test.YtjgdafpciilfeaaSerOpen
import Derived.Test.YtjgdafpciilfeaaSer4
import Derived.WalkKit
import Derived.ProofKit
import Derived.OpenShut
import Derived.Below
import Derived.ShutString
import Derived.Deep.QuietTactic
namespace Go.Proofs.Ytjgdafpciilfeaa
namespace serialParts
open Go.ChangeShapes Go.WideShapes Go.ChangeAt Go.RowKit
open Go.ChangeMaps (open_string shut_string)
set_option linter.unusedVariables false

theorem own : ownKnob Try.prog.godebug = none := by kernel_rfl

theorem parts_has {k x c y m : Nat} (h1 : x ≤ c) (h2 : c ≤ y) : hasK k x y m = (hasK k x c m || hasK k c y m) ∧ (hasK k x c m && hasK k c y m) = false := by
  unfold hasK hasB
  generalize Pm.numN k m = z
  cases (decide (1 ≤ m) && decide (m ≤ 2305843009213693952))
  · exact ⟨rfl, rfl⟩
  · simp only [Bool.true_and]
    constructor
    · rw [Bool.eq_iff_iff]; simp; omega
    · rw [Bool.eq_false_iff]; simp; omega
set_option maxRecDepth 100000 in
set_option maxHeartbeats 8000000 in
theorem walk (x0 y0 : Nat) (a1 : Int) (a2 : Int) (w : World) (l0 : x0 < 18446744073709551616 ∧ y0 < 18446744073709551616) (w1 : (Lit.int .u64 a1).wf = true) (w2 : (Lit.int .u64 a2).wf = true) :
    Calls Try.prog 4 #[.agg #[.int .u64 (x0 : Int), .int .u64 (y0 : Int)], .int .u64 a1, .int .u64 a2] w fun e w' => e = .returned (.bool true) ∧ Below w.heap.size w w' := by
  obtain ⟨key, rfl, hkey⟩ := u64_nat w1
  obtain ⟨n, rfl, hn⟩ := u64_nat w2
  have hB := (Below.refl w.heap.size w).alloc (Nat.le_refl _) (.cells #[.int .u64 (x0 : Int), .int .u64 (y0 : Int)] 24)
  have hT := Two.new w 24 (.int .u64 (x0 : Int)) (.int .u64 (y0 : Int))
  have hf := fun w => rFit_any x0 y0 w
  by_cases hfit : sfitB x0 y0 = true
  · simp only [hfit] at hf
    obtain ⟨hxy, hy⟩ := (sfit_iff _ _).1 hfit
    clear hfit
    go_enter Try.func4, Try.ntmps4
    go_upto_region 1 with fail
    obtain ⟨W, hW⟩ : ∃ W, Hid (w.alloc (.cells #[.int .u64 (x0 : Int), .int .u64 (y0 : Int)] 24) = W) := ⟨_, rfl⟩
    rw [hW.out] at hB hT ⊢
    clear hW
    have t0 := hT.cell0
    have t1 := hT.cell1
    go_upto_region 3 with (go_at_call 6; refine (hf _).mono ?_; rintro e w3 ⟨rfl, hb⟩; replace hT := hT.next hb; replace hB := hB.trans (hb.mono hB.size); clear hb)
    clear t0 t1 hf
    have t0 := hT.cell0
    have t1 := hT.cell1
    by_cases hs : 0 < share x0 y0
    · obtain ⟨c, hc⟩ : ∃ c : Nat, Hid (y0 - share x0 y0 = c) := ⟨_, rfl⟩
      go_upto_region 4 with (go_at_call 9; refine (split_some hxy hy hs hc _).mono ?_; rintro e w4 ⟨rfl, hb4⟩)
      have hO := (Two.new w4 24 (.int .u64 (x0 : Int)) (.int .u64 (c : Int))).alloc (.cells #[.int .u64 (c : Int), .int .u64 (y0 : Int)] 24)
      have hGv : Two ((w4.alloc (.cells #[.int .u64 (x0 : Int), .int .u64 (c : Int)] 24)).alloc (.cells #[.int .u64 (c : Int), .int .u64 (y0 : Int)] 24)) (w4.heap.size + 1) 24 (.int .u64 (c : Int)) (.int .u64 (y0 : Int)) := by have h := Two.new (w4.alloc (.cells #[.int .u64 (x0 : Int), .int .u64 (c : Int)] 24)) 24 (.int .u64 (c : Int)) (.int .u64 (y0 : Int)); rw [World.size_alloc] at h; exact h
      have hT4 := ((hT.next hb4).alloc (.cells #[.int .u64 (x0 : Int), .int .u64 (c : Int)] 24)).alloc (.cells #[.int .u64 (c : Int), .int .u64 (y0 : Int)] 24)
      have hB4 : Below w.heap.size w ((w4.alloc (.cells #[.int .u64 (x0 : Int), .int .u64 (c : Int)] 24)).alloc (.cells #[.int .u64 (c : Int), .int .u64 (y0 : Int)] 24)) := ((hB.trans (hb4.mono hB.size)).alloc (Nat.le_trans hB.size hb4.size) _).alloc (by have := hB.size; have := hb4.size; simp; omega) _
      obtain ⟨X, hX⟩ : ∃ X, Hid ((w4.alloc (.cells #[.int .u64 (x0 : Int), .int .u64 (c : Int)] 24)).alloc (.cells #[.int .u64 (c : Int), .int .u64 (y0 : Int)] 24) = X) := ⟨_, rfl⟩
      rw [hX.out] at hO hGv hT4 hB4 ⊢
      clear hX hT t0 t1 hB
      have hname := fun w => rname_any (key := key) hn w
      have nlo := Pm.name_lo key n
      have nhi := Pm.name_hi key n
      obtain ⟨m, hm⟩ : ∃ m, Hid (Pm.nameN key n = m) := ⟨_, rfl⟩
      rw [hm.out] at nlo nhi
      simp only [hm.out] at hname
      go_upto_region 7 with (go_at_call 13; refine (hname _).mono ?_; rintro e w6 ⟨rfl, rfl⟩)
      have t0 := hT4.cell0
      have t1 := hT4.cell1
      have o0 := hO.cell0
      have o1 := hO.cell1
      have g0 := hGv.cell0
      have g1 := hGv.cell1
      have hcl : x0 ≤ c := by have := hc.out; unfold share at this; omega
      have hcy : c ≤ y0 := by have := hc.out; omega
      have hm64 : m < 18446744073709551616 := by omega
      have k1 := fun w => Has_any (k := key) (a := x0) (b := y0) hm64 w
      have k2 := fun w => Has_any (k := key) (a := x0) (b := c) hm64 w
      have k3 := fun w => Has_any (k := key) (a := c) (b := y0) hm64 w
      obtain ⟨hp1, hp2⟩ := parts_has (k := key) (m := m) hcl hcy
      obtain ⟨b1, hb1⟩ : ∃ z, Hid (hasK key x0 y0 m = z) := ⟨_, rfl⟩
      obtain ⟨b2, hb2⟩ : ∃ z, Hid (hasK key x0 c m = z) := ⟨_, rfl⟩
      obtain ⟨b3, hb3⟩ : ∃ z, Hid (hasK key c y0 m = z) := ⟨_, rfl⟩
      simp only [hb1.out] at k1
      simp only [hb2.out] at k2
      simp only [hb3.out] at k3
      rw [hb1.out, hb2.out, hb3.out] at hp1
      rw [hb2.out, hb3.out] at hp2
      obtain ⟨sh, hsh⟩ : ∃ z, Hid (share x0 y0 = z) := ⟨_, rfl⟩
      have e1 : IntKind.u64.wrap ((y0 : Int) - (c : Int)) = (sh : Int) := by have := hc.out; have := hsh.out; have : share x0 y0 ≤ y0 := (by unfold share; omega); rw [IntKind.wrap_u64]; omega
      obtain ⟨ow, how⟩ : ∃ z, Hid (c - x0 = z) := ⟨_, rfl⟩
      have e2 : IntKind.u64.wrap ((c : Int) - (x0 : Int)) = (ow : Int) := by have := how.out; rw [IntKind.wrap_u64]; omega
      have hsh1 : 1 ≤ sh := by have := hsh.out; omega
      have h15 : 15 * sh ≤ ow := by have := hsh.out; have := how.out; have := hc.out; unfold share at *; omega
      obtain ⟨ff, hff⟩ : ∃ z : Nat, Hid (15 * sh = z) := ⟨_, rfl⟩
      have e3 : IntKind.u64.wrap (15 * (sh : Int)) = (ff : Int) := by have := hff.out; have := how.out; rw [IntKind.wrap_u64]; omega
      have h15' : ff ≤ ow := by have := hff.out; omega
      clear h15 hs hxy hcl hcy nlo nhi hname hn hm64
      go_region_held3 (fun w' => w'.cell? ⟨w.heap.size, 0, none⟩ = some (.int .u64 (x0 : Int)) ∧ w'.cell? ⟨w.heap.size, 1, none⟩ = some (.int .u64 (y0 : Int)) ∧ w'.cell? ⟨w4.heap.size, 0, none⟩ = some (.int .u64 (x0 : Int)) ∧ w'.cell? ⟨w4.heap.size, 1, none⟩ = some (.int .u64 (c : Int)) ∧ w'.cell? ⟨w4.heap.size + 1, 0, none⟩ = some (.int .u64 (c : Int)) ∧ w'.cell? ⟨w4.heap.size + 1, 1, none⟩ = some (.int .u64 (y0 : Int))) (go_keep) (first | (go_at_call 12; (with_reducible refine (k1 _).mono ?_); rintro e w7 ⟨rfl, hb7⟩; have hb7' : Below X.heap.size X w7 := (Below.refl _ X).drew.trans hb7; have p0 := (hT4.next hb7').cell0; have p1 := (hT4.next hb7').cell1; have p2 := (hO.next hb7').cell0; have p3 := (hO.next hb7').cell1; have p4 := (hGv.next hb7').cell0; have p5 := (hGv.next hb7').cell1) | (go_at_call 12; (with_reducible refine (k2 _).mono ?_); rintro e w8 ⟨rfl, hb8⟩; have hb8' : Below X.heap.size X w8 := hb7'.trans (hb8.mono hb7'.size); have q0 := (hT4.next hb8').cell0; have q1 := (hT4.next hb8').cell1; have q2 := (hO.next hb8').cell0; have q3 := (hO.next hb8').cell1; have q4 := (hGv.next hb8').cell0; have q5 := (hGv.next hb8').cell1) | (go_at_call 12; (with_reducible refine (k3 _).mono ?_); rintro e w9 ⟨rfl, hb9⟩; have hb9' : Below X.heap.size X w9 := hb8'.trans (hb9.mono hb8'.size); have r0 := (hT4.next hb9').cell0; have r1 := (hT4.next hb9').cell1; have r2 := (hO.next hb9').cell0; have r3 := (hO.next hb9').cell1; have r4 := (hGv.next hb9').cell0; have r5 := (hGv.next hb9').cell1))
      subst hp1
      cases b2 <;> cases b3
      · go_wp2_with (go_at_call 7; refine (awake7_any _).mono ?_; rintro e w5 ⟨rfl, hb5⟩)
        go_ret
        exact ⟨rfl, (hB4.trans (hb9'.mono hB4.size)).trans (hb5.mono (Nat.le_trans hB4.size hb9'.size))⟩
      · go_wp2_with (go_at_call 7; refine (awake7_any _).mono ?_; rintro e w5 ⟨rfl, hb5⟩)
        go_ret
        exact ⟨rfl, (hB4.trans (hb9'.mono hB4.size)).trans (hb5.mono (Nat.le_trans hB4.size hb9'.size))⟩
      · go_wp2_with (go_at_call 7; refine (awake7_any _).mono ?_; rintro e w5 ⟨rfl, hb5⟩)
        go_ret
        exact ⟨rfl, (hB4.trans (hb9'.mono hB4.size)).trans (hb5.mono (Nat.le_trans hB4.size hb9'.size))⟩
      · exact absurd hp2 (by simp)
    · have hs0 : share x0 y0 = 0 := by omega
      obtain ⟨d, hd⟩ : ∃ d : Nat, Hid (y0 - x0 = d) := ⟨_, rfl⟩
      have hsub : IntKind.u64.wrap ((y0 : Int) - (x0 : Int)) = (d : Int) := by have := hd.out; rw [IntKind.wrap_u64]; omega
      have hd16 : d < 16 := by have := hd.out; unfold share at hs0; omega
      go_upto_region 4 with (go_at_call 9; refine (split_none hxy hy hs0 _).mono ?_; rintro e w4 ⟨rfl, hb4⟩)
      have hO := (Two.new w4 24 (.int .u64 (x0 : Int)) (.int .u64 (y0 : Int))).alloc (.cells #[.int .u64 0, .int .u64 0] 24)
      have hGv : Two ((w4.alloc (.cells #[.int .u64 (x0 : Int), .int .u64 (y0 : Int)] 24)).alloc (.cells #[.int .u64 0, .int .u64 0] 24)) (w4.heap.size + 1) 24 (.int .u64 0) (.int .u64 0) := by have h := Two.new (w4.alloc (.cells #[.int .u64 (x0 : Int), .int .u64 (y0 : Int)] 24)) 24 (.int .u64 0) (.int .u64 0); rw [World.size_alloc] at h; exact h
      have hT4 := ((hT.next hb4).alloc (.cells #[.int .u64 (x0 : Int), .int .u64 (y0 : Int)] 24)).alloc (.cells #[.int .u64 0, .int .u64 0] 24)
      have hB4 : Below w.heap.size w ((w4.alloc (.cells #[.int .u64 (x0 : Int), .int .u64 (y0 : Int)] 24)).alloc (.cells #[.int .u64 0, .int .u64 0] 24)) := ((hB.trans (hb4.mono hB.size)).alloc (Nat.le_trans hB.size hb4.size) _).alloc (by have := hB.size; have := hb4.size; simp; omega) _
      obtain ⟨X, hX⟩ : ∃ X, Hid ((w4.alloc (.cells #[.int .u64 (x0 : Int), .int .u64 (y0 : Int)] 24)).alloc (.cells #[.int .u64 0, .int .u64 0] 24) = X) := ⟨_, rfl⟩
      rw [hX.out] at hO hGv hT4 hB4 ⊢
      clear hX hT t0 t1 hB hs hs0
      have t0 := hT4.cell0
      have t1 := hT4.cell1
      have o0 := hO.cell0
      have o1 := hO.cell1
      have g0 := hGv.cell0
      have g1 := hGv.cell1
      go_wp2_with (go_at_call 7; refine (awake7_any _).mono ?_; rintro e w5 ⟨rfl, hb5⟩)
      go_ret
      exact ⟨rfl, hB4.trans (hb5.mono hB4.size)⟩
  · simp only [Bool.not_eq_true] at hfit
    simp only [hfit] at hf
    go_enter Try.func4, Try.ntmps4
    go_wp2_with (first | (go_at_call 6; refine (hf _).mono ?_; rintro e w1 ⟨rfl, hb⟩; replace hB := hB.trans (hb.mono hB.size); clear hb) | (go_at_call 7; refine (awake7_any _).mono ?_; rintro e w1 ⟨rfl, hb⟩; replace hB := hB.trans (hb.mono hB.size); clear hb))
    go_ret
    exact ⟨rfl, hB⟩

set_option maxRecDepth 100000 in
theorem lifted (os : Os) (started : os.Started) (H : Type) (enc : TypeId × Value → H) :
    ReturnsInHanded {} Try.checked os 4 .any (Rows.serialPartsSpec.pre6 enc Try.prog Try.f4 Rows.serialPartsRow.domain false) (Rows.serialPartsSpec.post enc Try.prog Try.f4 false true false false) := by
  refine returnsInHanded_of_change (C := Try.checked) own started (by kernel_rfl) Try.func4
    (ChangeSpec.witness6 (enc := enc) (C := Try.checked) false ⟨#[], #[.agg #[.int .u64 0, .int .u64 0], .int .u64 0, .int .u64 0], []⟩ 8 (by kernel_rfl) (by kernel_rfl) (by kernel_rfl) (by kernel_rfl)) ?_
  intro W base args ds gs before hval0 hW hcnd _
  have hval : ∀ (j : Nat) t v, Try.f4.params[j]? = some t → args[j]? = some v → Value.okWide Try.prog W .any base t v := hval0
  have hW' := hW
  obtain ⟨p, q, hA0, hV, rfl, hfz, hnd⟩ := hW
  have hA : DataW.TrodAll enc Try.prog W 0 (fun _ => true) true Try.f4.params.toList args.toList ds p := hA0
  rw [Try.params4] at hA hval
  obtain ⟨v0, vs0, d0, ds0, p0, q0, hargs, rfl, rfl, h0, r0⟩ := trodAll_cons hA
  obtain ⟨v1, vs1, d1, ds1, p1, q1, rfl, rfl, rfl, h1, r1⟩ := trodAll_cons r0
  obtain ⟨v2, vs2, d2, ds2, p2, q2, rfl, rfl, rfl, h2, r2⟩ := trodAll_cons r1
  obtain ⟨rfl, rfl, rfl⟩ := trodAll_nil r2
  obtain rfl : args = #[v0, v1, v2] := by cases args; simp_all
  obtain ⟨rfl, rfl⟩ := trodVars_none hV
  obtain ⟨x0, y0, rfl, l0⟩ := span_of_trod (hval 0 24 v0 rfl rfl) h0
  have k0 := h0
  have lt0 : ∀ x ∈ p0, x.block < W.heap.size := by obtain ⟨m, hm⟩ := k0; exact DataW.trod_lt m _ _ _ hm
  obtain ⟨a1, rfl, rfl, rfl, w1⟩ := open_int Try.underlying22 (hval 1 22 v1 rfl rfl) h1
  obtain ⟨a2, rfl, rfl, rfl, w2⟩ := open_int Try.underlying22 (hval 2 22 v2 rfl rfl) h2
  clear hA0 hval0
  refine (walk x0 y0 a1 a2 W l0 w1 w2).mono fun e W' ⟨he, bel⟩ => ?_
  subst he
  exact ⟨_, rfl, _, _, _, [], _, [], hW', trodAll_mk1 (shut_bool Try.underlying4 _), (trodAll_cons_mk (Below.trod laidOut (by kernel_rfl) (of_decide_eq_true (by kernel_rfl)) k0 bel lt0) (trodAll_cons_mk (shut_int Try.underlying22 w1) (trodAll_cons_mk (shut_int Try.underlying22 w2) trodAll_mk0))), rfl, bel.frame _, fun h => by cases h⟩

theorem over : Rows.serialPartsRow.holds Try.pinned (OpenSpec.ofChange Rows.serialPartsSpec) :=
  OpenClaim.holds_of_wide 4 Try.f4 rfl rfl rfl rfl rfl rfl rfl ⟨rfl, rfl, rfl, rfl, rfl⟩ rfl rfl rfl rfl rfl (by kernel_rfl) Try.func4 (by kernel_rfl)
    (of_decide_eq_true (by kernel_rfl)) (by unfold Func.isWrapper; first | (rw [if_pos (by decide +kernel)]; kernel_rfl) | (rw [if_neg (by decide +kernel)]; exact ⟨rfl, rfl⟩))
    (fun os started H enc _ => lifted os started H enc)

end serialParts
/-- The statement. -/
theorem serialParts_holds : Rows.SerialPartsSaid :=
  serialParts.over
#print axioms serialParts_holds
end Go.Proofs.Ytjgdafpciilfeaa
