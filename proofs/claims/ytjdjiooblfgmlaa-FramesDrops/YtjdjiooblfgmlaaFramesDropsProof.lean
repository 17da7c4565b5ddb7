/-
  PROVED HERE: FramesDrops (P11.3, P11.5): what is dropped is all of an owner's, and nothing else: as many as it held are free then, none is its, each of all others is where it was: any few fit frames, any owner.
-/
import Derived.Test.YtjdjiooblfgmlaaRows
import Derived.Test.YtjdjiooblfgmlaaFrmOpen
import Derived.Test.YtjdjiooblfgmlaaFrm14
import Derived.WalkKit
import Derived.ProofKit
import Derived.OpenShut
import Derived.Below
import Derived.ShutString
import Derived.Deep.QuietTactic
namespace Go.Proofs.Ytjdjiooblfgmlaa
namespace framesDrops
open Go.ChangeShapes Go.WideShapes Go.ChangeAt Go.RowKit
open Go.ChangeMaps (open_string shut_string)
set_option linter.unusedVariables false

theorem own : ownKnob Try.prog.godebug = none := by kernel_rfl

set_option maxRecDepth 100000 in
set_option maxHeartbeats 8000000 in
theorem walk (ao0 : Option Addr) (n0 cap0 : Nat) (L0 : List Frm.Fr) (a1 : Int) (w : World) (l0 : Lab w.heap.size w ao0 n0 cap0 L0) (w1 : (Lit.int .u64 a1).wf = true) :
    Calls Try.prog 5 #[.slice ao0 n0 cap0, .int .u64 a1] w fun e w' => e = .returned (.bool true) ∧ Below w.heap.size w w' := by
  have H : Labs w [(ao0, n0, cap0, L0)] := (Labs.nil w).push l0
  have hB : Below w.heap.size w w := Below.refl _ _
  have hln : Hid (L0.length = n0) := l0.1
  have hc0 := l0.2.1
  have hm0 := l0.2.2.1.1
  clear l0
  by_cases h0 : n0 ≤ 60
  · cases hfit : Frm.fitB L0 with
    | false =>
      go_enter Try.func5, Try.ntmps5
      go_wp2_with (first | (go_at_call 10; refine (rfit_any (H.get (by repeat (first | exact List.Mem.head _ | apply List.Mem.tail)))).mono ?_; rintro e w1 ⟨rfl, hb⟩; (first | rw [hfit] | rw [hf1] | rw [hf2] | rw [hf3]); replace H := H.next hb; replace hB := nextB hB hb; clear hb) | (go_at_call 6; refine (awake11 _).mono ?_; rintro e w1 ⟨rfl, hb⟩; replace H := H.next hb; replace hB := nextB hB hb; clear hb))
      go_ret
      exact ⟨rfl, hB⟩
    | true =>
      have hd0 : Frm.cnt (Frm.hdB a1) (Frm.dropL a1 L0) = 0 := Frm.drop_none a1 L0
      have hdf : Frm.cnt Frm.isF (Frm.dropL a1 L0) = Frm.cnt Frm.isF L0 + Frm.cnt (Frm.hdB a1) L0 := Frm.drop_free a1 L0
      have hcl : Frm.cnt Frm.isF L0 ≤ 60 := by have := Frm.cnt_le (P := Frm.isF) (L := L0); rw [hln.out] at this; omega
      have hcl2 : Frm.cnt (Frm.hdB a1) L0 ≤ 60 := by have := Frm.cnt_le (P := Frm.hdB a1) (L := L0); rw [hln.out] at this; omega
      have hdat : Hid (∀ i, i < n0 → Frm.fat (Frm.dropL a1 L0) i = if Frm.hdB a1 (Frm.fat L0 i) then (0, 0) else Frm.fat L0 i) := fun i hi => Frm.drop_at (by rw [hln.out]; exact hi)
      obtain ⟨M, hM⟩ : ∃ M, Hid (Frm.dropL a1 L0 = M) := ⟨_, rfl⟩
      have hdr : ∀ {W : World} {ao : Option Addr} {n cap : Nat}, Lab W.heap.size W ao n cap L0 → n < 274877906944 → Calls Try.prog 17 #[.slice ao n cap, .int .u64 a1] W fun e w' => ∃ ao1 cap1, e = .returned (.tuple #[.slice ao1 n cap1, .int .i64 (Frm.cnt (Frm.hdB a1) L0 : Nat)]) ∧ Lab w'.heap.size w' ao1 n cap1 M ∧ Below W.heap.size W w' := fun h1 h2 => by have := drop_any h1 h2 a1; rw [hM.out] at this; exact this
      have hdat2 : Hid (∀ i, i < n0 → Frm.fat M i = if Frm.hdB a1 (Frm.fat L0 i) then (0, 0) else Frm.fat L0 i) := by have := hdat.out; rw [hM.out] at this; exact this
      rw [hM.out] at hd0 hdf
      clear hdat hM
      obtain ⟨ch, hch⟩ : ∃ ch, Frm.cnt (Frm.hdB a1) L0 = ch := ⟨_, rfl⟩
      obtain ⟨cf, hcf⟩ : ∃ cf, Frm.cnt Frm.isF L0 = cf := ⟨_, rfl⟩
      rw [hch, hcf] at hdf
      rw [hch] at hcl2
      rw [hcf] at hcl
      by_cases ho : a1 = 0
      · subst ho
        go_enter Try.func5, Try.ntmps5
        go_wp2_with (first | (go_at_call 10; refine (rfit_any (H.get (by repeat (first | exact List.Mem.head _ | apply List.Mem.tail)))).mono ?_; rintro e w1 ⟨rfl, hb⟩; (first | rw [hfit] | rw [hf1] | rw [hf2] | rw [hf3]); replace H := H.next hb; replace hB := nextB hB hb; clear hb) | (go_at_call 23; refine (held_any (H.get (by repeat (first | exact List.Mem.head _ | apply List.Mem.tail))) _).mono ?_; rintro e w1 ⟨rfl, hb⟩; (first | rw [hch] | rw [hd0]); replace H := H.next hb; replace hB := nextB hB hb; clear hb) | (go_at_call 17; refine (hdr (H.get (by repeat (first | exact List.Mem.head _ | apply List.Mem.tail))) (by omega)).mono ?_; rintro e w1 ⟨ao1, cap1, rfl, hl, hb⟩; rw [hch]; replace H := (H.next hb).push hl; replace hB := nextB hB hb; clear hb hl) | (go_at_call 21; refine (free_any (H.get (by repeat (first | exact List.Mem.head _ | apply List.Mem.tail)))).mono ?_; rintro e w1 ⟨rfl, hb⟩; (first | rw [hcf] | rw [hdf]); replace H := H.next hb; replace hB := nextB hB hb; clear hb))
        go_loopw [59] (fun i wr => ∃ k : Nat, k ≤ n0 ∧ i = .int .i64 k ∧ Labs wr [(ao1, n0, cap1, M), (ao0, n0, cap0, L0)] ∧ Below w.heap.size w wr) (fun i _ => n0 - (intOf i).toNat)
        case atStart => exact ⟨0, Nat.zero_le _, rfl, H, hB⟩
        case round =>
          obtain ⟨k, hk, rfl, H, hB⟩ := hrel
          by_cases hkn : k < n0
          · have hkn' : (k : Int) < n0 := by omega
            have hlM := H.get (ao := ao1) (n := n0) (cap := cap1) (L := M) (by repeat (first | exact List.Mem.head _ | apply List.Mem.tail))
            have hlL := H.get (ao := ao0) (n := n0) (cap := cap0) (L := L0) (by repeat (first | exact List.Mem.head _ | apply List.Mem.tail))
            have hcM := hlM.2.1
            have hmM := hlM.2.2.1.1
            obtain ⟨b, off, x, y, rfl, hb, q0, q1, hxy⟩ := LabD.at hlL hkn
            obtain ⟨b', off', x', y', rfl, hb', p0, p1, hxy'⟩ := LabD.at hlM hkn
            have hd := hdat2.out k hkn
            rw [show Frm.fat M k = (x', y') from hxy'.out, show Frm.fat L0 k = (x, y) from hxy.out] at hd
            have q2 := cellLater q0 (.cells #[.int .u64 x, .int .i64 y] 51)
            have q3 := cellLater q1 (.cells #[.int .u64 x, .int .i64 y] 51)
            have p2 := cellLater p0 (.cells #[.int .u64 x, .int .i64 y] 51)
            have p3 := cellLater p1 (.cells #[.int .u64 x, .int .i64 y] 51)
            have hT := Two.new wr 51 (.int .u64 x) (.int .i64 y)
            have t0 := hT.cell0
            have t1 := hT.cell1
            have ha : Below wr.heap.size wr (wr.alloc (.cells #[.int .u64 x, .int .i64 y] 51)) := (Below.refl _ wr).alloc (Nat.le_refl _) _
            have had : Hid (∀ m, Below wr.heap.size wr ((wr.alloc (.cells #[.int .u64 x, .int .i64 y] 51)).drewN m)) := fun m => below_drewN ha m
            clear hlM hlL
            rw [if_neg (by rw [Frm.hd0]; simp)] at hd
            obtain ⟨rfl, rfl⟩ := Prod.mk.injEq .. ▸ hd
            clear hd
            by_cases hx : x' = 0
            · subst hx
              go_wp2
              go_quiet (fail)
              go_wp2
              go_roundw
              case rel => exact ⟨k + 1, by omega, by go_num, H.next (had.out _), nextB hB (had.out _)⟩
              case measure => simp [intOf]; omega
            · have hx' : (x' == 0) = false := by simpa using hx
              go_wp2
              go_quiet (fail)
              go_wp2
              go_roundw
              case rel => exact ⟨k + 1, by omega, by go_num, H.next (had.out _), nextB hB (had.out _)⟩
              case measure => simp [intOf]; omega
          · obtain rfl : k = n0 := by omega
            go_wp2_with ((go_at_call 6; refine (awake11 _).mono ?_; rintro e w1 ⟨rfl, hb⟩; replace H := H.next hb; replace hB := nextB hB hb; clear hb))
            go_ret
            exact ⟨rfl, hB⟩
      · have ho' : (a1 == 0) = false := by simpa using ho
        go_enter Try.func5, Try.ntmps5
        go_wp2_with (first | (go_at_call 10; refine (rfit_any (H.get (by repeat (first | exact List.Mem.head _ | apply List.Mem.tail)))).mono ?_; rintro e w1 ⟨rfl, hb⟩; (first | rw [hfit] | rw [hf1] | rw [hf2] | rw [hf3]); replace H := H.next hb; replace hB := nextB hB hb; clear hb) | (go_at_call 23; refine (held_any (H.get (by repeat (first | exact List.Mem.head _ | apply List.Mem.tail))) _).mono ?_; rintro e w1 ⟨rfl, hb⟩; (first | rw [hch] | rw [hd0]); replace H := H.next hb; replace hB := nextB hB hb; clear hb) | (go_at_call 17; refine (hdr (H.get (by repeat (first | exact List.Mem.head _ | apply List.Mem.tail))) (by omega)).mono ?_; rintro e w1 ⟨ao1, cap1, rfl, hl, hb⟩; rw [hch]; replace H := (H.next hb).push hl; replace hB := nextB hB hb; clear hb hl) | (go_at_call 21; refine (free_any (H.get (by repeat (first | exact List.Mem.head _ | apply List.Mem.tail)))).mono ?_; rintro e w1 ⟨rfl, hb⟩; (first | rw [hcf] | rw [hdf]); replace H := H.next hb; replace hB := nextB hB hb; clear hb))
        go_loopw [59] (fun i wr => ∃ k : Nat, k ≤ n0 ∧ i = .int .i64 k ∧ Labs wr [(ao1, n0, cap1, M), (ao0, n0, cap0, L0)] ∧ Below w.heap.size w wr) (fun i _ => n0 - (intOf i).toNat)
        case atStart => exact ⟨0, Nat.zero_le _, rfl, H, hB⟩
        case round =>
          obtain ⟨k, hk, rfl, H, hB⟩ := hrel
          by_cases hkn : k < n0
          · have hkn' : (k : Int) < n0 := by omega
            have hlM := H.get (ao := ao1) (n := n0) (cap := cap1) (L := M) (by repeat (first | exact List.Mem.head _ | apply List.Mem.tail))
            have hlL := H.get (ao := ao0) (n := n0) (cap := cap0) (L := L0) (by repeat (first | exact List.Mem.head _ | apply List.Mem.tail))
            have hcM := hlM.2.1
            have hmM := hlM.2.2.1.1
            obtain ⟨b, off, x, y, rfl, hb, q0, q1, hxy⟩ := LabD.at hlL hkn
            obtain ⟨b', off', x', y', rfl, hb', p0, p1, hxy'⟩ := LabD.at hlM hkn
            have hd := hdat2.out k hkn
            rw [show Frm.fat M k = (x', y') from hxy'.out, show Frm.fat L0 k = (x, y) from hxy.out] at hd
            have q2 := cellLater q0 (.cells #[.int .u64 x, .int .i64 y] 51)
            have q3 := cellLater q1 (.cells #[.int .u64 x, .int .i64 y] 51)
            have p2 := cellLater p0 (.cells #[.int .u64 x, .int .i64 y] 51)
            have p3 := cellLater p1 (.cells #[.int .u64 x, .int .i64 y] 51)
            have hT := Two.new wr 51 (.int .u64 x) (.int .i64 y)
            have t0 := hT.cell0
            have t1 := hT.cell1
            have ha : Below wr.heap.size wr (wr.alloc (.cells #[.int .u64 x, .int .i64 y] 51)) := (Below.refl _ wr).alloc (Nat.le_refl _) _
            have had : Hid (∀ m, Below wr.heap.size wr ((wr.alloc (.cells #[.int .u64 x, .int .i64 y] 51)).drewN m)) := fun m => below_drewN ha m
            clear hlM hlL
            by_cases hx : x = a1
            · rw [if_pos (by simp [Frm.hdB, Frm.isF, hx, ho])] at hd
              obtain ⟨rfl, rfl⟩ := Prod.mk.injEq .. ▸ hd
              subst hx
              clear hd
              go_wp2
              go_roundw
              case rel => exact ⟨k + 1, by omega, by go_num, H.next ha, nextB hB ha⟩
              case measure => simp [intOf]; omega
            · have hx' : (x == a1) = false := by simpa using hx
              rw [if_neg (by simp [Frm.hdB, hx])] at hd
              obtain ⟨rfl, rfl⟩ := Prod.mk.injEq .. ▸ hd
              clear hd
              go_wp2
              go_quiet (fail)
              go_wp2
              go_roundw
              case rel => exact ⟨k + 1, by omega, by go_num, H.next (had.out _), nextB hB (had.out _)⟩
              case measure => simp [intOf]; omega
          · obtain rfl : k = n0 := by omega
            go_wp2_with ((go_at_call 6; refine (awake11 _).mono ?_; rintro e w1 ⟨rfl, hb⟩; replace H := H.next hb; replace hB := nextB hB hb; clear hb))
            go_ret
            exact ⟨rfl, hB⟩
  · go_enter Try.func5, Try.ntmps5
    go_wp2_with ((go_at_call 6; refine (awake11 _).mono ?_; rintro e w1 ⟨rfl, hb⟩; replace H := H.next hb; replace hB := nextB hB hb; clear hb))
    go_ret
    exact ⟨rfl, hB⟩

set_option maxRecDepth 100000 in
theorem lifted (os : Os) (started : os.Started) (H : Type) (enc : TypeId × Value → H) :
    ReturnsInHanded {} Try.checked os 5 .any (Rows.framesDropsSpec.pre6 enc Try.prog Try.f5 Rows.framesDropsRow.domain false) (Rows.framesDropsSpec.post enc Try.prog Try.f5 false true false false) := by
  refine returnsInHanded_of_change (C := Try.checked) own started (by kernel_rfl) Try.func5
    (ChangeSpec.witness6 (enc := enc) (C := Try.checked) false ⟨#[], #[.slice none 0 0, .int .u64 0], []⟩ 8 (by kernel_rfl) (by kernel_rfl) (by kernel_rfl) (by kernel_rfl)) ?_
  intro W base args ds gs before hval0 hW hcnd _
  have hval : ∀ (j : Nat) t v, Try.f5.params[j]? = some t → args[j]? = some v → Value.okWide Try.prog W .any base t v := hval0
  have hW' := hW
  obtain ⟨p, q, hA0, hV, rfl, hfz, hnd⟩ := hW
  have hA : DataW.TrodAll enc Try.prog W 0 (fun _ => true) true Try.f5.params.toList args.toList ds p := hA0
  rw [Try.params5] at hA hval
  obtain ⟨v0, vs0, d0, ds0, p0, q0, hargs, rfl, rfl, h0, r0⟩ := trodAll_cons hA
  obtain ⟨v1, vs1, d1, ds1, p1, q1, rfl, rfl, rfl, h1, r1⟩ := trodAll_cons r0
  obtain ⟨rfl, rfl, rfl⟩ := trodAll_nil r1
  obtain rfl : args = #[v0, v1] := by cases args; simp_all
  obtain ⟨rfl, rfl⟩ := trodVars_none hV
  obtain ⟨ao0, n0, cap0, rfl⟩ := okWide_slice Try.underlying22 (hval 0 22 v0 rfl rfl)
  have k0 := h0
  have lt0 : ∀ x ∈ p0, x.block < W.heap.size := by obtain ⟨m, hm⟩ := k0; exact DataW.trod_lt m _ _ _ hm
  obtain ⟨L0, l0⟩ := frm_of_trod h0
  obtain ⟨a1, rfl, rfl, rfl, w1⟩ := open_int Try.underlying23 (hval 1 23 v1 rfl rfl) h1
  clear hA0 hval0
  refine (walk ao0 n0 cap0 L0 a1 W l0 w1).mono fun e W' ⟨he, bel⟩ => ?_
  subst he
  exact ⟨_, rfl, _, _, _, [], _, [], hW', trodAll_mk1 (shut_bool Try.underlying4 _), (trodAll_cons_mk (Below.trod laidOut (by kernel_rfl) (of_decide_eq_true (by kernel_rfl)) k0 bel lt0) (trodAll_cons_mk (shut_int Try.underlying23 w1) trodAll_mk0)), rfl, bel.frame _, fun h => by cases h⟩

theorem over : Rows.framesDropsRow.holds Try.pinned (OpenSpec.ofChange Rows.framesDropsSpec) :=
  OpenClaim.holds_of_wide 5 Try.f5 rfl rfl rfl rfl rfl rfl rfl ⟨rfl, rfl, rfl, rfl, rfl⟩ rfl rfl rfl rfl rfl (by kernel_rfl) Try.func5 (by kernel_rfl)
    (of_decide_eq_true (by kernel_rfl)) (by unfold Func.isWrapper; first | (rw [if_pos (by decide +kernel)]; kernel_rfl) | (rw [if_neg (by decide +kernel)]; exact ⟨rfl, rfl⟩))
    (fun os started H enc _ => lifted os started H enc)

end framesDrops
/-- The statement. -/
theorem framesDrops_holds : Rows.FramesDropsSaid :=
  framesDrops.over
#print axioms framesDrops_holds
end Go.Proofs.Ytjdjiooblfgmlaa
