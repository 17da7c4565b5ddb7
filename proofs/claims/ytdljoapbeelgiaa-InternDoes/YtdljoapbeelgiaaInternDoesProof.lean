/-
  PROVED HERE: InternDoes (P5.1 to P5.3): which tables can be, which are the same, places and labels, and tables behind a label that is asked for, or dropped, are the document's, and stay fit: at every tables, label and place.
-/
import Derived.Test.YtdljoapbeelgiaaRows
import Derived.Test.YtdljoapbeelgiaaItn21
import Derived.Test.YtdljoapbeelgiaaItn22
import Derived.Test.YtdljoapbeelgiaaItn16
import Derived.Test.YtdljoapbeelgiaaItnOpen
import Derived.WalkKit
import Derived.ProofKit
import Derived.OpenShut
import Derived.Below
import Derived.ShutString
import Derived.Deep.QuietTactic
import Derived.Deep.DeepCutAuto
namespace Go.Proofs.Ytdljoapbeelgiaa
namespace internDoes
open Go.ChangeShapes Go.WideShapes Go.ChangeAt Go.RowKit
open Go.ChangeMaps (open_string shut_string)
set_option linter.unusedVariables false

theorem own : ownKnob Try.prog.godebug = none := by kernel_rfl

set_option maxRecDepth 100000 in
set_option maxHeartbeats 8000000 in
theorem walk (ao0 : Option Addr) (n0 cap0 : Nat) (aoc0 : Option Addr) (nc0 capc0 : Nat) (LL0 : List (List (Int × Int))) (CC0 : List Int) (ao1 : Option Addr) (n1 cap1 : Nat) (aoc1 : Option Addr) (nc1 capc1 : Nat) (LL1 : List (List (Int × Int))) (CC1 : List Int) (ao2 : Option Addr) (n2 cap2 : Nat) (L2 : List (Int × Int)) (a3 : Int) (w : World) (l0 : TabD (fun b => b < w.heap.size) w ao0 n0 cap0 aoc0 nc0 capc0 LL0 CC0) (l1 : TabD (fun b => b < w.heap.size) w ao1 n1 cap1 aoc1 nc1 capc1 LL1 CC1) (l2 : Lab w.heap.size w ao2 n2 cap2 L2) (w3 : (Lit.int .i64 a3).wf = true) :
    Calls Try.prog 3 #[.agg #[.slice ao0 n0 cap0, .slice aoc0 nc0 capc0], .agg #[.slice ao1 n1 cap1, .slice aoc1 nc1 capc1], .slice ao2 n2 cap2, .int .i64 a3] w fun e w' => e = .returned (.bool true) ∧ Below w.heap.size w w' := by
  have hb0 : Below w.heap.size w ((w.alloc (.cells #[.slice ao0 n0 cap0, .slice aoc0 nc0 capc0] 25)).alloc (.cells #[.slice ao1 n1 cap1, .slice aoc1 nc1 capc1] 25)) := ((Below.refl _ w).alloc (Nat.le_refl _) _).alloc (by simp) _
  have t0 := two_kty (Two.new w 25 (.slice ao0 n0 cap0) (.slice aoc0 nc0 capc0)) (KTy.alloc _ _ (.cells #[.slice ao1 n1 cap1, .slice aoc1 nc1 capc1] 25))
  have t1 := Two.new (w.alloc (.cells #[.slice ao0 n0 cap0, .slice aoc0 nc0 capc0] 25)) 25 (.slice ao1 n1 cap1) (.slice aoc1 nc1 capc1)
  rw [World.size_alloc] at t1
  obtain ⟨W0, hW0⟩ : ∃ W0, Hid ((w.alloc (.cells #[.slice ao0 n0 cap0, .slice aoc0 nc0 capc0] 25)).alloc (.cells #[.slice ao1 n1 cap1, .slice aoc1 nc1 capc1] 25) = W0) := ⟨_, rfl⟩
  go_enter Try.func3, Try.ntmps3
  go_upto_region 1 with (fail)
  rw [hW0.out] at hb0 t0 t1 ⊢
  clear hW0
  have hw0 := hb0.size
  have c0 := t0.cell0
  have c1 := t0.cell1
  have c2 := t1.cell0
  have c3 := t1.cell1
  have hbx : Hid (∀ W, Below W0.heap.size W0 W → (W.cell? ⟨w.heap.size, 0, none⟩ = some (.slice ao0 n0 cap0) ∧ W.cell? ⟨w.heap.size, 1, none⟩ = some (.slice aoc0 nc0 capc0)) ∧ W.cell? ⟨w.heap.size + 1, 0, none⟩ = some (.slice ao1 n1 cap1) ∧ W.cell? ⟨w.heap.size + 1, 1, none⟩ = some (.slice aoc1 nc1 capc1)) := fun W hb =>
    ⟨⟨(hb.cell (p := ⟨w.heap.size, 0, none⟩) t0.lt).trans c0, (hb.cell (p := ⟨w.heap.size, 1, none⟩) t0.lt).trans c1⟩, (hb.cell (p := ⟨w.heap.size + 1, 0, none⟩) t1.lt).trans c2, (hb.cell (p := ⟨w.heap.size + 1, 1, none⟩) t1.lt).trans c3⟩
  have hE : Hid (∀ W, Below W0.heap.size W0 W → Below w.heap.size w W) := fun W hb => hb0.trans (hb.mono hw0)
  have hTt : Hid (∀ W, Below W0.heap.size W0 W → TabD (fun b => b < W.heap.size) W ao0 n0 cap0 aoc0 nc0 capc0 LL0 CC0) := fun W hb => l0.next (hE.out W hb)
  have hTu : Hid (∀ W, Below W0.heap.size W0 W → TabD (fun b => b < W.heap.size) W ao1 n1 cap1 aoc1 nc1 capc1 LL1 CC1) := fun W hb => l1.next (hE.out W hb)
  have hLW : Hid (∀ W, Below W0.heap.size W0 W → Lab W.heap.size W ao2 n2 cap2 L2) := fun W hb => l2.next (hE.out W hb)
  have hl2 := l2.1
  cases hf10 : fewB LL0 CC0 with
  | false =>
    have hf1 : Hid (fewB LL0 CC0 = false) := hf10
    clear hf10
    go_wp2_with (first | (go_at_call 6; have hcc := few_any (hTt.out W0 (Below.refl _ _)) (fun b h => h); (with_reducible refine hcc.mono ?_); rintro e w1 ⟨rfl, hb1⟩; rw [hf1.out]; have B1 : Hid (Below W0.heap.size W0 w1) := hb1; obtain ⟨⟨x0, x1⟩, x2, x3⟩ := hbx.out w1 B1.out; clear hcc) | (go_at_call 7; refine (awake_any _).mono ?_; rintro e w9 ⟨rfl, hb9⟩; have B9 : Hid (Below W0.heap.size W0 w9) := B1.out.trans (hb9.mono B1.out.size)))
    go_ret
    exact ⟨rfl, hE.out _ B9.out⟩
  | true =>
    have hf1 : Hid (fewB LL0 CC0 = true) := hf10
    clear hf10
    cases hf20 : fewB LL1 CC1 with
    | false =>
      have hf2 : Hid (fewB LL1 CC1 = false) := hf20
      clear hf20
      go_wp2_with (first | (go_at_call 6; have hcc := few_any (hTt.out W0 (Below.refl _ _)) (fun b h => h); (with_reducible refine hcc.mono ?_); rintro e w1 ⟨rfl, hb1⟩; rw [hf1.out]; have B1 : Hid (Below W0.heap.size W0 w1) := hb1; obtain ⟨⟨x0, x1⟩, x2, x3⟩ := hbx.out w1 B1.out; clear hcc) | (go_at_call 6; have hcc := few_any (hTu.out w1 B1.out) (fun b h => h); (with_reducible refine hcc.mono ?_); rintro e w2 ⟨rfl, hb2⟩; rw [hf2.out]; have B2 : Hid (Below W0.heap.size W0 w2) := B1.out.trans (hb2.mono B1.out.size); obtain ⟨⟨y0, y1⟩, y2, y3⟩ := hbx.out w2 B2.out; clear hcc) | (go_at_call 7; refine (awake_any _).mono ?_; rintro e w9 ⟨rfl, hb9⟩; have B9 : Hid (Below W0.heap.size W0 w9) := B2.out.trans (hb9.mono B2.out.size)))
      go_ret
      exact ⟨rfl, hE.out _ B9.out⟩
    | true =>
      have hf2 : Hid (fewB LL1 CC1 = true) := hf20
      clear hf20
      by_cases h40 : (40 : Int) < ((n2 : Nat) : Int)
      · go_wp2_with (first | (go_at_call 6; have hcc := few_any (hTt.out W0 (Below.refl _ _)) (fun b h => h); (with_reducible refine hcc.mono ?_); rintro e w1 ⟨rfl, hb1⟩; rw [hf1.out]; have B1 : Hid (Below W0.heap.size W0 w1) := hb1; obtain ⟨⟨x0, x1⟩, x2, x3⟩ := hbx.out w1 B1.out; clear hcc) | (go_at_call 6; have hcc := few_any (hTu.out w1 B1.out) (fun b h => h); (with_reducible refine hcc.mono ?_); rintro e w2 ⟨rfl, hb2⟩; rw [hf2.out]; have B2 : Hid (Below W0.heap.size W0 w2) := B1.out.trans (hb2.mono B1.out.size); obtain ⟨⟨y0, y1⟩, y2, y3⟩ := hbx.out w2 B2.out; clear hcc) | (go_at_call 7; refine (awake_any _).mono ?_; rintro e w9 ⟨rfl, hb9⟩; have B9 : Hid (Below W0.heap.size W0 w9) := B2.out.trans (hb9.mono B2.out.size)))
        go_ret
        exact ⟨rfl, hE.out _ B9.out⟩
      go_upto_region 3 with (first | (go_at_call 6; have hcc := few_any (hTt.out W0 (Below.refl _ _)) (fun b h => h); (with_reducible refine hcc.mono ?_); rintro e w1 ⟨rfl, hb1⟩; rw [hf1.out]; have B1 : Hid (Below W0.heap.size W0 w1) := hb1; obtain ⟨⟨x0, x1⟩, x2, x3⟩ := hbx.out w1 B1.out; clear hcc) | (go_at_call 6; have hcc := few_any (hTu.out w1 B1.out) (fun b h => h); (with_reducible refine hcc.mono ?_); rintro e w2 ⟨rfl, hb2⟩; rw [hf2.out]; have B2 : Hid (Below W0.heap.size W0 w2) := B1.out.trans (hb2.mono B1.out.size); obtain ⟨⟨y0, y1⟩, y2, y3⟩ := hbx.out w2 B2.out; clear hcc))
      have hFV : ∃ fv : Bool, (∀ W, Below W0.heap.size W0 W → Calls Try.prog 8 #[.agg #[.slice ao0 n0 cap0, .slice aoc0 nc0 capc0]] W fun e w' => e = .returned (.bool fv) ∧ Below W.heap.size W w') ∧ (∀ W, Below W0.heap.size W0 W → Calls Try.prog 9 #[.agg #[.slice ao0 n0 cap0, .slice aoc0 nc0 capc0]] W fun e w' => e = .returned (.bool fv) ∧ Below W.heap.size W w') ∧ (fv = true → nc0 = n0 ∧ fitZ (LL0.zip CC0) = true) := by
        by_cases hnn : nc0 = n0
        · subst hnn
          obtain ⟨z1, z2⟩ := zip_maps (LL := LL0) (CC := CC0) (by have h1 := l0.1.1; have h2 := l0.2.1; omega)
          have hTW : ∀ W, Below W0.heap.size W0 W → Tab W ao0 nc0 cap0 aoc0 capc0 (LL0.zip CC0) := fun W hb => by have := hTt.out W hb; unfold Tab; rw [z1, z2]; exact this
          exact ⟨fitZ (LL0.zip CC0), fun W hb => tfit_any (hTW W hb), fun W hb => rtfit_any (hTW W hb), fun h => ⟨rfl, h⟩⟩
        · exact ⟨false, fun W _ => tfit_ne hnn, fun W _ => rtfit_ne hnn, fun h => by cases h⟩
      obtain ⟨fv, hFit0, hRF0, hfv0⟩ := hFV
      have hFit : Hid (∀ W, Below W0.heap.size W0 W → Calls Try.prog 8 #[.agg #[.slice ao0 n0 cap0, .slice aoc0 nc0 capc0]] W fun e w' => e = .returned (.bool fv) ∧ Below W.heap.size W w') := hFit0
      have hRF : Hid (∀ W, Below W0.heap.size W0 W → Calls Try.prog 9 #[.agg #[.slice ao0 n0 cap0, .slice aoc0 nc0 capc0]] W fun e w' => e = .returned (.bool fv) ∧ Below W.heap.size W w') := hRF0
      have hfv : Hid (fv = true → nc0 = n0 ∧ fitZ (LL0.zip CC0) = true) := hfv0
      obtain ⟨sv, hsv⟩ : ∃ sv, Hid (eqT LL0 LL1 CC0 CC1 = sv) := ⟨_, rfl⟩
      have hss : Hid (eqT LL0 LL0 CC0 CC0 = true) := eqT_refl _ _
      clear hFit0 hRF0 hfv0 x0 x1 x2 x3 y0 y1 y2 y3
      go_cut [60] (fun s wc => s = .bool false ∧ Below W0.heap.size W0 wc)
      case first =>
        refine wp_region_held_drew (S := (fun w' => (w'.cell? ⟨w.heap.size, 0, none⟩ = some (.slice ao0 n0 cap0) ∧ w'.cell? ⟨w.heap.size, 1, none⟩ = some (.slice aoc0 nc0 capc0)) ∧ w'.cell? ⟨w.heap.size + 1, 0, none⟩ = some (.slice ao1 n1 cap1) ∧ w'.cell? ⟨w.heap.size + 1, 1, none⟩ = some (.slice aoc1 nc1 capc1))) (by kernel_rfl) (hbx.out w2 B2.out) (fun hH => ?_)
        refine wpAnyH_take (i := 0) (oi := { dst := some 41, op := Op.load 25 (Operand.tmp 4), type := 25, pos := "law.go:28", after := #[], guard := none }) (v := (.agg #[.slice ao0 n0 cap0, .slice aoc0 nc0 capc0])) rfl (by kernel_rfl) (by kernel_rfl) (by kernel_rfl) (fun _ _ _ h => h) (Or.inl ⟨by rfl, fun w hSw => (by obtain ⟨⟨k0, k1⟩, k2, k3⟩ := hSw; go_simp)⟩) hH ?_
        simp only [Act.put, List.setIfInBounds_toArray, List.set_cons_zero, List.set_cons_succ]
        refine wpAnyH_take (i := 2) (oi := { dst := some 43, op := Op.load 25 (Operand.tmp 4), type := 25, pos := "law.go:28", after := #[], guard := none }) (v := (.agg #[.slice ao0 n0 cap0, .slice aoc0 nc0 capc0])) rfl (by kernel_rfl) (by kernel_rfl) (by kernel_rfl) (fun _ _ _ h => h) (Or.inl ⟨by rfl, fun w hSw => (by obtain ⟨⟨k0, k1⟩, k2, k3⟩ := hSw; go_simp)⟩) hH ?_
        simp only [Act.put, List.setIfInBounds_toArray, List.set_cons_zero, List.set_cons_succ]
        refine wpAnyH_ready (rs := [1]) (by kernel_rfl) (by simp) ?_
        refine AllReadyH.cons (o := { dst := some 42, op := Op.call { callee := Callee.value (Operand.func 8), args := #[Operand.tmp 41], argTypes := #[25] }, type := 4, pos := "law.go:28", after := #[{ on := 0, ground := Ground.data }], guard := none }) rfl (fun K hK => ?_) AllReadyH.nil
        go_simp
        refine (hFit.out w2.drew (B2.out.drew)).mono ?_
        rintro e w3 ⟨rfl, hbw3⟩
        have Nw3 : Hid (Below W0.heap.size W0 w3) := Below.trans (B2.out.drew) (hbw3.mono (Below.size (B2.out.drew)))
        have hH3 := hbx.out w3 Nw3.out
        refine hK _ _ hH3 (fun _ => ?_)
        clear hK K
        refine wpAnyH_ready (rs := [3]) (by kernel_rfl) (by simp) ?_
        refine AllReadyH.cons (o := { dst := some 44, op := Op.call { callee := Callee.value (Operand.func 9), args := #[Operand.tmp 43], argTypes := #[25] }, type := 4, pos := "law.go:28", after := #[{ on := 2, ground := Ground.data }, { on := 1, ground := Ground.chain }], guard := none }) rfl (fun K hK => ?_) AllReadyH.nil
        go_simp
        refine (hRF.out w3 Nw3.out).mono ?_
        rintro e w4 ⟨rfl, hbw4⟩
        have Nw4 : Hid (Below W0.heap.size W0 w4) := Below.trans Nw3.out (hbw4.mono (Below.size Nw3.out))
        have hH4 := hbx.out w4 Nw4.out
        refine hK _ _ hH4 (fun _ => ?_)
        clear hK K
        refine wpAnyH_take (i := 4) (oi := { dst := some 45, op := Op.binOp BinOp.neq 4 (Operand.tmp 42) (Operand.tmp 44) 4, type := 4, pos := "law.go:28", after := #[{ on := 1, ground := Ground.data }, { on := 3, ground := Ground.data }], guard := none }) (v := (.bool false)) rfl (by kernel_rfl) (by kernel_rfl) (by kernel_rfl) (fun _ _ _ h => h) (Or.inl ⟨by rfl, fun w hSw => (by go_simp)⟩) hH4 ?_
        simp only [Act.put, List.setIfInBounds_toArray, List.set_cons_zero, List.set_cons_succ]
        refine wpAnyH_take (i := 5) (oi := { dst := some 46, op := Op.move (Operand.tmp 45), type := 4, pos := "law.go:28", after := #[{ on := 4, ground := Ground.data }, { on := 3, ground := Ground.chain }], guard := none }) (v := (.bool false)) rfl (by kernel_rfl) (by kernel_rfl) (by kernel_rfl) (fun _ _ _ h => h) (Or.inl ⟨by rfl, fun w hSw => (by go_simp)⟩) hH4 ?_
        simp only [Act.put, List.setIfInBounds_toArray, List.set_cons_zero, List.set_cons_succ]
        refine wpAnyH_take (i := 6) (oi := { dst := some 47, op := Op.load 25 (Operand.tmp 4), type := 25, pos := "law.go:28", after := #[{ on := 5, ground := Ground.guard }], guard := some (5, false) }) (v := (.agg #[.slice ao0 n0 cap0, .slice aoc0 nc0 capc0])) rfl (by kernel_rfl) (by kernel_rfl) (by kernel_rfl) (fun _ _ _ h => h) (Or.inl ⟨by rfl, fun w hSw => (by obtain ⟨⟨k0, k1⟩, k2, k3⟩ := hSw; go_simp)⟩) hH4 ?_
        simp only [Act.put, List.setIfInBounds_toArray, List.set_cons_zero, List.set_cons_succ]
        refine wpAnyH_take (i := 7) (oi := { dst := some 48, op := Op.load 25 (Operand.tmp 5), type := 25, pos := "law.go:28", after := #[{ on := 5, ground := Ground.guard }], guard := some (5, false) }) (v := (.agg #[.slice ao1 n1 cap1, .slice aoc1 nc1 capc1])) rfl (by kernel_rfl) (by kernel_rfl) (by kernel_rfl) (fun _ _ _ h => h) (Or.inl ⟨by rfl, fun w hSw => (by obtain ⟨⟨k0, k1⟩, k2, k3⟩ := hSw; go_simp)⟩) hH4 ?_
        simp only [Act.put, List.setIfInBounds_toArray, List.set_cons_zero, List.set_cons_succ]
        refine wpAnyH_take (i := 9) (oi := { dst := some 50, op := Op.load 25 (Operand.tmp 4), type := 25, pos := "law.go:28", after := #[{ on := 5, ground := Ground.guard }], guard := some (5, false) }) (v := (.agg #[.slice ao0 n0 cap0, .slice aoc0 nc0 capc0])) rfl (by kernel_rfl) (by kernel_rfl) (by kernel_rfl) (fun _ _ _ h => h) (Or.inl ⟨by rfl, fun w hSw => (by obtain ⟨⟨k0, k1⟩, k2, k3⟩ := hSw; go_simp)⟩) hH4 ?_
        simp only [Act.put, List.setIfInBounds_toArray, List.set_cons_zero, List.set_cons_succ]
        refine wpAnyH_take (i := 10) (oi := { dst := some 51, op := Op.load 25 (Operand.tmp 5), type := 25, pos := "law.go:28", after := #[{ on := 5, ground := Ground.guard }], guard := some (5, false) }) (v := (.agg #[.slice ao1 n1 cap1, .slice aoc1 nc1 capc1])) rfl (by kernel_rfl) (by kernel_rfl) (by kernel_rfl) (fun _ _ _ h => h) (Or.inl ⟨by rfl, fun w hSw => (by obtain ⟨⟨k0, k1⟩, k2, k3⟩ := hSw; go_simp)⟩) hH4 ?_
        simp only [Act.put, List.setIfInBounds_toArray, List.set_cons_zero, List.set_cons_succ]
        refine wpAnyH_ready (rs := [8]) (by kernel_rfl) (by simp) ?_
        refine AllReadyH.cons (o := { dst := some 49, op := Op.call { callee := Callee.value (Operand.func 10), args := #[Operand.tmp 47, Operand.tmp 48], argTypes := #[25, 25] }, type := 4, pos := "law.go:28", after := #[{ on := 6, ground := Ground.data }, { on := 7, ground := Ground.data }, { on := 5, ground := Ground.chain }, { on := 5, ground := Ground.guard }], guard := some (5, false) }) rfl (fun K hK => ?_) AllReadyH.nil
        go_simp
        refine (tsame_any (hTt.out w4 Nw4.out) (hTu.out w4 Nw4.out) (fun b h => h) (fun b h => h)).mono ?_
        rintro e w5 ⟨rfl, hbw5⟩
        rw [hsv.out]
        have Nw5 : Hid (Below W0.heap.size W0 w5) := Below.trans Nw4.out (hbw5.mono (Below.size Nw4.out))
        have hH5 := hbx.out w5 Nw5.out
        refine hK _ _ hH5 (fun _ => ?_)
        clear hK K
        refine wpAnyH_ready (rs := [11]) (by kernel_rfl) (by simp) ?_
        refine AllReadyH.cons (o := { dst := some 52, op := Op.call { callee := Callee.value (Operand.func 11), args := #[Operand.tmp 50, Operand.tmp 51], argTypes := #[25, 25] }, type := 4, pos := "law.go:28", after := #[{ on := 9, ground := Ground.data }, { on := 10, ground := Ground.data }, { on := 8, ground := Ground.chain }, { on := 5, ground := Ground.guard }], guard := some (5, false) }) rfl (fun K hK => ?_) AllReadyH.nil
        go_simp
        refine (rtsame_any (hTt.out w5 Nw5.out) (hTu.out w5 Nw5.out) (fun b h => h) (fun b h => h)).mono ?_
        rintro e w6 ⟨rfl, hbw6⟩
        rw [hsv.out]
        have Nw6 : Hid (Below W0.heap.size W0 w6) := Below.trans Nw5.out (hbw6.mono (Below.size Nw5.out))
        have hH6 := hbx.out w6 Nw6.out
        refine hK _ _ hH6 (fun _ => ?_)
        clear hK K
        refine wpAnyH_take (i := 12) (oi := { dst := some 53, op := Op.binOp BinOp.neq 4 (Operand.tmp 49) (Operand.tmp 52) 4, type := 4, pos := "law.go:28", after := #[{ on := 8, ground := Ground.data }, { on := 11, ground := Ground.data }, { on := 5, ground := Ground.guard }], guard := some (5, false) }) (v := (.bool false)) rfl (by kernel_rfl) (by kernel_rfl) (by kernel_rfl) (fun _ _ _ h => h) (Or.inl ⟨by rfl, fun w hSw => (by go_simp)⟩) hH6 ?_
        simp only [Act.put, List.setIfInBounds_toArray, List.set_cons_zero, List.set_cons_succ]
        refine wpAnyH_take (i := 13) (oi := { dst := some 54, op := Op.pick (Operand.tmp 46) (Operand.const (Value.bool true)) (Operand.tmp 53), type := 4, pos := "law.go:28", after := #[{ on := 5, ground := Ground.data }, { on := 12, ground := Ground.data }], guard := none }) (v := (.bool false)) rfl (by kernel_rfl) (by kernel_rfl) (by kernel_rfl) (fun _ _ _ h => h) (Or.inl ⟨by rfl, fun w hSw => (by go_simp)⟩) hH6 ?_
        simp only [Act.put, List.setIfInBounds_toArray, List.set_cons_zero, List.set_cons_succ]
        refine wpAnyH_take (i := 14) (oi := { dst := some 55, op := Op.move (Operand.tmp 54), type := 4, pos := "law.go:28", after := #[{ on := 13, ground := Ground.data }, { on := 11, ground := Ground.chain }], guard := none }) (v := (.bool false)) rfl (by kernel_rfl) (by kernel_rfl) (by kernel_rfl) (fun _ _ _ h => h) (Or.inl ⟨by rfl, fun w hSw => (by go_simp)⟩) hH6 ?_
        simp only [Act.put, List.setIfInBounds_toArray, List.set_cons_zero, List.set_cons_succ]
        refine wpAnyH_take (i := 15) (oi := { dst := some 56, op := Op.load 25 (Operand.tmp 4), type := 25, pos := "law.go:28", after := #[{ on := 14, ground := Ground.guard }], guard := some (14, false) }) (v := (.agg #[.slice ao0 n0 cap0, .slice aoc0 nc0 capc0])) rfl (by kernel_rfl) (by kernel_rfl) (by kernel_rfl) (fun _ _ _ h => h) (Or.inl ⟨by rfl, fun w hSw => (by obtain ⟨⟨k0, k1⟩, k2, k3⟩ := hSw; go_simp)⟩) hH6 ?_
        simp only [Act.put, List.setIfInBounds_toArray, List.set_cons_zero, List.set_cons_succ]
        refine wpAnyH_take (i := 16) (oi := { dst := some 57, op := Op.load 25 (Operand.tmp 4), type := 25, pos := "law.go:28", after := #[{ on := 14, ground := Ground.guard }], guard := some (14, false) }) (v := (.agg #[.slice ao0 n0 cap0, .slice aoc0 nc0 capc0])) rfl (by kernel_rfl) (by kernel_rfl) (by kernel_rfl) (fun _ _ _ h => h) (Or.inl ⟨by rfl, fun w hSw => (by obtain ⟨⟨k0, k1⟩, k2, k3⟩ := hSw; go_simp)⟩) hH6 ?_
        simp only [Act.put, List.setIfInBounds_toArray, List.set_cons_zero, List.set_cons_succ]
        refine wpAnyH_ready (rs := [17]) (by kernel_rfl) (by simp) ?_
        refine AllReadyH.cons (o := { dst := some 58, op := Op.call { callee := Callee.value (Operand.func 10), args := #[Operand.tmp 56, Operand.tmp 57], argTypes := #[25, 25] }, type := 4, pos := "law.go:28", after := #[{ on := 15, ground := Ground.data }, { on := 16, ground := Ground.data }, { on := 14, ground := Ground.chain }, { on := 14, ground := Ground.guard }], guard := some (14, false) }) rfl (fun K hK => ?_) AllReadyH.nil
        go_simp
        refine (tsame_any (hTt.out w6 Nw6.out) (hTt.out w6 Nw6.out) (fun b h => h) (fun b h => h)).mono ?_
        rintro e w7 ⟨rfl, hbw7⟩
        rw [hss.out]
        have Nw7 : Hid (Below W0.heap.size W0 w7) := Below.trans Nw6.out (hbw7.mono (Below.size Nw6.out))
        have hH7 := hbx.out w7 Nw7.out
        refine hK _ _ hH7 (fun _ => ?_)
        clear hK K
        refine wpAnyH_take (i := 18) (oi := { dst := some 59, op := Op.unOp UnOp.not 4 (Operand.tmp 58), type := 4, pos := "law.go:28", after := #[{ on := 17, ground := Ground.data }, { on := 14, ground := Ground.guard }], guard := some (14, false) }) (v := (.bool false)) rfl (by kernel_rfl) (by kernel_rfl) (by kernel_rfl) (fun _ _ _ h => h) (Or.inl ⟨by rfl, fun w hSw => (by go_simp)⟩) hH7 ?_
        simp only [Act.put, List.setIfInBounds_toArray, List.set_cons_zero, List.set_cons_succ]
        refine wpAnyH_take (i := 19) (oi := { dst := some 60, op := Op.pick (Operand.tmp 55) (Operand.const (Value.bool true)) (Operand.tmp 59), type := 4, pos := "law.go:28", after := #[{ on := 14, ground := Ground.data }, { on := 18, ground := Ground.data }], guard := none }) (v := (.bool false)) rfl (by kernel_rfl) (by kernel_rfl) (by kernel_rfl) (fun _ _ _ h => h) (Or.inl ⟨by rfl, fun w hSw => (by go_simp)⟩) hH7 ?_
        simp only [Act.put, List.setIfInBounds_toArray, List.set_cons_zero, List.set_cons_succ]
        refine wpAnyH_done (by kernel_rfl) ?_ _
        go_wp2
        go_meet
        exact ⟨rfl, Nw7.out⟩
      case rest =>
        obtain ⟨rfl, hcW⟩ := hcut
        have CW : Hid (Below W0.heap.size W0 wc) := hcW
        obtain ⟨⟨y0, y1⟩, y2, y3⟩ := hbx.out wc CW.out
        clear hcW
        cases fv with
        | false =>
          go_wp2_with (first | (go_at_call 9; refine (hRF.out wc CW.out).mono ?_; rintro e w8 ⟨rfl, hb8⟩; have B8 : Hid (Below W0.heap.size W0 w8) := CW.out.trans (hb8.mono CW.out.size)) | (go_at_call 7; refine (awake_any _).mono ?_; rintro e w9 ⟨rfl, hb9⟩; have B9 : Hid (Below W0.heap.size W0 w9) := B8.out.trans (hb9.mono B8.out.size)))
          go_ret
          exact ⟨rfl, hE.out _ B9.out⟩
        | true =>
          obtain ⟨rfl, hfz⟩ := hfv.out rfl
          obtain ⟨z1, z2⟩ := zip_maps (LL := LL0) (CC := CC0) (by have h1 := l0.1.1; have h2 := l0.2.1; omega)
          obtain ⟨Z, hZ⟩ : ∃ Z : Zt, Hid (LL0.zip CC0 = Z) := ⟨_, rfl⟩
          rw [hZ.out] at z1 z2 hfz
          have HF : Hid (FitP Z) := fitZ_iff.1 hfz
          have hTW : Hid (∀ W, Below W0.heap.size W0 W → Tab W ao0 nc0 cap0 aoc0 capc0 Z) := fun W hb => by have := hTt.out W hb; unfold Tab; rw [z1, z2]; exact this
          have hfew : Hid (∀ i, (zat Z i).1.length ≤ 16) := fit_few HF.out
          have HFA : Hid (fitZ (addR Z L2).1 = true) := fitZ_iff.2 (fit_add HF.out)
          have HFD : Hid (fitZ (dropR Z a3).1 = true) := fitZ_iff.2 (fit_drop HF.out)
          obtain ⟨ZA, hZA⟩ : ∃ ZA, Hid ((addR Z L2).1 = ZA) := ⟨_, rfl⟩
          obtain ⟨pn, hpn⟩ : ∃ pn, Hid ((addR Z L2).2.1 = pn) := ⟨_, rfl⟩
          obtain ⟨pe, hpe⟩ : ∃ pe, Hid ((addR Z L2).2.2 = pe) := ⟨_, rfl⟩
          obtain ⟨ZD, hZD⟩ : ∃ ZD, Hid ((dropR Z a3).1 = ZD) := ⟨_, rfl⟩
          obtain ⟨de, hde⟩ : ∃ de, Hid ((dropR Z a3).2 = de) := ⟨_, rfl⟩
          obtain ⟨LG, hLG⟩ : ∃ LG, Hid ((getR Z a3).1 = LG) := ⟨_, rfl⟩
          obtain ⟨ge, hge⟩ : ∃ ge, Hid ((getR Z a3).2 = ge) := ⟨_, rfl⟩
          obtain ⟨qn, hqn⟩ : ∃ qn, Hid (fN Z L2 = qn) := ⟨_, rfl⟩
          obtain ⟨qb, hqb⟩ : ∃ qb, Hid (fF Z L2 = qb) := ⟨_, rfl⟩
          obtain ⟨us, hus⟩ : ∃ us, Hid (usd Z = us) := ⟨_, rfl⟩
          rw [hZA.out] at HFA
          rw [hZD.out] at HFD
          have hn2 : n2 ≤ 65536 := by omega
          clear hfz z1 z2 hfv
          go_upto_region 7 with (go_at_call 9; refine (hRF.out wc CW.out).mono ?_; rintro e w8 ⟨rfl, hb8⟩; have B8 : Hid (Below W0.heap.size W0 w8) := CW.out.trans (hb8.mono CW.out.size))
          clear y0 y1 y2 y3
          obtain ⟨⟨y0, y1⟩, y2, y3⟩ := hbx.out w8 B8.out
          go_upto_region 8 with (go_at_call 12; refine (tadd_any (hTW.out w8 B8.out) HF.out (hLW.out w8 B8.out) hn2).mono ?_; rintro e wA ⟨aA, nA, cA, aA', cA', rfl, hTA, hbA⟩; rw [hpn.out, hpe.out]; rw [hZA.out] at hTA; have BA : Hid (Below W0.heap.size W0 wA) := B8.out.trans (hbA.mono B8.out.size))
          clear y0 y1 y2 y3
          have hXA : Below wA.heap.size wA (wA.alloc (.cells #[.slice aA nA cA, .slice aA' nA cA'] 25)) := (Below.refl _ _).alloc (Nat.le_refl _) _
          have tA := Two.new wA 25 (.slice aA nA cA) (.slice aA' nA cA')
          have TA := hTA.next hXA
          obtain ⟨VA, hVA⟩ : ∃ V, Hid (wA.alloc (.cells #[.slice aA nA cA, .slice aA' nA cA'] 25) = V) := ⟨_, rfl⟩
          rw [hVA.out] at hXA tA TA ⊢
          have EA : Hid (Below W0.heap.size W0 VA) := BA.out.trans (hXA.mono BA.out.size)
          clear hVA hTA
          obtain ⟨⟨y0, y1⟩, y2, y3⟩ := hbx.out VA EA.out
          go_upto_region 9 with (go_at_call 13; refine (rtadd_any (hTW.out VA EA.out) HF.out (hLW.out VA EA.out)).mono ?_; rintro e wB ⟨aB, nB, cB, aB', cB', rfl, hTB, hbB⟩; rw [hpn.out, hpe.out]; rw [hZA.out] at hTB; have BB : Hid (Below W0.heap.size W0 wB) := EA.out.trans (hbB.mono EA.out.size))
          clear y0 y1 y2 y3
          have hXB : Below wB.heap.size wB (wB.alloc (.cells #[.slice aB nB cB, .slice aB' nB cB'] 25)) := (Below.refl _ _).alloc (Nat.le_refl _) _
          have tB := Two.new wB 25 (.slice aB nB cB) (.slice aB' nB cB')
          have TB := hTB.next hXB
          obtain ⟨VB, hVB⟩ : ∃ V, Hid (wB.alloc (.cells #[.slice aB nB cB, .slice aB' nB cB'] 25) = V) := ⟨_, rfl⟩
          rw [hVB.out] at hXB tB TB ⊢
          have EB : Hid (Below W0.heap.size W0 VB) := BB.out.trans (hXB.mono BB.out.size)
          clear hVB hTB
          obtain ⟨⟨y0, y1⟩, y2, y3⟩ := hbx.out VB EB.out
          go_upto_region 10 with (go_at_call 14; refine (tdrop_any a3 (hTW.out VB EB.out) HF.out).mono ?_; rintro e wC ⟨aC, nC, cC, aC', cC', rfl, hTC, hbC⟩; rw [hde.out]; rw [hZD.out] at hTC; have BC : Hid (Below W0.heap.size W0 wC) := EB.out.trans (hbC.mono EB.out.size))
          clear y0 y1 y2 y3
          have hXC : Below wC.heap.size wC (wC.alloc (.cells #[.slice aC nC cC, .slice aC' nC cC'] 25)) := (Below.refl _ _).alloc (Nat.le_refl _) _
          have tC := Two.new wC 25 (.slice aC nC cC) (.slice aC' nC cC')
          have TC := hTC.next hXC
          obtain ⟨VC, hVC⟩ : ∃ V, Hid (wC.alloc (.cells #[.slice aC nC cC, .slice aC' nC cC'] 25) = V) := ⟨_, rfl⟩
          rw [hVC.out] at hXC tC TC ⊢
          have EC : Hid (Below W0.heap.size W0 VC) := BC.out.trans (hXC.mono BC.out.size)
          clear hVC hTC
          obtain ⟨⟨y0, y1⟩, y2, y3⟩ := hbx.out VC EC.out
          go_upto_region 11 with (go_at_call 15; refine (rtdrop_any a3 (hTW.out VC EC.out) HF.out).mono ?_; rintro e wD ⟨aD, nD, cD, aD', cD', rfl, hTD, hbD⟩; rw [hde.out]; rw [hZD.out] at hTD; have BD : Hid (Below W0.heap.size W0 wD) := EC.out.trans (hbD.mono EC.out.size))
          clear y0 y1 y2 y3
          have hXD : Below wD.heap.size wD (wD.alloc (.cells #[.slice aD nD cD, .slice aD' nD cD'] 25)) := (Below.refl _ _).alloc (Nat.le_refl _) _
          have tD := Two.new wD 25 (.slice aD nD cD) (.slice aD' nD cD')
          have TD := hTD.next hXD
          obtain ⟨VD, hVD⟩ : ∃ V, Hid (wD.alloc (.cells #[.slice aD nD cD, .slice aD' nD cD'] 25) = V) := ⟨_, rfl⟩
          rw [hVD.out] at hXD tD TD ⊢
          have ED : Hid (Below W0.heap.size W0 VD) := BD.out.trans (hXD.mono BD.out.size)
          clear hVD hTD
          obtain ⟨⟨y0, y1⟩, y2, y3⟩ := hbx.out VD ED.out
          go_upto_region 12 with (go_at_call 16; refine (tget_any a3 (hTW.out VD ED.out) hfew.out).mono ?_; rintro e wX ⟨aX, kX, cX, rfl, hLX, hbX⟩; rw [hge.out]; rw [hLG.out] at hLX; have BX : Hid (Below W0.heap.size W0 wX) := ED.out.trans (hbX.mono ED.out.size))
          clear y0 y1 y2 y3
          obtain ⟨⟨y0, y1⟩, y2, y3⟩ := hbx.out wX BX.out
          go_upto_region 13 with (go_at_call 17; refine (rtget_any a3 (hTW.out wX BX.out)).mono ?_; rintro e wY ⟨aY, kY, cY, rfl, hLY, hbY⟩; rw [hge.out]; rw [hLG.out] at hLY; have BY : Hid (Below W0.heap.size W0 wY) := BX.out.trans (hbY.mono BX.out.size))
          clear y0 y1 y2 y3
          obtain ⟨⟨y0, y1⟩, y2, y3⟩ := hbx.out wY BY.out
          go_upto_region 14 with (go_at_call 18; refine (find_any (hTW.out wY BY.out) (hLW.out wY BY.out)).mono ?_; rintro e wP ⟨rfl, hbP⟩; rw [hqn.out, hqb.out]; have BP : Hid (Below W0.heap.size W0 wP) := BY.out.trans (hbP.mono BY.out.size))
          clear y0 y1 y2 y3
          obtain ⟨⟨y0, y1⟩, y2, y3⟩ := hbx.out wP BP.out
          go_upto_region 15 with (go_at_call 19; refine (rfind_any (hTW.out wP BP.out) (hLW.out wP BP.out)).mono ?_; rintro e wQ ⟨rfl, hbQ⟩; rw [hqn.out, hqb.out]; have BQ : Hid (Below W0.heap.size W0 wQ) := BP.out.trans (hbQ.mono BP.out.size))
          clear y0 y1 y2 y3
          have FX : Below wX.heap.size wX wQ := (hbY.trans (hbP.mono hbY.size)).trans (hbQ.mono (Nat.le_trans hbY.size hbP.size))
          have FY : Below wY.heap.size wY wQ := hbP.trans (hbQ.mono hbP.size)
          have FD : Below VD.heap.size VD wQ := hbX.trans (FX.mono hbX.size)
          have gD : Below VC.heap.size VC VD := hbD.trans (hXD.mono hbD.size)
          have FC : Below VC.heap.size VC wQ := gD.trans (FD.mono gD.size)
          have gC : Below VB.heap.size VB VC := hbC.trans (hXC.mono hbC.size)
          have FB : Below VB.heap.size VB wQ := gC.trans (FC.mono gC.size)
          have gB : Below VA.heap.size VA VB := hbB.trans (hXB.mono hbB.size)
          have FA : Below VA.heap.size VA wQ := gB.trans (FB.mono gB.size)
          have qA := (FA.block _ tA.lt).trans tA
          have qB := (FB.block _ tB.lt).trans tB
          have qC := (FC.block _ tC.lt).trans tC
          have qD := (FD.block _ tD.lt).trans tD
          have hcl : Hid (∀ W, Below wQ.heap.size wQ W → (W.cell? ⟨wA.heap.size, 0, none⟩ = some (.slice aA nA cA) ∧ W.cell? ⟨wA.heap.size, 1, none⟩ = some (.slice aA' nA cA')) ∧ (W.cell? ⟨wB.heap.size, 0, none⟩ = some (.slice aB nB cB) ∧ W.cell? ⟨wB.heap.size, 1, none⟩ = some (.slice aB' nB cB')) ∧ (W.cell? ⟨wC.heap.size, 0, none⟩ = some (.slice aC nC cC) ∧ W.cell? ⟨wC.heap.size, 1, none⟩ = some (.slice aC' nC cC')) ∧ (W.cell? ⟨wD.heap.size, 0, none⟩ = some (.slice aD nD cD) ∧ W.cell? ⟨wD.heap.size, 1, none⟩ = some (.slice aD' nD cD')) ∧ (W.cell? ⟨w.heap.size, 0, none⟩ = some (.slice ao0 nc0 cap0) ∧ W.cell? ⟨w.heap.size, 1, none⟩ = some (.slice aoc0 nc0 capc0))) := fun W hb => by
            have uA := Two.kept qA (below_grown hb) (by simp)
            have uB := Two.kept qB (below_grown hb) (by simp)
            have uC := Two.kept qC (below_grown hb) (by simp)
            have uD := Two.kept qD (below_grown hb) (by simp)
            obtain ⟨⟨h1, h2⟩, _, _⟩ := hbx.out W (BQ.out.trans (hb.mono BQ.out.size))
            exact ⟨⟨uA.cell0, uA.cell1⟩, ⟨uB.cell0, uB.cell1⟩, ⟨uC.cell0, uC.cell1⟩, ⟨uD.cell0, uD.cell1⟩, h1, h2⟩
          have kA : Hid (∀ W, Below wQ.heap.size wQ W → Tab W aA nA cA aA' cA' ZA) := fun W hb => ((TA.next FA).next hb).tab
          have kB : Hid (∀ W, Below wQ.heap.size wQ W → Tab W aB nB cB aB' cB' ZA) := fun W hb => (TB.next FB).next hb
          have kC : Hid (∀ W, Below wQ.heap.size wQ W → Tab W aC nC cC aC' cC' ZD) := fun W hb => ((TC.next FC).next hb).tab
          have kD : Hid (∀ W, Below wQ.heap.size wQ W → Tab W aD nD cD aD' cD' ZD) := fun W hb => (TD.next FD).next hb
          have fX : Hid (∀ W, Below wQ.heap.size wQ W → Lab W.heap.size W aX kX cX LG) := fun W hb => (hLX.next FX).next hb
          have fY : Hid (∀ W, Below wQ.heap.size wQ W → Lab W.heap.size W aY kY cY LG) := fun W hb => (hLY.next FY).next hb
          have kT : Hid (∀ W, Below wQ.heap.size wQ W → Tab W ao0 nc0 cap0 aoc0 capc0 Z) := fun W hb => hTW.out W (BQ.out.trans (hb.mono BQ.out.size))
          clear qA qB qC qD FA FB FC FX FY gB gC gD tA tB tC tD TA TB TC TD hLX hLY
          refine wp_region_held_drew (S := (fun w' => (w'.cell? ⟨wA.heap.size, 0, none⟩ = some (.slice aA nA cA) ∧ w'.cell? ⟨wA.heap.size, 1, none⟩ = some (.slice aA' nA cA')) ∧ (w'.cell? ⟨wB.heap.size, 0, none⟩ = some (.slice aB nB cB) ∧ w'.cell? ⟨wB.heap.size, 1, none⟩ = some (.slice aB' nB cB')) ∧ (w'.cell? ⟨wC.heap.size, 0, none⟩ = some (.slice aC nC cC) ∧ w'.cell? ⟨wC.heap.size, 1, none⟩ = some (.slice aC' nC cC')) ∧ (w'.cell? ⟨wD.heap.size, 0, none⟩ = some (.slice aD nD cD) ∧ w'.cell? ⟨wD.heap.size, 1, none⟩ = some (.slice aD' nD cD')) ∧ (w'.cell? ⟨w.heap.size, 0, none⟩ = some (.slice ao0 nc0 cap0) ∧ w'.cell? ⟨w.heap.size, 1, none⟩ = some (.slice aoc0 nc0 capc0)))) (by kernel_rfl) (hcl.out wQ (Below.refl _ _)) (fun hH => ?_)
          refine wpAnyH_take (i := 0) (oi := { dst := some 115, op := Op.load 25 (Operand.tmp 9), type := 25, pos := "law.go:42", after := #[], guard := none }) (v := (.agg #[.slice aA nA cA, .slice aA' nA cA'])) rfl (by kernel_rfl) (by kernel_rfl) (by kernel_rfl) (fun _ _ _ h => h) (Or.inl ⟨by rfl, fun w hSw => (by obtain ⟨⟨k0, k1⟩, ⟨k2, k3⟩, ⟨k4, k5⟩, ⟨k6, k7⟩, k8, k9⟩ := hSw; go_simp)⟩) hH ?_
          simp only [Act.put, List.setIfInBounds_toArray, List.set_cons_zero, List.set_cons_succ]
          refine wpAnyH_take (i := 1) (oi := { dst := some 116, op := Op.load 25 (Operand.tmp 12), type := 25, pos := "law.go:42", after := #[], guard := none }) (v := (.agg #[.slice aB nB cB, .slice aB' nB cB'])) rfl (by kernel_rfl) (by kernel_rfl) (by kernel_rfl) (fun _ _ _ h => h) (Or.inl ⟨by rfl, fun w hSw => (by obtain ⟨⟨k0, k1⟩, ⟨k2, k3⟩, ⟨k4, k5⟩, ⟨k6, k7⟩, k8, k9⟩ := hSw; go_simp)⟩) hH ?_
          simp only [Act.put, List.setIfInBounds_toArray, List.set_cons_zero, List.set_cons_succ]
          refine wpAnyH_ready (rs := [2]) (by kernel_rfl) (by simp) ?_
          refine AllReadyH.cons (o := { dst := some 117, op := Op.call { callee := Callee.value (Operand.func 11), args := #[Operand.tmp 115, Operand.tmp 116], argTypes := #[25, 25] }, type := 4, pos := "law.go:42", after := #[{ on := 0, ground := Ground.data }, { on := 1, ground := Ground.data }], guard := none }) rfl (fun K hK => ?_) AllReadyH.nil
          go_simp
          refine (rtsame_any (kA.out wQ.drew ((Below.refl wQ.heap.size wQ).drew)) (kB.out wQ.drew ((Below.refl wQ.heap.size wQ).drew)) (fun b h => h) (fun b h => h)).mono ?_
          rintro e v1 ⟨rfl, hbv1⟩
          rw [eqT_refl]
          have Nv1 : Hid (Below wQ.heap.size wQ v1) := Below.trans ((Below.refl wQ.heap.size wQ).drew) (hbv1.mono (Below.size ((Below.refl wQ.heap.size wQ).drew)))
          have hH1 := hcl.out v1 Nv1.out
          refine hK _ _ hH1 (fun _ => ?_)
          clear hK K
          refine wpAnyH_take (i := 3) (oi := { dst := some 118, op := Op.move (Operand.tmp 117), type := 4, pos := "law.go:42", after := #[{ on := 2, ground := Ground.data }, { on := 2, ground := Ground.chain }], guard := none }) (v := (.bool true)) rfl (by kernel_rfl) (by kernel_rfl) (by kernel_rfl) (fun _ _ _ h => h) (Or.inl ⟨by rfl, fun w hSw => (by go_simp)⟩) hH1 ?_
          simp only [Act.put, List.setIfInBounds_toArray, List.set_cons_zero, List.set_cons_succ]
          refine wpAnyH_take (i := 4) (oi := { dst := some 119, op := Op.move (Operand.tmp 10), type := 3, pos := "law.go:42", after := #[{ on := 3, ground := Ground.guard }], guard := some (3, true) }) (v := (.int .i64 pn)) rfl (by kernel_rfl) (by kernel_rfl) (by kernel_rfl) (fun _ _ _ h => h) (Or.inl ⟨by rfl, fun w hSw => (by go_simp)⟩) hH1 ?_
          simp only [Act.put, List.setIfInBounds_toArray, List.set_cons_zero, List.set_cons_succ]
          refine wpAnyH_take (i := 5) (oi := { dst := some 120, op := Op.move (Operand.tmp 13), type := 3, pos := "law.go:42", after := #[{ on := 3, ground := Ground.guard }], guard := some (3, true) }) (v := (.int .i64 pn)) rfl (by kernel_rfl) (by kernel_rfl) (by kernel_rfl) (fun _ _ _ h => h) (Or.inl ⟨by rfl, fun w hSw => (by go_simp)⟩) hH1 ?_
          simp only [Act.put, List.setIfInBounds_toArray, List.set_cons_zero, List.set_cons_succ]
          refine wpAnyH_take (i := 6) (oi := { dst := some 121, op := Op.binOp BinOp.eql 3 (Operand.tmp 119) (Operand.tmp 120) 3, type := 4, pos := "law.go:42", after := #[{ on := 4, ground := Ground.data }, { on := 5, ground := Ground.data }, { on := 3, ground := Ground.guard }], guard := some (3, true) }) (v := (.bool true)) rfl (by kernel_rfl) (by kernel_rfl) (by kernel_rfl) (fun _ _ _ h => h) (Or.inl ⟨by rfl, fun w hSw => (by go_simp)⟩) hH1 ?_
          simp only [Act.put, List.setIfInBounds_toArray, List.set_cons_zero, List.set_cons_succ]
          refine wpAnyH_take (i := 7) (oi := { dst := some 122, op := Op.pick (Operand.tmp 118) (Operand.tmp 121) (Operand.const (Value.bool false)), type := 4, pos := "law.go:42", after := #[{ on := 3, ground := Ground.data }, { on := 6, ground := Ground.data }], guard := none }) (v := (.bool true)) rfl (by kernel_rfl) (by kernel_rfl) (by kernel_rfl) (fun _ _ _ h => h) (Or.inl ⟨by rfl, fun w hSw => (by go_simp)⟩) hH1 ?_
          simp only [Act.put, List.setIfInBounds_toArray, List.set_cons_zero, List.set_cons_succ]
          refine wpAnyH_take (i := 8) (oi := { dst := some 123, op := Op.move (Operand.tmp 122), type := 4, pos := "law.go:42", after := #[{ on := 7, ground := Ground.data }, { on := 3, ground := Ground.chain }], guard := none }) (v := (.bool true)) rfl (by kernel_rfl) (by kernel_rfl) (by kernel_rfl) (fun _ _ _ h => h) (Or.inl ⟨by rfl, fun w hSw => (by go_simp)⟩) hH1 ?_
          simp only [Act.put, List.setIfInBounds_toArray, List.set_cons_zero, List.set_cons_succ]
          refine wpAnyH_take (i := 9) (oi := { dst := some 124, op := Op.move (Operand.tmp 11), type := 31, pos := "law.go:42", after := #[{ on := 8, ground := Ground.guard }], guard := some (8, true) }) (v := (.int .i64 pe)) rfl (by kernel_rfl) (by kernel_rfl) (by kernel_rfl) (fun _ _ _ h => h) (Or.inl ⟨by rfl, fun w hSw => (by go_simp)⟩) hH1 ?_
          simp only [Act.put, List.setIfInBounds_toArray, List.set_cons_zero, List.set_cons_succ]
          refine wpAnyH_take (i := 10) (oi := { dst := some 125, op := Op.move (Operand.tmp 14), type := 3, pos := "law.go:42", after := #[{ on := 8, ground := Ground.guard }], guard := some (8, true) }) (v := (.int .i64 pe)) rfl (by kernel_rfl) (by kernel_rfl) (by kernel_rfl) (fun _ _ _ h => h) (Or.inl ⟨by rfl, fun w hSw => (by go_simp)⟩) hH1 ?_
          simp only [Act.put, List.setIfInBounds_toArray, List.set_cons_zero, List.set_cons_succ]
          refine wpAnyH_take (i := 11) (oi := { dst := some 126, op := Op.binOp BinOp.eql 3 (Operand.tmp 124) (Operand.tmp 125) 3, type := 4, pos := "law.go:42", after := #[{ on := 9, ground := Ground.data }, { on := 10, ground := Ground.data }, { on := 8, ground := Ground.guard }], guard := some (8, true) }) (v := (.bool true)) rfl (by kernel_rfl) (by kernel_rfl) (by kernel_rfl) (fun _ _ _ h => h) (Or.inl ⟨by rfl, fun w hSw => (by go_simp)⟩) hH1 ?_
          simp only [Act.put, List.setIfInBounds_toArray, List.set_cons_zero, List.set_cons_succ]
          refine wpAnyH_take (i := 12) (oi := { dst := some 127, op := Op.pick (Operand.tmp 123) (Operand.tmp 126) (Operand.const (Value.bool false)), type := 4, pos := "law.go:42", after := #[{ on := 8, ground := Ground.data }, { on := 11, ground := Ground.data }], guard := none }) (v := (.bool true)) rfl (by kernel_rfl) (by kernel_rfl) (by kernel_rfl) (fun _ _ _ h => h) (Or.inl ⟨by rfl, fun w hSw => (by go_simp)⟩) hH1 ?_
          simp only [Act.put, List.setIfInBounds_toArray, List.set_cons_zero, List.set_cons_succ]
          refine wpAnyH_take (i := 13) (oi := { dst := some 128, op := Op.move (Operand.tmp 127), type := 4, pos := "law.go:42", after := #[{ on := 12, ground := Ground.data }, { on := 8, ground := Ground.chain }], guard := none }) (v := (.bool true)) rfl (by kernel_rfl) (by kernel_rfl) (by kernel_rfl) (fun _ _ _ h => h) (Or.inl ⟨by rfl, fun w hSw => (by go_simp)⟩) hH1 ?_
          simp only [Act.put, List.setIfInBounds_toArray, List.set_cons_zero, List.set_cons_succ]
          refine wpAnyH_take (i := 14) (oi := { dst := some 129, op := Op.load 25 (Operand.tmp 15), type := 25, pos := "law.go:42", after := #[{ on := 13, ground := Ground.guard }], guard := some (13, true) }) (v := (.agg #[.slice aC nC cC, .slice aC' nC cC'])) rfl (by kernel_rfl) (by kernel_rfl) (by kernel_rfl) (fun _ _ _ h => h) (Or.inl ⟨by rfl, fun w hSw => (by obtain ⟨⟨k0, k1⟩, ⟨k2, k3⟩, ⟨k4, k5⟩, ⟨k6, k7⟩, k8, k9⟩ := hSw; go_simp)⟩) hH1 ?_
          simp only [Act.put, List.setIfInBounds_toArray, List.set_cons_zero, List.set_cons_succ]
          refine wpAnyH_take (i := 15) (oi := { dst := some 130, op := Op.load 25 (Operand.tmp 17), type := 25, pos := "law.go:42", after := #[{ on := 13, ground := Ground.guard }], guard := some (13, true) }) (v := (.agg #[.slice aD nD cD, .slice aD' nD cD'])) rfl (by kernel_rfl) (by kernel_rfl) (by kernel_rfl) (fun _ _ _ h => h) (Or.inl ⟨by rfl, fun w hSw => (by obtain ⟨⟨k0, k1⟩, ⟨k2, k3⟩, ⟨k4, k5⟩, ⟨k6, k7⟩, k8, k9⟩ := hSw; go_simp)⟩) hH1 ?_
          simp only [Act.put, List.setIfInBounds_toArray, List.set_cons_zero, List.set_cons_succ]
          refine wpAnyH_ready (rs := [16]) (by kernel_rfl) (by simp) ?_
          refine AllReadyH.cons (o := { dst := some 131, op := Op.call { callee := Callee.value (Operand.func 11), args := #[Operand.tmp 129, Operand.tmp 130], argTypes := #[25, 25] }, type := 4, pos := "law.go:42", after := #[{ on := 14, ground := Ground.data }, { on := 15, ground := Ground.data }, { on := 13, ground := Ground.chain }, { on := 13, ground := Ground.guard }], guard := some (13, true) }) rfl (fun K hK => ?_) AllReadyH.nil
          go_simp
          refine (rtsame_any (kC.out v1 Nv1.out) (kD.out v1 Nv1.out) (fun b h => h) (fun b h => h)).mono ?_
          rintro e v2 ⟨rfl, hbv2⟩
          rw [eqT_refl]
          have Nv2 : Hid (Below wQ.heap.size wQ v2) := Below.trans Nv1.out (hbv2.mono (Below.size Nv1.out))
          have hH2 := hcl.out v2 Nv2.out
          refine hK _ _ hH2 (fun _ => ?_)
          clear hK K
          refine wpAnyH_take (i := 17) (oi := { dst := some 132, op := Op.pick (Operand.tmp 128) (Operand.tmp 131) (Operand.const (Value.bool false)), type := 4, pos := "law.go:42", after := #[{ on := 13, ground := Ground.data }, { on := 16, ground := Ground.data }], guard := none }) (v := (.bool true)) rfl (by kernel_rfl) (by kernel_rfl) (by kernel_rfl) (fun _ _ _ h => h) (Or.inl ⟨by rfl, fun w hSw => (by go_simp)⟩) hH2 ?_
          simp only [Act.put, List.setIfInBounds_toArray, List.set_cons_zero, List.set_cons_succ]
          refine wpAnyH_take (i := 18) (oi := { dst := some 133, op := Op.move (Operand.tmp 132), type := 4, pos := "law.go:42", after := #[{ on := 17, ground := Ground.data }, { on := 16, ground := Ground.chain }], guard := none }) (v := (.bool true)) rfl (by kernel_rfl) (by kernel_rfl) (by kernel_rfl) (fun _ _ _ h => h) (Or.inl ⟨by rfl, fun w hSw => (by go_simp)⟩) hH2 ?_
          simp only [Act.put, List.setIfInBounds_toArray, List.set_cons_zero, List.set_cons_succ]
          refine wpAnyH_take (i := 19) (oi := { dst := some 134, op := Op.move (Operand.tmp 16), type := 31, pos := "law.go:42", after := #[{ on := 18, ground := Ground.guard }], guard := some (18, true) }) (v := (.int .i64 de)) rfl (by kernel_rfl) (by kernel_rfl) (by kernel_rfl) (fun _ _ _ h => h) (Or.inl ⟨by rfl, fun w hSw => (by go_simp)⟩) hH2 ?_
          simp only [Act.put, List.setIfInBounds_toArray, List.set_cons_zero, List.set_cons_succ]
          refine wpAnyH_take (i := 20) (oi := { dst := some 135, op := Op.move (Operand.tmp 18), type := 3, pos := "law.go:42", after := #[{ on := 18, ground := Ground.guard }], guard := some (18, true) }) (v := (.int .i64 de)) rfl (by kernel_rfl) (by kernel_rfl) (by kernel_rfl) (fun _ _ _ h => h) (Or.inl ⟨by rfl, fun w hSw => (by go_simp)⟩) hH2 ?_
          simp only [Act.put, List.setIfInBounds_toArray, List.set_cons_zero, List.set_cons_succ]
          refine wpAnyH_take (i := 21) (oi := { dst := some 136, op := Op.binOp BinOp.eql 3 (Operand.tmp 134) (Operand.tmp 135) 3, type := 4, pos := "law.go:42", after := #[{ on := 19, ground := Ground.data }, { on := 20, ground := Ground.data }, { on := 18, ground := Ground.guard }], guard := some (18, true) }) (v := (.bool true)) rfl (by kernel_rfl) (by kernel_rfl) (by kernel_rfl) (fun _ _ _ h => h) (Or.inl ⟨by rfl, fun w hSw => (by go_simp)⟩) hH2 ?_
          simp only [Act.put, List.setIfInBounds_toArray, List.set_cons_zero, List.set_cons_succ]
          refine wpAnyH_take (i := 22) (oi := { dst := some 137, op := Op.pick (Operand.tmp 133) (Operand.tmp 136) (Operand.const (Value.bool false)), type := 4, pos := "law.go:42", after := #[{ on := 18, ground := Ground.data }, { on := 21, ground := Ground.data }], guard := none }) (v := (.bool true)) rfl (by kernel_rfl) (by kernel_rfl) (by kernel_rfl) (fun _ _ _ h => h) (Or.inl ⟨by rfl, fun w hSw => (by go_simp)⟩) hH2 ?_
          simp only [Act.put, List.setIfInBounds_toArray, List.set_cons_zero, List.set_cons_succ]
          refine wpAnyH_take (i := 23) (oi := { dst := some 138, op := Op.move (Operand.tmp 137), type := 4, pos := "law.go:42", after := #[{ on := 22, ground := Ground.data }, { on := 18, ground := Ground.chain }], guard := none }) (v := (.bool true)) rfl (by kernel_rfl) (by kernel_rfl) (by kernel_rfl) (fun _ _ _ h => h) (Or.inl ⟨by rfl, fun w hSw => (by go_simp)⟩) hH2 ?_
          simp only [Act.put, List.setIfInBounds_toArray, List.set_cons_zero, List.set_cons_succ]
          refine wpAnyH_take (i := 24) (oi := { dst := some 139, op := Op.move (Operand.tmp 19), type := 27, pos := "law.go:42", after := #[{ on := 23, ground := Ground.guard }], guard := some (23, true) }) (v := (.slice aX kX cX)) rfl (by kernel_rfl) (by kernel_rfl) (by kernel_rfl) (fun _ _ _ h => h) (Or.inl ⟨by rfl, fun w hSw => (by go_simp)⟩) hH2 ?_
          simp only [Act.put, List.setIfInBounds_toArray, List.set_cons_zero, List.set_cons_succ]
          refine wpAnyH_take (i := 25) (oi := { dst := some 140, op := Op.move (Operand.tmp 21), type := 27, pos := "law.go:42", after := #[{ on := 23, ground := Ground.guard }], guard := some (23, true) }) (v := (.slice aY kY cY)) rfl (by kernel_rfl) (by kernel_rfl) (by kernel_rfl) (fun _ _ _ h => h) (Or.inl ⟨by rfl, fun w hSw => (by go_simp)⟩) hH2 ?_
          simp only [Act.put, List.setIfInBounds_toArray, List.set_cons_zero, List.set_cons_succ]
          refine wpAnyH_ready (rs := [26]) (by kernel_rfl) (by simp) ?_
          refine AllReadyH.cons (o := { dst := some 141, op := Op.call { callee := Callee.value (Operand.func 20), args := #[Operand.tmp 139, Operand.tmp 140], argTypes := #[27, 27] }, type := 4, pos := "law.go:42", after := #[{ on := 24, ground := Ground.data }, { on := 25, ground := Ground.data }, { on := 23, ground := Ground.chain }, { on := 23, ground := Ground.guard }], guard := some (23, true) }) rfl (fun K hK => ?_) AllReadyH.nil
          go_simp
          refine (rsame_any (fX.out v2 Nv2.out) (Nat.le_refl _) (fY.out v2 Nv2.out) (Nat.le_refl _)).mono ?_
          rintro e v3 ⟨rfl, hbv3⟩
          rw [sameB_refl]
          have Nv3 : Hid (Below wQ.heap.size wQ v3) := Below.trans Nv2.out (hbv3.mono (Below.size Nv2.out))
          have hH3 := hcl.out v3 Nv3.out
          refine hK _ _ hH3 (fun _ => ?_)
          clear hK K
          refine wpAnyH_take (i := 27) (oi := { dst := some 142, op := Op.pick (Operand.tmp 138) (Operand.tmp 141) (Operand.const (Value.bool false)), type := 4, pos := "law.go:42", after := #[{ on := 23, ground := Ground.data }, { on := 26, ground := Ground.data }], guard := none }) (v := (.bool true)) rfl (by kernel_rfl) (by kernel_rfl) (by kernel_rfl) (fun _ _ _ h => h) (Or.inl ⟨by rfl, fun w hSw => (by go_simp)⟩) hH3 ?_
          simp only [Act.put, List.setIfInBounds_toArray, List.set_cons_zero, List.set_cons_succ]
          refine wpAnyH_take (i := 28) (oi := { dst := some 143, op := Op.move (Operand.tmp 142), type := 4, pos := "law.go:42", after := #[{ on := 27, ground := Ground.data }, { on := 26, ground := Ground.chain }], guard := none }) (v := (.bool true)) rfl (by kernel_rfl) (by kernel_rfl) (by kernel_rfl) (fun _ _ _ h => h) (Or.inl ⟨by rfl, fun w hSw => (by go_simp)⟩) hH3 ?_
          simp only [Act.put, List.setIfInBounds_toArray, List.set_cons_zero, List.set_cons_succ]
          refine wpAnyH_take (i := 29) (oi := { dst := some 144, op := Op.move (Operand.tmp 20), type := 31, pos := "law.go:42", after := #[{ on := 28, ground := Ground.guard }], guard := some (28, true) }) (v := (.int .i64 ge)) rfl (by kernel_rfl) (by kernel_rfl) (by kernel_rfl) (fun _ _ _ h => h) (Or.inl ⟨by rfl, fun w hSw => (by go_simp)⟩) hH3 ?_
          simp only [Act.put, List.setIfInBounds_toArray, List.set_cons_zero, List.set_cons_succ]
          refine wpAnyH_take (i := 30) (oi := { dst := some 145, op := Op.move (Operand.tmp 22), type := 3, pos := "law.go:42", after := #[{ on := 28, ground := Ground.guard }], guard := some (28, true) }) (v := (.int .i64 ge)) rfl (by kernel_rfl) (by kernel_rfl) (by kernel_rfl) (fun _ _ _ h => h) (Or.inl ⟨by rfl, fun w hSw => (by go_simp)⟩) hH3 ?_
          simp only [Act.put, List.setIfInBounds_toArray, List.set_cons_zero, List.set_cons_succ]
          refine wpAnyH_take (i := 31) (oi := { dst := some 146, op := Op.binOp BinOp.eql 3 (Operand.tmp 144) (Operand.tmp 145) 3, type := 4, pos := "law.go:42", after := #[{ on := 29, ground := Ground.data }, { on := 30, ground := Ground.data }, { on := 28, ground := Ground.guard }], guard := some (28, true) }) (v := (.bool true)) rfl (by kernel_rfl) (by kernel_rfl) (by kernel_rfl) (fun _ _ _ h => h) (Or.inl ⟨by rfl, fun w hSw => (by go_simp)⟩) hH3 ?_
          simp only [Act.put, List.setIfInBounds_toArray, List.set_cons_zero, List.set_cons_succ]
          refine wpAnyH_take (i := 32) (oi := { dst := some 147, op := Op.pick (Operand.tmp 143) (Operand.tmp 146) (Operand.const (Value.bool false)), type := 4, pos := "law.go:42", after := #[{ on := 28, ground := Ground.data }, { on := 31, ground := Ground.data }], guard := none }) (v := (.bool true)) rfl (by kernel_rfl) (by kernel_rfl) (by kernel_rfl) (fun _ _ _ h => h) (Or.inl ⟨by rfl, fun w hSw => (by go_simp)⟩) hH3 ?_
          simp only [Act.put, List.setIfInBounds_toArray, List.set_cons_zero, List.set_cons_succ]
          refine wpAnyH_take (i := 33) (oi := { dst := some 148, op := Op.move (Operand.tmp 147), type := 4, pos := "law.go:42", after := #[{ on := 32, ground := Ground.data }, { on := 28, ground := Ground.chain }], guard := none }) (v := (.bool true)) rfl (by kernel_rfl) (by kernel_rfl) (by kernel_rfl) (fun _ _ _ h => h) (Or.inl ⟨by rfl, fun w hSw => (by go_simp)⟩) hH3 ?_
          simp only [Act.put, List.setIfInBounds_toArray, List.set_cons_zero, List.set_cons_succ]
          refine wpAnyH_take (i := 34) (oi := { dst := some 149, op := Op.move (Operand.tmp 23), type := 3, pos := "law.go:42", after := #[{ on := 33, ground := Ground.guard }], guard := some (33, true) }) (v := (.int .i64 qn)) rfl (by kernel_rfl) (by kernel_rfl) (by kernel_rfl) (fun _ _ _ h => h) (Or.inl ⟨by rfl, fun w hSw => (by go_simp)⟩) hH3 ?_
          simp only [Act.put, List.setIfInBounds_toArray, List.set_cons_zero, List.set_cons_succ]
          refine wpAnyH_take (i := 35) (oi := { dst := some 150, op := Op.move (Operand.tmp 25), type := 3, pos := "law.go:42", after := #[{ on := 33, ground := Ground.guard }], guard := some (33, true) }) (v := (.int .i64 qn)) rfl (by kernel_rfl) (by kernel_rfl) (by kernel_rfl) (fun _ _ _ h => h) (Or.inl ⟨by rfl, fun w hSw => (by go_simp)⟩) hH3 ?_
          simp only [Act.put, List.setIfInBounds_toArray, List.set_cons_zero, List.set_cons_succ]
          refine wpAnyH_take (i := 36) (oi := { dst := some 151, op := Op.binOp BinOp.eql 3 (Operand.tmp 149) (Operand.tmp 150) 3, type := 4, pos := "law.go:42", after := #[{ on := 34, ground := Ground.data }, { on := 35, ground := Ground.data }, { on := 33, ground := Ground.guard }], guard := some (33, true) }) (v := (.bool true)) rfl (by kernel_rfl) (by kernel_rfl) (by kernel_rfl) (fun _ _ _ h => h) (Or.inl ⟨by rfl, fun w hSw => (by go_simp)⟩) hH3 ?_
          simp only [Act.put, List.setIfInBounds_toArray, List.set_cons_zero, List.set_cons_succ]
          refine wpAnyH_take (i := 37) (oi := { dst := some 152, op := Op.pick (Operand.tmp 148) (Operand.tmp 151) (Operand.const (Value.bool false)), type := 4, pos := "law.go:42", after := #[{ on := 33, ground := Ground.data }, { on := 36, ground := Ground.data }], guard := none }) (v := (.bool true)) rfl (by kernel_rfl) (by kernel_rfl) (by kernel_rfl) (fun _ _ _ h => h) (Or.inl ⟨by rfl, fun w hSw => (by go_simp)⟩) hH3 ?_
          simp only [Act.put, List.setIfInBounds_toArray, List.set_cons_zero, List.set_cons_succ]
          refine wpAnyH_take (i := 38) (oi := { dst := some 153, op := Op.move (Operand.tmp 152), type := 4, pos := "law.go:42", after := #[{ on := 37, ground := Ground.data }, { on := 33, ground := Ground.chain }], guard := none }) (v := (.bool true)) rfl (by kernel_rfl) (by kernel_rfl) (by kernel_rfl) (fun _ _ _ h => h) (Or.inl ⟨by rfl, fun w hSw => (by go_simp)⟩) hH3 ?_
          simp only [Act.put, List.setIfInBounds_toArray, List.set_cons_zero, List.set_cons_succ]
          refine wpAnyH_take (i := 39) (oi := { dst := some 154, op := Op.move (Operand.tmp 24), type := 4, pos := "law.go:42", after := #[{ on := 38, ground := Ground.guard }], guard := some (38, true) }) (v := (.bool qb)) rfl (by kernel_rfl) (by kernel_rfl) (by kernel_rfl) (fun _ _ _ h => h) (Or.inl ⟨by rfl, fun w hSw => (by go_simp)⟩) hH3 ?_
          simp only [Act.put, List.setIfInBounds_toArray, List.set_cons_zero, List.set_cons_succ]
          refine wpAnyH_take (i := 40) (oi := { dst := some 155, op := Op.move (Operand.tmp 26), type := 4, pos := "law.go:42", after := #[{ on := 38, ground := Ground.guard }], guard := some (38, true) }) (v := (.bool qb)) rfl (by kernel_rfl) (by kernel_rfl) (by kernel_rfl) (fun _ _ _ h => h) (Or.inl ⟨by rfl, fun w hSw => (by go_simp)⟩) hH3 ?_
          simp only [Act.put, List.setIfInBounds_toArray, List.set_cons_zero, List.set_cons_succ]
          refine wpAnyH_take (i := 41) (oi := { dst := some 156, op := Op.binOp BinOp.eql 4 (Operand.tmp 154) (Operand.tmp 155) 4, type := 4, pos := "law.go:42", after := #[{ on := 39, ground := Ground.data }, { on := 40, ground := Ground.data }, { on := 38, ground := Ground.guard }], guard := some (38, true) }) (v := (.bool true)) rfl (by kernel_rfl) (by kernel_rfl) (by kernel_rfl) (fun _ _ _ h => h) (Or.inl ⟨by rfl, fun w hSw => (by go_simp)⟩) hH3 ?_
          simp only [Act.put, List.setIfInBounds_toArray, List.set_cons_zero, List.set_cons_succ]
          refine wpAnyH_take (i := 42) (oi := { dst := some 157, op := Op.pick (Operand.tmp 153) (Operand.tmp 156) (Operand.const (Value.bool false)), type := 4, pos := "law.go:42", after := #[{ on := 38, ground := Ground.data }, { on := 41, ground := Ground.data }], guard := none }) (v := (.bool true)) rfl (by kernel_rfl) (by kernel_rfl) (by kernel_rfl) (fun _ _ _ h => h) (Or.inl ⟨by rfl, fun w hSw => (by go_simp)⟩) hH3 ?_
          simp only [Act.put, List.setIfInBounds_toArray, List.set_cons_zero, List.set_cons_succ]
          refine wpAnyH_take (i := 43) (oi := { dst := some 158, op := Op.move (Operand.tmp 157), type := 4, pos := "law.go:42", after := #[{ on := 42, ground := Ground.data }, { on := 38, ground := Ground.chain }], guard := none }) (v := (.bool true)) rfl (by kernel_rfl) (by kernel_rfl) (by kernel_rfl) (fun _ _ _ h => h) (Or.inl ⟨by rfl, fun w hSw => (by go_simp)⟩) hH3 ?_
          simp only [Act.put, List.setIfInBounds_toArray, List.set_cons_zero, List.set_cons_succ]
          refine wpAnyH_take (i := 44) (oi := { dst := some 159, op := Op.load 25 (Operand.tmp 4), type := 25, pos := "law.go:42", after := #[{ on := 43, ground := Ground.guard }], guard := some (43, true) }) (v := (.agg #[.slice ao0 nc0 cap0, .slice aoc0 nc0 capc0])) rfl (by kernel_rfl) (by kernel_rfl) (by kernel_rfl) (fun _ _ _ h => h) (Or.inl ⟨by rfl, fun w hSw => (by obtain ⟨⟨k0, k1⟩, ⟨k2, k3⟩, ⟨k4, k5⟩, ⟨k6, k7⟩, k8, k9⟩ := hSw; go_simp)⟩) hH3 ?_
          simp only [Act.put, List.setIfInBounds_toArray, List.set_cons_zero, List.set_cons_succ]
          refine wpAnyH_take (i := 46) (oi := { dst := some 161, op := Op.load 25 (Operand.tmp 4), type := 25, pos := "law.go:42", after := #[{ on := 43, ground := Ground.guard }], guard := some (43, true) }) (v := (.agg #[.slice ao0 nc0 cap0, .slice aoc0 nc0 capc0])) rfl (by kernel_rfl) (by kernel_rfl) (by kernel_rfl) (fun _ _ _ h => h) (Or.inl ⟨by rfl, fun w hSw => (by obtain ⟨⟨k0, k1⟩, ⟨k2, k3⟩, ⟨k4, k5⟩, ⟨k6, k7⟩, k8, k9⟩ := hSw; go_simp)⟩) hH3 ?_
          simp only [Act.put, List.setIfInBounds_toArray, List.set_cons_zero, List.set_cons_succ]
          refine wpAnyH_ready (rs := [45]) (by kernel_rfl) (by simp) ?_
          refine AllReadyH.cons (o := { dst := some 160, op := Op.call { callee := Callee.value (Operand.func 21), args := #[Operand.tmp 159], argTypes := #[25] }, type := 3, pos := "law.go:42", after := #[{ on := 44, ground := Ground.data }, { on := 43, ground := Ground.chain }, { on := 43, ground := Ground.guard }], guard := some (43, true) }) rfl (fun K hK => ?_) AllReadyH.nil
          go_simp
          refine (used_any (kT.out v3 Nv3.out)).mono ?_
          rintro e v4 ⟨rfl, hbv4⟩
          rw [hus.out]
          have Nv4 : Hid (Below wQ.heap.size wQ v4) := Below.trans Nv3.out (hbv4.mono (Below.size Nv3.out))
          have hH4 := hcl.out v4 Nv4.out
          refine hK _ _ hH4 (fun _ => ?_)
          clear hK K
          refine wpAnyH_ready (rs := [47]) (by kernel_rfl) (by simp) ?_
          refine AllReadyH.cons (o := { dst := some 162, op := Op.call { callee := Callee.value (Operand.func 22), args := #[Operand.tmp 161], argTypes := #[25] }, type := 3, pos := "law.go:42", after := #[{ on := 46, ground := Ground.data }, { on := 45, ground := Ground.chain }, { on := 43, ground := Ground.guard }], guard := some (43, true) }) rfl (fun K hK => ?_) AllReadyH.nil
          go_simp
          refine (rused_any (kT.out v4 Nv4.out)).mono ?_
          rintro e v5 ⟨rfl, hbv5⟩
          rw [hus.out]
          have Nv5 : Hid (Below wQ.heap.size wQ v5) := Below.trans Nv4.out (hbv5.mono (Below.size Nv4.out))
          have hH5 := hcl.out v5 Nv5.out
          refine hK _ _ hH5 (fun _ => ?_)
          clear hK K
          refine wpAnyH_take (i := 48) (oi := { dst := some 163, op := Op.binOp BinOp.eql 3 (Operand.tmp 160) (Operand.tmp 162) 3, type := 4, pos := "law.go:42", after := #[{ on := 45, ground := Ground.data }, { on := 47, ground := Ground.data }, { on := 43, ground := Ground.guard }], guard := some (43, true) }) (v := (.bool true)) rfl (by kernel_rfl) (by kernel_rfl) (by kernel_rfl) (fun _ _ _ h => h) (Or.inl ⟨by rfl, fun w hSw => (by go_simp)⟩) hH5 ?_
          simp only [Act.put, List.setIfInBounds_toArray, List.set_cons_zero, List.set_cons_succ]
          refine wpAnyH_take (i := 49) (oi := { dst := some 164, op := Op.pick (Operand.tmp 158) (Operand.tmp 163) (Operand.const (Value.bool false)), type := 4, pos := "law.go:42", after := #[{ on := 43, ground := Ground.data }, { on := 48, ground := Ground.data }], guard := none }) (v := (.bool true)) rfl (by kernel_rfl) (by kernel_rfl) (by kernel_rfl) (fun _ _ _ h => h) (Or.inl ⟨by rfl, fun w hSw => (by go_simp)⟩) hH5 ?_
          simp only [Act.put, List.setIfInBounds_toArray, List.set_cons_zero, List.set_cons_succ]
          refine wpAnyH_take (i := 50) (oi := { dst := some 165, op := Op.move (Operand.tmp 164), type := 4, pos := "law.go:42", after := #[{ on := 49, ground := Ground.data }, { on := 47, ground := Ground.chain }], guard := none }) (v := (.bool true)) rfl (by kernel_rfl) (by kernel_rfl) (by kernel_rfl) (fun _ _ _ h => h) (Or.inl ⟨by rfl, fun w hSw => (by go_simp)⟩) hH5 ?_
          simp only [Act.put, List.setIfInBounds_toArray, List.set_cons_zero, List.set_cons_succ]
          refine wpAnyH_take (i := 51) (oi := { dst := some 166, op := Op.load 25 (Operand.tmp 9), type := 25, pos := "law.go:42", after := #[{ on := 50, ground := Ground.guard }], guard := some (50, true) }) (v := (.agg #[.slice aA nA cA, .slice aA' nA cA'])) rfl (by kernel_rfl) (by kernel_rfl) (by kernel_rfl) (fun _ _ _ h => h) (Or.inl ⟨by rfl, fun w hSw => (by obtain ⟨⟨k0, k1⟩, ⟨k2, k3⟩, ⟨k4, k5⟩, ⟨k6, k7⟩, k8, k9⟩ := hSw; go_simp)⟩) hH5 ?_
          simp only [Act.put, List.setIfInBounds_toArray, List.set_cons_zero, List.set_cons_succ]
          refine wpAnyH_ready (rs := [52]) (by kernel_rfl) (by simp) ?_
          refine AllReadyH.cons (o := { dst := some 167, op := Op.call { callee := Callee.value (Operand.func 9), args := #[Operand.tmp 166], argTypes := #[25] }, type := 4, pos := "law.go:42", after := #[{ on := 51, ground := Ground.data }, { on := 50, ground := Ground.chain }, { on := 50, ground := Ground.guard }], guard := some (50, true) }) rfl (fun K hK => ?_) AllReadyH.nil
          go_simp
          refine (rtfit_any (kA.out v5 Nv5.out)).mono ?_
          rintro e v6 ⟨rfl, hbv6⟩
          rw [HFA.out]
          have Nv6 : Hid (Below wQ.heap.size wQ v6) := Below.trans Nv5.out (hbv6.mono (Below.size Nv5.out))
          have hH6 := hcl.out v6 Nv6.out
          refine hK _ _ hH6 (fun _ => ?_)
          clear hK K
          refine wpAnyH_take (i := 53) (oi := { dst := some 168, op := Op.pick (Operand.tmp 165) (Operand.tmp 167) (Operand.const (Value.bool false)), type := 4, pos := "law.go:42", after := #[{ on := 50, ground := Ground.data }, { on := 52, ground := Ground.data }], guard := none }) (v := (.bool true)) rfl (by kernel_rfl) (by kernel_rfl) (by kernel_rfl) (fun _ _ _ h => h) (Or.inl ⟨by rfl, fun w hSw => (by go_simp)⟩) hH6 ?_
          simp only [Act.put, List.setIfInBounds_toArray, List.set_cons_zero, List.set_cons_succ]
          refine wpAnyH_take (i := 54) (oi := { dst := some 169, op := Op.move (Operand.tmp 168), type := 4, pos := "law.go:42", after := #[{ on := 53, ground := Ground.data }, { on := 52, ground := Ground.chain }], guard := none }) (v := (.bool true)) rfl (by kernel_rfl) (by kernel_rfl) (by kernel_rfl) (fun _ _ _ h => h) (Or.inl ⟨by rfl, fun w hSw => (by go_simp)⟩) hH6 ?_
          simp only [Act.put, List.setIfInBounds_toArray, List.set_cons_zero, List.set_cons_succ]
          refine wpAnyH_take (i := 55) (oi := { dst := some 170, op := Op.load 25 (Operand.tmp 15), type := 25, pos := "law.go:42", after := #[{ on := 54, ground := Ground.guard }], guard := some (54, true) }) (v := (.agg #[.slice aC nC cC, .slice aC' nC cC'])) rfl (by kernel_rfl) (by kernel_rfl) (by kernel_rfl) (fun _ _ _ h => h) (Or.inl ⟨by rfl, fun w hSw => (by obtain ⟨⟨k0, k1⟩, ⟨k2, k3⟩, ⟨k4, k5⟩, ⟨k6, k7⟩, k8, k9⟩ := hSw; go_simp)⟩) hH6 ?_
          simp only [Act.put, List.setIfInBounds_toArray, List.set_cons_zero, List.set_cons_succ]
          refine wpAnyH_ready (rs := [56]) (by kernel_rfl) (by simp) ?_
          refine AllReadyH.cons (o := { dst := some 171, op := Op.call { callee := Callee.value (Operand.func 9), args := #[Operand.tmp 170], argTypes := #[25] }, type := 4, pos := "law.go:42", after := #[{ on := 55, ground := Ground.data }, { on := 54, ground := Ground.chain }, { on := 54, ground := Ground.guard }], guard := some (54, true) }) rfl (fun K hK => ?_) AllReadyH.nil
          go_simp
          refine (rtfit_any (kC.out v6 Nv6.out)).mono ?_
          rintro e v7 ⟨rfl, hbv7⟩
          rw [HFD.out]
          have Nv7 : Hid (Below wQ.heap.size wQ v7) := Below.trans Nv6.out (hbv7.mono (Below.size Nv6.out))
          have hH7 := hcl.out v7 Nv7.out
          refine hK _ _ hH7 (fun _ => ?_)
          clear hK K
          refine wpAnyH_take (i := 57) (oi := { dst := some 172, op := Op.pick (Operand.tmp 169) (Operand.tmp 171) (Operand.const (Value.bool false)), type := 4, pos := "law.go:42", after := #[{ on := 54, ground := Ground.data }, { on := 56, ground := Ground.data }], guard := none }) (v := (.bool true)) rfl (by kernel_rfl) (by kernel_rfl) (by kernel_rfl) (fun _ _ _ h => h) (Or.inl ⟨by rfl, fun w hSw => (by go_simp)⟩) hH7 ?_
          simp only [Act.put, List.setIfInBounds_toArray, List.set_cons_zero, List.set_cons_succ]
          refine wpAnyH_take (i := 58) (oi := { dst := some 173, op := Op.move (Operand.tmp 172), type := 4, pos := "law.go:42", after := #[{ on := 57, ground := Ground.data }, { on := 56, ground := Ground.chain }], guard := none }) (v := (.bool true)) rfl (by kernel_rfl) (by kernel_rfl) (by kernel_rfl) (fun _ _ _ h => h) (Or.inl ⟨by rfl, fun w hSw => (by go_simp)⟩) hH7 ?_
          simp only [Act.put, List.setIfInBounds_toArray, List.set_cons_zero, List.set_cons_succ]
          refine wpAnyH_ready (rs := [59]) (by kernel_rfl) (by simp) ?_
          refine AllReadyH.cons (o := { dst := some 174, op := Op.call { callee := Callee.value (Operand.func 7), args := #[], argTypes := #[] }, type := 4, pos := "law.go:42", after := #[{ on := 58, ground := Ground.chain }, { on := 58, ground := Ground.guard }], guard := some (58, true) }) rfl (fun K hK => ?_) AllReadyH.nil
          go_simp
          refine (awake_any v7).mono ?_
          rintro e v8 ⟨rfl, hbv8⟩
          have Nv8 : Hid (Below wQ.heap.size wQ v8) := Below.trans Nv7.out (hbv8.mono (Below.size Nv7.out))
          have hH8 := hcl.out v8 Nv8.out
          refine hK _ _ hH8 (fun _ => ?_)
          clear hK K
          refine wpAnyH_take (i := 60) (oi := { dst := some 175, op := Op.pick (Operand.tmp 173) (Operand.tmp 174) (Operand.const (Value.bool false)), type := 4, pos := "law.go:42", after := #[{ on := 58, ground := Ground.data }, { on := 59, ground := Ground.data }], guard := none }) (v := (.bool true)) rfl (by kernel_rfl) (by kernel_rfl) (by kernel_rfl) (fun _ _ _ h => h) (Or.inl ⟨by rfl, fun w hSw => (by go_simp)⟩) hH8 ?_
          simp only [Act.put, List.setIfInBounds_toArray, List.set_cons_zero, List.set_cons_succ]
          refine wpAnyH_take (i := 61) (oi := { dst := some 8, op := Op.assign (Operand.tmp 175), type := 4, pos := "law.go:42", after := #[{ on := 60, ground := Ground.data }, { on := 59, ground := Ground.chain }, { on := 0, ground := Ground.phase }, { on := 1, ground := Ground.phase }, { on := 2, ground := Ground.phase }, { on := 3, ground := Ground.phase }, { on := 4, ground := Ground.phase }, { on := 5, ground := Ground.phase }, { on := 6, ground := Ground.phase }, { on := 7, ground := Ground.phase }, { on := 8, ground := Ground.phase }, { on := 9, ground := Ground.phase }, { on := 10, ground := Ground.phase }, { on := 11, ground := Ground.phase }, { on := 12, ground := Ground.phase }, { on := 13, ground := Ground.phase }, { on := 14, ground := Ground.phase }, { on := 15, ground := Ground.phase }, { on := 16, ground := Ground.phase }, { on := 17, ground := Ground.phase }, { on := 18, ground := Ground.phase }, { on := 19, ground := Ground.phase }, { on := 20, ground := Ground.phase }, { on := 21, ground := Ground.phase }, { on := 22, ground := Ground.phase }, { on := 23, ground := Ground.phase }, { on := 24, ground := Ground.phase }, { on := 25, ground := Ground.phase }, { on := 26, ground := Ground.phase }, { on := 27, ground := Ground.phase }, { on := 28, ground := Ground.phase }, { on := 29, ground := Ground.phase }, { on := 30, ground := Ground.phase }, { on := 31, ground := Ground.phase }, { on := 32, ground := Ground.phase }, { on := 33, ground := Ground.phase }, { on := 34, ground := Ground.phase }, { on := 35, ground := Ground.phase }, { on := 36, ground := Ground.phase }, { on := 37, ground := Ground.phase }, { on := 38, ground := Ground.phase }, { on := 39, ground := Ground.phase }, { on := 40, ground := Ground.phase }, { on := 41, ground := Ground.phase }, { on := 42, ground := Ground.phase }, { on := 43, ground := Ground.phase }, { on := 44, ground := Ground.phase }, { on := 45, ground := Ground.phase }, { on := 46, ground := Ground.phase }, { on := 47, ground := Ground.phase }, { on := 48, ground := Ground.phase }, { on := 49, ground := Ground.phase }, { on := 50, ground := Ground.phase }, { on := 51, ground := Ground.phase }, { on := 52, ground := Ground.phase }, { on := 53, ground := Ground.phase }, { on := 54, ground := Ground.phase }, { on := 55, ground := Ground.phase }, { on := 56, ground := Ground.phase }, { on := 57, ground := Ground.phase }, { on := 58, ground := Ground.phase }, { on := 59, ground := Ground.phase }, { on := 60, ground := Ground.phase }], guard := none }) (v := (.bool true)) rfl (by kernel_rfl) (by kernel_rfl) (by kernel_rfl) (fun _ _ _ h => h) (Or.inl ⟨by rfl, fun w hSw => (by go_simp)⟩) hH8 ?_
          simp only [Act.put, List.setIfInBounds_toArray, List.set_cons_zero, List.set_cons_succ]
          refine wpAnyH_done (by kernel_rfl) ?_ _
          go_wp2
          go_ret
          exact ⟨rfl, hE.out _ (BQ.out.trans (Nv8.out.mono BQ.out.size))⟩

set_option maxRecDepth 100000 in
theorem lifted (os : Os) (started : os.Started) (H : Type) (enc : TypeId × Value → H) :
    ReturnsInHanded {} Try.checked os 3 .any (Rows.internDoesSpec.pre6 enc Try.prog Try.f3 Rows.internDoesRow.domain false) (Rows.internDoesSpec.post enc Try.prog Try.f3 false true false false) := by
  refine returnsInHanded_of_change (C := Try.checked) own started (by kernel_rfl) Try.func3
    (ChangeSpec.witness6 (enc := enc) (C := Try.checked) false ⟨#[], #[.agg #[.slice none 0 0, .slice none 0 0], .agg #[.slice none 0 0, .slice none 0 0], .slice none 0 0, .int .i64 0], []⟩ 8 (by kernel_rfl) (by kernel_rfl) (by kernel_rfl) (by kernel_rfl)) ?_
  intro W base args ds gs before hval0 hW hcnd _
  have hval : ∀ (j : Nat) t v, Try.f3.params[j]? = some t → args[j]? = some v → Value.okWide Try.prog W .any base t v := hval0
  have hW' := hW
  obtain ⟨p, q, hA0, hV, rfl, hfz, hnd⟩ := hW
  have hA : DataW.TrodAll enc Try.prog W 0 (fun _ => true) true Try.f3.params.toList args.toList ds p := hA0
  rw [Try.params3] at hA hval
  obtain ⟨v0, vs0, d0, ds0, p0, q0, hargs, rfl, rfl, h0, r0⟩ := trodAll_cons hA
  obtain ⟨v1, vs1, d1, ds1, p1, q1, rfl, rfl, rfl, h1, r1⟩ := trodAll_cons r0
  obtain ⟨v2, vs2, d2, ds2, p2, q2, rfl, rfl, rfl, h2, r2⟩ := trodAll_cons r1
  obtain ⟨v3, vs3, d3, ds3, p3, q3, rfl, rfl, rfl, h3, r3⟩ := trodAll_cons r2
  obtain ⟨rfl, rfl, rfl⟩ := trodAll_nil r3
  obtain rfl : args = #[v0, v1, v2, v3] := by cases args; simp_all
  obtain ⟨rfl, rfl⟩ := trodVars_none hV
  obtain ⟨ao0, n0, cap0, aoc0, nc0, capc0, LL0, CC0, rfl, l0⟩ := tab_of_trod (hval 0 25 v0 rfl rfl) h0
  have k0 := h0
  have lt0 : ∀ x ∈ p0, x.block < W.heap.size := by obtain ⟨m, hm⟩ := k0; exact DataW.trod_lt m _ _ _ hm
  obtain ⟨ao1, n1, cap1, aoc1, nc1, capc1, LL1, CC1, rfl, l1⟩ := tab_of_trod (hval 1 25 v1 rfl rfl) h1
  have k1 := h1
  have lt1 : ∀ x ∈ p1, x.block < W.heap.size := by obtain ⟨m, hm⟩ := k1; exact DataW.trod_lt m _ _ _ hm
  obtain ⟨ao2, n2, cap2, rfl⟩ := okWide_slice Try.underlying27 (hval 2 27 v2 rfl rfl)
  have k2 := h2
  have lt2 : ∀ x ∈ p2, x.block < W.heap.size := by obtain ⟨m, hm⟩ := k2; exact DataW.trod_lt m _ _ _ hm
  obtain ⟨L2, l2⟩ := lab_of_trod h2
  obtain ⟨a3, rfl, rfl, rfl, w3⟩ := open_int Try.underlying3 (hval 3 3 v3 rfl rfl) h3
  clear hA0 hval0
  refine (walk ao0 n0 cap0 aoc0 nc0 capc0 LL0 CC0 ao1 n1 cap1 aoc1 nc1 capc1 LL1 CC1 ao2 n2 cap2 L2 a3 W l0 l1 l2 w3).mono fun e W' ⟨he, bel⟩ => ?_
  subst he
  exact ⟨_, rfl, _, _, _, [], _, [], hW', trodAll_mk1 (shut_bool Try.underlying4 _), (trodAll_cons_mk (Below.trod laidOut (by kernel_rfl) (of_decide_eq_true (by kernel_rfl)) k0 bel lt0) (trodAll_cons_mk (Below.trod laidOut (by kernel_rfl) (of_decide_eq_true (by kernel_rfl)) k1 bel lt1) (trodAll_cons_mk (Below.trod laidOut (by kernel_rfl) (of_decide_eq_true (by kernel_rfl)) k2 bel lt2) (trodAll_cons_mk (shut_int Try.underlying3 w3) trodAll_mk0)))), rfl, bel.frame _, fun h => by cases h⟩

theorem over : Rows.internDoesRow.holds Try.pinned (OpenSpec.ofChange Rows.internDoesSpec) :=
  OpenClaim.holds_of_wide 3 Try.f3 rfl rfl rfl rfl rfl rfl rfl ⟨rfl, rfl, rfl, rfl, rfl⟩ rfl rfl rfl rfl rfl (by kernel_rfl) Try.func3 (by kernel_rfl)
    (of_decide_eq_true (by kernel_rfl)) (by unfold Func.isWrapper; first | (rw [if_pos (by decide +kernel)]; kernel_rfl) | (rw [if_neg (by decide +kernel)]; exact ⟨rfl, rfl⟩))
    (fun os started H enc _ => lifted os started H enc)

end internDoes
/-- The statement. -/
theorem internDoes_holds : Rows.InternDoesSaid :=
  internDoes.over
#print axioms internDoes_holds
end Go.Proofs.Ytdljoapbeelgiaa
