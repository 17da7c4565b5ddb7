/-
  PROVED HERE: for every row of labels and every row of truths the law InternOnce returns true (P5.4, P5.5: labels that were asked for are at their places, each at one, as long as they are asked for; when all were dropped, nothing is left). No condition.
-/
import Derived.Test.YtjkncajcmdlmgaaRows
import Derived.Test.YtjkncajcmdlmgaaItn26
import Derived.Test.YtjkncajcmdlmgaaItnBool
import Derived.Test.YtjkncajcmdlmgaaLabOpen
import Derived.WalkKit
import Derived.ProofKit
import Derived.OpenShut
import Derived.Below
import Derived.ShutString
import Derived.Deep.QuietTactic
namespace Go.Proofs.Ytjkncajcmdlmgaa
namespace internOnce
open Go.ChangeShapes Go.WideShapes Go.ChangeAt Go.RowKit
open Go.ChangeMaps (open_string shut_string)
set_option linter.unusedVariables false

theorem own : ownKnob Try.prog.godebug = none := by kernel_rfl

set_option maxRecDepth 100000 in
set_option maxHeartbeats 8000000 in
theorem walk (ao0 : Option Addr) (n0 cap0 : Nat) (L0 : List (List (Int × Int))) (ao1 : Option Addr) (n1 cap1 : Nat) (L1 : List Bool) (w : World) (l0 : RowD (fun b => b < w.heap.size) w ao0 n0 cap0 L0) (l1 : BoolD w ao1 n1 cap1 L1) :
    Calls Try.prog 3 #[.slice ao0 n0 cap0, .slice ao1 n1 cap1] w fun e w' => e = .returned (.bool true) ∧ Below w.heap.size w w' := by
  have hl := l0.1
  have wrap_self : ∀ {x : Int}, -9223372036854775808 ≤ x → x < 9223372036854775808 → IntKind.i64.wrap x = x := fun h1 h2 => by simp [IntKind.wrap, IntKind.bits, IntKind.signed]; omega
  have hcap := l0.2.2.1.1
  have hnc := l0.2.1
  have hnd := l1.2.1
  have hcd := l1.2.2.1
  by_cases h60 : n0 ≤ 60
  · have hmk1 := run_make_row' (P := Try.prog) 25 3 (.int .i64 0) 8 Try.underlying25 infoInt rfl .i64 .i64 n0 (by omega) (by omega)
    have hmk2 := run_make_row' (P := Try.prog) 23 4 (.bool false) 1 Try.underlying23 infoBool rfl .i64 .i64 n0 (by omega) (by omega)
    have hM0 := mem_new w n0 (fun _ => 0) (fun _ => rfl)
    have h60' : decide ((60 : Int) < (n0 : Int)) = false := decide_eq_false (by omega)
    go_enter Try.func3, Try.ntmps3
    go_wp2
    clear hmk1 hmk2 h60'
    go_loopw [30] (fun i wr => ∃ (k : Nat) (A : Nat → Nat) (G : Nat → Bool) (Z : Zt) (a : Option Addr) (n c : Nat) (a' : Option Addr) (c' : Nat), k ≤ n0 ∧ i = .int .i64 k ∧ Mem w.heap.size w wr n0 A G Z a n c a' c' ∧ Inv (fun i => L0.getD i []) A G k Z ∧ ∀ j, k ≤ j → G j = false) (fun i _ => n0 - (intOf i).toNat)
    case atStart => exact ⟨0, _, _, _, _, _, _, _, _, by omega, rfl, hM0, inv_nil _ _ _, fun _ _ => rfl⟩
    case round =>
      clear hM0
      obtain ⟨k, A, G, Z, a, n, c, a', c', hk, rfl, hM, hI, hGk⟩ := hrel
      by_cases hkn : k < n0
      · have hkn' : (k : Int) < (n0 : Int) := by omega
        obtain ⟨b, off, ax, kx, cx, rfl, hbb, q1, q2⟩ := l0.at hkn
        have qLw := q2.toLab.next hM.bel
        have e1 := (hM.bel.cell (p := ⟨b, off + k, none⟩) hbb).trans q1
        have hkx : (L0.getD k []).length = kx := q2.1
        have hkc := q2.2.1
        have hkcap := q2.2.2.1.1
        cases hf : fitB (L0.getD k []) with
        | false =>
          have hbl := hM.bel
          clear hI hM hGk
          go_wp2_with (first | (go_at_call 5; refine (rlfit_any qLw (Nat.le_refl _)).mono ?_; rintro e w1 ⟨rfl, hb1⟩; rw [hf]) | (go_at_call 4; refine (awake_any _).mono ?_; rintro e w2 ⟨rfl, hb2⟩))
          go_ret
          exact ⟨rfl, (hbl.trans (hb1.mono hbl.size)).trans (hb2.mono (Nat.le_trans hbl.size hb1.size))⟩
        | true =>
          by_cases hx : kx ≤ 16
          · skip
            have hx' : decide ((16 : Int) < (kx : Int)) = false := decide_eq_false (by omega)
            obtain ⟨p, hp, ep, hI1⟩ := hI.add (by omega) (keepB_of hf (by rw [hkx]; exact hx)) (hGk k (Nat.le_refl _))
            have hAdd : ∀ W, Below wr.heap.size wr W → Calls Try.prog 6 #[.agg #[.slice a n c, .slice a' n c'], .slice ax kx cx] W fun e w' => ∃ a1 n1 c1 a1' c1', e = .returned (.tuple #[.agg #[.slice a1 n1 c1, .slice a1' n1 c1'], .int .i64 (p : Nat), .int .i64 0]) ∧ TabP W.heap.size w' a1 n1 c1 a1' c1' (addR Z (L0.getD k [])).1 ∧ Below W.heap.size W w' := by
              intro W hW
              have := tadd_new (hM.tab.tab.next hW) hI.fit (qLw.next hW) (by omega)
              rw [ep] at this
              exact this
            have d0 := hM.two.cell0
            have d1 := hM.two.cell1
            have hs0 := hM.two.lt
            obtain ⟨Z1, hZ1⟩ : ∃ Z1, Hid ((addR Z (L0.getD k [])).1 = Z1) := ⟨_, rfl⟩
            rw [hZ1.out] at hI1
            simp only [hZ1.out] at hAdd
            clear hI ep
            go_upto_region 12 with (first | (go_at_call 5; refine (rlfit_any qLw (Nat.le_refl _)).mono ?_; rintro e w1 ⟨rfl, hb1⟩; rw [hf]; have f0 := (hb1.cell (p := ⟨w.heap.size, 0, none⟩) hs0).trans d0; have f1 := (hb1.cell (p := ⟨w.heap.size, 1, none⟩) hs0).trans d1) | (go_at_call 6; refine (hAdd _ hb1).mono ?_; rintro e w2 ⟨ua, un, uc, ua', uc', rfl, hT2, hb2⟩))
            have hal : Below w2.heap.size w2 (w2.alloc (.cells #[.slice ua un uc, .slice ua' un uc'] 27)) := (Below.refl _ _).alloc (Nat.le_refl _) _
            have hM2 := ((hM.next hb1).next hb2).next hal
            have hT2' : TabP (w.heap.size + 3) (w2.alloc (.cells #[.slice ua un uc, .slice ua' un uc'] 27)) ua un uc ua' uc' Z1 := (hT2.mono (Nat.le_trans hM.sz hb1.size)).next hal
            have tu := Two.new w2 27 (.slice ua un uc) (.slice ua' un uc')
            obtain ⟨W2, hW2⟩ : ∃ W2, Hid (w2.alloc (.cells #[.slice ua un uc, .slice ua' un uc'] 27) = W2) := ⟨_, rfl⟩
            rw [hW2.out] at hal hM2 hT2' tu ⊢
            have hne : w2.heap.size ≠ w.heap.size := by have := hM.sz; have := hb1.size; have := hb2.size; omega
            clear hM d0 d1 f0 f1 hb1 hb2 hT2 hal hAdd hW2 qLw hs0
            have x0 := tu.cell0
            have x1 := tu.cell1
            have d0 := hM2.two.cell0
            have d1 := hM2.two.cell1
            have z0 := hM2.two.frozen0 0
            have z1 := hM2.two.frozen0 1
            have hM3 := hM2.table hT2'
            have p0 := hM3.pl.cell hkn
            have p1 := hM3.pl.frozen k
            have hM4 := hM3.setA k p
            go_upto_region 15 with fail
            obtain ⟨W4, hW4⟩ : ∃ W4, Hid (((W2.setCell ⟨w.heap.size, 0, none⟩ (.slice ua un uc)).setCell ⟨w.heap.size, 1, none⟩ (.slice ua' un uc')).setCell ⟨w.heap.size + 1, k, none⟩ (.int .i64 (p : Nat)) = W4) := ⟨_, rfl⟩
            rw [hW4.out] at hM4 ⊢
            clear hW4 x0 x1 d0 d1 z0 z1 p0 p1 hM3 hM2 hT2' tu
            have hR4 : RowD (fun b => b < W4.heap.size) W4 (some ⟨b, off, none⟩) n0 cap0 L0 := (l0.later (keeps_of_below hM4.bel)).wide (fun b hb => Nat.lt_of_lt_of_le hb hM4.bel.size)
            have d0 := hM4.two.cell0
            have d1 := hM4.two.cell1
            obtain ⟨q, hq⟩ : ∃ q, Hid (k / 2 = q) := ⟨_, rfl⟩
            have hqk : q ≤ k := by rw [← hq.out]; omega
            have hqn : q < n0 := by omega
            have hqn' : (q : Int) < (n0 : Int) := by omega
            have hqI : (k : Int) / 2 = (q : Int) := by rw [← hq.out]; omega
            have g0 : W4.cell? ⟨w.heap.size + 1 + 1, q, none⟩ = some (.bool (G q)) := hM4.gn.cell hqn
            by_cases hd : k < n1
            · have hd' : decide ((k : Int) < (n1 : Int)) = true := decide_eq_true (by omega)
              have hd2 : (k : Int) < (n1 : Int) := by omega
              obtain ⟨b1, off1, rfl, hb1', y0⟩ := l1.2.2.2 k hd
              have y1 := (hM4.bel.cell (p := ⟨b1, off1 + k, none⟩) hb1').trans y0
              clear y0
              cases hdr : L1.getD k false with
              | false =>
                rw [hdr] at y1
                go_wp2_with (go_at_call 8; refine (lsame_any (gg := w.heap.size + 1 + 1) hM4.tab.tab hI1 hkn h60 hM4.pl hM4.gn hR4).mono ?_; rintro e w5 ⟨rfl, hb5⟩)
                go_roundw
                case rel => exact ⟨k + 1, upd A k p, G, Z1, ua, un, uc, ua', uc', by omega, by go_num, hM4.next hb5, hI1, fun j hj => hGk j (by omega)⟩
                case measure => simp [intOf]; omega
              | true =>
                rw [hdr] at y1
                cases hgq : G q with
                | true =>
                  rw [hgq] at g0
                  go_wp2_with (go_at_call 8; refine (lsame_any (gg := w.heap.size + 1 + 1) hM4.tab.tab hI1 hkn h60 hM4.pl hM4.gn hR4).mono ?_; rintro e w5 ⟨rfl, hb5⟩)
                  go_roundw
                  case rel => exact ⟨k + 1, upd A k p, G, Z1, ua, un, uc, ua', uc', by omega, by go_num, hM4.next hb5, hI1, fun j hj => hGk j (by omega)⟩
                  case measure => simp [intOf]; omega
                | false =>
                  rw [hgq] at g0
                  obtain ⟨ed, hI2⟩ := hI1.drop (j := q) (by omega) hgq
                  have a0 : W4.cell? ⟨w.heap.size + 1, q, none⟩ = some (.int .i64 (upd A k p q : Nat)) := hM4.pl.cell hqn
                  have hDrop : ∀ W, Below W4.heap.size W4 W → Calls Try.prog 7 #[.agg #[.slice ua un uc, .slice ua' un uc'], .int .i64 (upd A k p q : Nat)] W fun e w' => ∃ a1 n1 c1 a1' c1', e = .returned (.tuple #[.agg #[.slice a1 n1 c1, .slice a1' n1 c1'], .int .i64 0]) ∧ TabP W.heap.size w' a1 n1 c1 a1' c1' (dropR Z1 (upd A k p q)).1 ∧ Below W.heap.size W w' := by
                    intro W hW
                    have := tdrop_new (upd A k p q) (hM4.tab.tab.next hW) hI1.fit
                    rw [ed] at this
                    exact this
                  obtain ⟨Z2, hZ2⟩ : ∃ Z2, Hid ((dropR Z1 (upd A k p q)).1 = Z2) := ⟨_, rfl⟩
                  rw [hZ2.out] at hI2
                  simp only [hZ2.out] at hDrop
                  obtain ⟨r, hr⟩ : ∃ r, Hid (upd A k p q = r) := ⟨_, rfl⟩
                  rw [hr.out] at a0
                  simp only [hr.out] at hDrop
                  have hs4 := hM4.two.lt
                  have hs5 := hM4.pl.lt
                  clear ed
                  have hq0 : (0 : Int) ≤ (q : Int) := by omega
                  have hqw : IntKind.i64.wrap (q : Int) = (q : Int) := wrap_self (by omega) (by omega)
                  go_upto_region 16 with fail
                  have nb1 : W4.heap.size ≠ w.heap.size := by omega
                  have nb2 : W4.heap.size ≠ w.heap.size + 1 := by omega
                  have hAl4 : Below W4.heap.size W4 (W4.alloc (.cells #[.slice none 0 0, .slice none 0 0] 27)) := (Below.refl _ _).alloc (Nat.le_refl _) _
                  go_region_held3 (fun w' => w'.cell? ⟨w.heap.size, 0, none⟩ = some (.slice ua un uc) ∧ w'.cell? ⟨w.heap.size, 1, none⟩ = some (.slice ua' un uc') ∧ w'.cell? ⟨w.heap.size + 1, q, none⟩ = some (.int .i64 (r : Nat))) (first | go_keep | (refine ⟨?_, ?_, ?_⟩ <;> simp only [cell_set_ne nb1, cell_set_ne nb2] <;> assumption)) (first | (go_at_call 7; refine (hDrop _ (Below.refl _ W4).drew).mono ?_; rintro e w6 ⟨va, vn, vc, va', vc', rfl, hT6, hb6'⟩; have hb6 : Below W4.heap.size W4 w6 := (Below.refl _ W4).drew.trans hb6'; have i0 := (hb6.cell (p := ⟨w.heap.size, 0, none⟩) hs4).trans d0; have i1 := (hb6.cell (p := ⟨w.heap.size, 1, none⟩) hs4).trans d1; have i2 := (hb6.cell (p := ⟨w.heap.size + 1, q, none⟩) hs5).trans a0) | (go_at_call 7; refine (hDrop _ hAl4.drew).mono ?_; rintro e w6 ⟨va, vn, vc, va', vc', rfl, hT6, hb6'⟩; have hb6 : Below W4.heap.size W4 w6 := hAl4.drew.trans (hb6'.mono (by simp)); have i0 := (hb6.cell (p := ⟨w.heap.size, 0, none⟩) hs4).trans d0; have i1 := (hb6.cell (p := ⟨w.heap.size, 1, none⟩) hs4).trans d1; have i2 := (hb6.cell (p := ⟨w.heap.size + 1, q, none⟩) hs5).trans a0; have tq : Two w6 W4.heap.size 27 (.slice none 0 0) (.slice none 0 0) := (hb6'.block W4.heap.size (by simp)).trans (Two.new W4 27 _ _); have t0 := tq.cell0; have t1 := tq.cell1; have t2 := tq.frozen0 0; have t3 := tq.frozen0 1))
                  · have hal6 : Below w6.heap.size w6 (w6.alloc (.cells #[.slice va vn vc, .slice va' vn vc'] 27)) := (Below.refl _ _).alloc (Nat.le_refl _) _
                    have hMX := (hM4.next hb6).next hal6
                    have hTX : TabP (w.heap.size + 3) (w6.alloc (.cells #[.slice va vn vc, .slice va' vn vc'] 27)) va vn vc va' vc' Z2 := (hT6.mono hM4.sz).next hal6
                    have tuX := Two.new w6 27 (.slice va vn vc) (.slice va' vn vc')
                    obtain ⟨X, hX⟩ : ∃ X, Hid (w6.alloc (.cells #[.slice va vn vc, .slice va' vn vc'] 27) = X) := ⟨_, rfl⟩
                    rw [hX.out] at hMX hTX tuX ⊢
                    clear hX hal6 i0 i1 i2 hT6 hb6 hb6' d0 d1 g0
                    have x0 := tuX.cell0
                    have x1 := tuX.cell1
                    have v0 := hMX.two.cell0
                    have v1 := hMX.two.cell1
                    have z0 := hMX.two.frozen0 0
                    have z1 := hMX.two.frozen0 1
                    have hM7 := hMX.table hTX
                    have p0 : ((X.setCell ⟨w.heap.size, 0, none⟩ (.slice va vn vc)).setCell ⟨w.heap.size, 1, none⟩ (.slice va' vn vc')).cell? ⟨w.heap.size + 1 + 1, q, none⟩ = some (.bool (G q)) := hM7.gn.cell hqn
                    have p1 : ((X.setCell ⟨w.heap.size, 0, none⟩ (.slice va vn vc)).setCell ⟨w.heap.size, 1, none⟩ (.slice va' vn vc')).frozen? ⟨w.heap.size + 1 + 1, q, none⟩ = false := hM7.gn.frozen q
                    have hM8 := hM7.setG q
                    go_upto_region 18 with fail
                    obtain ⟨W8, hW8⟩ : ∃ W8, Hid (((X.setCell ⟨w.heap.size, 0, none⟩ (.slice va vn vc)).setCell ⟨w.heap.size, 1, none⟩ (.slice va' vn vc')).setCell ⟨w.heap.size + 1 + 1, q, none⟩ (.bool true) = W8) := ⟨_, rfl⟩
                    rw [hW8.out] at hM8 ⊢
                    clear hW8 x0 x1 v0 v1 z0 z1 p0 p1 hM7 hMX hTX tuX hM4 hR4 a0 hDrop
                    have hR8 : RowD (fun b => b < W8.heap.size) W8 (some ⟨b, off, none⟩) n0 cap0 L0 := (l0.later (keeps_of_below hM8.bel)).wide (fun b hb => Nat.lt_of_lt_of_le hb hM8.bel.size)
                    have d0 := hM8.two.cell0
                    have d1 := hM8.two.cell1
                    go_wp2_with (go_at_call 8; refine (lsame_any (gg := w.heap.size + 1 + 1) hM8.tab.tab hI2 hkn h60 hM8.pl hM8.gn hR8).mono ?_; rintro e w5 ⟨rfl, hb5⟩)
                    go_roundw
                    case rel => exact ⟨k + 1, upd A k p, updG G q, Z2, va, vn, vc, va', vc', by omega, by go_num, hM8.next hb5, hI2, fun j hj => by unfold updG; rw [if_neg (by omega)]; exact hGk j (by omega)⟩
                    case measure => simp [intOf]; omega
                  · have hMX := (hM4.next hb6).over (x := .slice va vn vc) (y := .slice va' vn vc') tq hM4.sz
                    obtain ⟨tuX, kX⟩ := box_over (x := .slice va vn vc) (y := .slice va' vn vc') tq
                    have hTX : TabP (w.heap.size + 3) ((w6.setCell ⟨W4.heap.size, 0, none⟩ (.slice va vn vc)).setCell ⟨W4.heap.size, 1, none⟩ (.slice va' vn vc')) va vn vc va' vc' Z2 := (hT6.mono (by have := hM4.sz; simp; omega)).kty kX
                    obtain ⟨X, hX⟩ : ∃ X, Hid ((w6.setCell ⟨W4.heap.size, 0, none⟩ (.slice va vn vc)).setCell ⟨W4.heap.size, 1, none⟩ (.slice va' vn vc') = X) := ⟨_, rfl⟩
                    rw [hX.out] at hMX hTX tuX ⊢
                    clear hX kX i0 i1 i2 hT6 hb6 hb6' d0 d1 g0 tq t0 t1 t2 t3
                    have x0 := tuX.cell0
                    have x1 := tuX.cell1
                    have v0 := hMX.two.cell0
                    have v1 := hMX.two.cell1
                    have z0 := hMX.two.frozen0 0
                    have z1 := hMX.two.frozen0 1
                    have hM7 := hMX.table hTX
                    have p0 : ((X.setCell ⟨w.heap.size, 0, none⟩ (.slice va vn vc)).setCell ⟨w.heap.size, 1, none⟩ (.slice va' vn vc')).cell? ⟨w.heap.size + 1 + 1, q, none⟩ = some (.bool (G q)) := hM7.gn.cell hqn
                    have p1 : ((X.setCell ⟨w.heap.size, 0, none⟩ (.slice va vn vc)).setCell ⟨w.heap.size, 1, none⟩ (.slice va' vn vc')).frozen? ⟨w.heap.size + 1 + 1, q, none⟩ = false := hM7.gn.frozen q
                    have hM8 := hM7.setG q
                    go_upto_region 18 with fail
                    obtain ⟨W8, hW8⟩ : ∃ W8, Hid (((X.setCell ⟨w.heap.size, 0, none⟩ (.slice va vn vc)).setCell ⟨w.heap.size, 1, none⟩ (.slice va' vn vc')).setCell ⟨w.heap.size + 1 + 1, q, none⟩ (.bool true) = W8) := ⟨_, rfl⟩
                    rw [hW8.out] at hM8 ⊢
                    clear hW8 x0 x1 v0 v1 z0 z1 p0 p1 hM7 hMX hTX tuX hM4 hR4 a0 hDrop
                    have hR8 : RowD (fun b => b < W8.heap.size) W8 (some ⟨b, off, none⟩) n0 cap0 L0 := (l0.later (keeps_of_below hM8.bel)).wide (fun b hb => Nat.lt_of_lt_of_le hb hM8.bel.size)
                    have d0 := hM8.two.cell0
                    have d1 := hM8.two.cell1
                    go_wp2_with (go_at_call 8; refine (lsame_any (gg := w.heap.size + 1 + 1) hM8.tab.tab hI2 hkn h60 hM8.pl hM8.gn hR8).mono ?_; rintro e w5 ⟨rfl, hb5⟩)
                    go_roundw
                    case rel => exact ⟨k + 1, upd A k p, updG G q, Z2, va, vn, vc, va', vc', by omega, by go_num, hM8.next hb5, hI2, fun j hj => by unfold updG; rw [if_neg (by omega)]; exact hGk j (by omega)⟩
                    case measure => simp [intOf]; omega
            · have hd' : decide ((k : Int) < (n1 : Int)) = false := decide_eq_false (by omega)
              go_wp2_with (go_at_call 8; refine (lsame_any (gg := w.heap.size + 1 + 1) hM4.tab.tab hI1 hkn h60 hM4.pl hM4.gn hR4).mono ?_; rintro e w5 ⟨rfl, hb5⟩)
              go_roundw
              case rel => exact ⟨k + 1, upd A k p, G, Z1, ua, un, uc, ua', uc', by omega, by go_num, hM4.next hb5, hI1, fun j hj => hGk j (by omega)⟩
              case measure => simp [intOf]; omega
          · have hx' : decide ((16 : Int) < (kx : Int)) = true := decide_eq_true (by omega)
            have hbl := hM.bel
            clear hI hM hGk
            go_wp2_with (first | (go_at_call 5; refine (rlfit_any qLw (Nat.le_refl _)).mono ?_; rintro e w1 ⟨rfl, hb1⟩; rw [hf]) | (go_at_call 4; refine (awake_any _).mono ?_; rintro e w2 ⟨rfl, hb2⟩))
            go_ret
            exact ⟨rfl, (hbl.trans (hb1.mono hbl.size)).trans (hb2.mono (Nat.le_trans hbl.size hb1.size))⟩
      · obtain rfl : k = n0 := by omega
        clear hGk
        have hI0 : Inv (fun i => L0.getD i []) A (fun t => G t || decide (t < 0)) k Z := hI.congr (fun t => by simp)
        clear hI
        go_wp2
        go_loopw [103] (fun i ws => ∃ (j : Nat) (Z : Zt) (a : Option Addr) (n c : Nat) (a' : Option Addr) (c' : Nat), j ≤ k ∧ i = .int .i64 j ∧ Mem w.heap.size w ws k A G Z a n c a' c' ∧ Inv (fun i => L0.getD i []) A (fun t => G t || decide (t < j)) k Z) (fun i _ => k - (intOf i).toNat)
        case atStart => exact ⟨0, _, _, _, _, _, _, by omega, rfl, hM, hI0⟩
        case round =>
          clear hI0 hM
          obtain ⟨j, Z, a, n, c, a', c', hj, rfl, hMs, hIs⟩ := hrel
          by_cases hjk : j < k
          · have hjk' : (j : Int) < (k : Int) := by omega
            have g0 : wr.cell? ⟨w.heap.size + 1 + 1, j, none⟩ = some (.bool (G j)) := hMs.gn.cell hjk
            cases hgj : G j with
            | true =>
              rw [hgj] at g0
              go_wp2
              go_roundw
              case rel => exact ⟨j + 1, Z, a, n, c, a', c', by omega, by go_num, hMs, hIs.congr (fun t => by
                by_cases ht : t = j
                · subst ht; simp [hgj]
                · congr 1; exact decide_eq_decide.2 (by omega))⟩
              case measure => simp [intOf]; omega
            | false =>
              rw [hgj] at g0
              obtain ⟨ed, hI2⟩ := hIs.drop (j := j) hjk (by simp [hgj])
              have a0 : wr.cell? ⟨w.heap.size + 1, j, none⟩ = some (.int .i64 (A j : Nat)) := hMs.pl.cell hjk
              have hDrop : ∀ W, Below wr.heap.size wr W → Calls Try.prog 7 #[.agg #[.slice a n c, .slice a' n c'], .int .i64 (A j : Nat)] W fun e w' => ∃ a1 n1 c1 a1' c1', e = .returned (.tuple #[.agg #[.slice a1 n1 c1, .slice a1' n1 c1'], .int .i64 0]) ∧ TabP W.heap.size w' a1 n1 c1 a1' c1' (dropR Z (A j)).1 ∧ Below W.heap.size W w' := by
                intro W hW
                have := tdrop_new (A j) (hMs.tab.tab.next hW) hIs.fit
                rw [ed] at this
                exact this
              obtain ⟨Z2, hZ2⟩ : ∃ Z2, Hid ((dropR Z (A j)).1 = Z2) := ⟨_, rfl⟩
              rw [hZ2.out] at hI2
              simp only [hZ2.out] at hDrop
              have hI3 : Inv (fun i => L0.getD i []) A (fun t => G t || decide (t < j + 1)) k Z2 := hI2.congr (fun t => gone_step G j t)
              obtain ⟨r, hr⟩ : ∃ r, Hid (A j = r) := ⟨_, rfl⟩
              rw [hr.out] at a0
              simp only [hr.out] at hDrop
              have d0 := hMs.two.cell0
              have d1 := hMs.two.cell1
              have hs4 := hMs.two.lt
              have hs5 := hMs.pl.lt
              have hsz := hMs.sz
              have nb1 : wr.heap.size ≠ w.heap.size := by omega
              have nb2 : wr.heap.size ≠ w.heap.size + 1 := by omega
              have hAl4 : Below wr.heap.size wr (wr.alloc (.cells #[.slice none 0 0, .slice none 0 0] 27)) := (Below.refl _ _).alloc (Nat.le_refl _) _
              clear ed hI2 hIs
              go_upto_region 27 with fail
              go_region_held3 (fun w' => w'.cell? ⟨w.heap.size, 0, none⟩ = some (.slice a n c) ∧ w'.cell? ⟨w.heap.size, 1, none⟩ = some (.slice a' n c') ∧ w'.cell? ⟨w.heap.size + 1, j, none⟩ = some (.int .i64 (r : Nat))) (first | go_keep | (refine ⟨?_, ?_, ?_⟩ <;> simp only [cell_set_ne nb1, cell_set_ne nb2] <;> assumption)) (first | (go_at_call 7; refine (hDrop _ (Below.refl _ wr).drew).mono ?_; rintro e w6 ⟨va, vn, vc, va', vc', rfl, hT6, hb6'⟩; have hb6 : Below wr.heap.size wr w6 := (Below.refl _ wr).drew.trans hb6'; have i0 := (hb6.cell (p := ⟨w.heap.size, 0, none⟩) hs4).trans d0; have i1 := (hb6.cell (p := ⟨w.heap.size, 1, none⟩) hs4).trans d1; have i2 := (hb6.cell (p := ⟨w.heap.size + 1, j, none⟩) hs5).trans a0) | (go_at_call 7; refine (hDrop _ hAl4.drew).mono ?_; rintro e w6 ⟨va, vn, vc, va', vc', rfl, hT6, hb6'⟩; have hb6 : Below wr.heap.size wr w6 := hAl4.drew.trans (hb6'.mono (by simp)); have i0 := (hb6.cell (p := ⟨w.heap.size, 0, none⟩) hs4).trans d0; have i1 := (hb6.cell (p := ⟨w.heap.size, 1, none⟩) hs4).trans d1; have i2 := (hb6.cell (p := ⟨w.heap.size + 1, j, none⟩) hs5).trans a0; have tq : Two w6 wr.heap.size 27 (.slice none 0 0) (.slice none 0 0) := (hb6'.block wr.heap.size (by simp)).trans (Two.new wr 27 _ _); have t0 := tq.cell0; have t1 := tq.cell1; have t2 := tq.frozen0 0; have t3 := tq.frozen0 1))
              · have hal6 : Below w6.heap.size w6 (w6.alloc (.cells #[.slice va vn vc, .slice va' vn vc'] 27)) := (Below.refl _ _).alloc (Nat.le_refl _) _
                have hMX := (hMs.next hb6).next hal6
                have hTX : TabP (w.heap.size + 3) (w6.alloc (.cells #[.slice va vn vc, .slice va' vn vc'] 27)) va vn vc va' vc' Z2 := (hT6.mono hMs.sz).next hal6
                have tuX := Two.new w6 27 (.slice va vn vc) (.slice va' vn vc')
                obtain ⟨X, hX⟩ : ∃ X, Hid (w6.alloc (.cells #[.slice va vn vc, .slice va' vn vc'] 27) = X) := ⟨_, rfl⟩
                rw [hX.out] at hMX hTX tuX ⊢
                clear hX hal6 i0 i1 i2 hT6 hb6 hb6' d0 d1 g0
                have x0 := tuX.cell0
                have x1 := tuX.cell1
                have v0 := hMX.two.cell0
                have v1 := hMX.two.cell1
                have z0 := hMX.two.frozen0 0
                have z1 := hMX.two.frozen0 1
                have hM7 := hMX.table hTX
                go_wp2
                go_roundw
                case rel => exact ⟨j + 1, Z2, va, vn, vc, va', vc', by omega, by go_num, hM7, hI3⟩
                case measure => simp [intOf]; omega
              · have hMX := (hMs.next hb6).over (x := .slice va vn vc) (y := .slice va' vn vc') tq hMs.sz
                obtain ⟨tuX, kX⟩ := box_over (x := .slice va vn vc) (y := .slice va' vn vc') tq
                have hTX : TabP (w.heap.size + 3) ((w6.setCell ⟨wr.heap.size, 0, none⟩ (.slice va vn vc)).setCell ⟨wr.heap.size, 1, none⟩ (.slice va' vn vc')) va vn vc va' vc' Z2 := (hT6.mono (by have := hMs.sz; simp; omega)).kty kX
                obtain ⟨X, hX⟩ : ∃ X, Hid ((w6.setCell ⟨wr.heap.size, 0, none⟩ (.slice va vn vc)).setCell ⟨wr.heap.size, 1, none⟩ (.slice va' vn vc') = X) := ⟨_, rfl⟩
                rw [hX.out] at hMX hTX tuX ⊢
                clear hX kX i0 i1 i2 hT6 hb6 hb6' d0 d1 g0 tq t0 t1 t2 t3
                have x0 := tuX.cell0
                have x1 := tuX.cell1
                have v0 := hMX.two.cell0
                have v1 := hMX.two.cell1
                have z0 := hMX.two.frozen0 0
                have z1 := hMX.two.frozen0 1
                have hM7 := hMX.table hTX
                go_wp2
                go_roundw
                case rel => exact ⟨j + 1, Z2, va, vn, vc, va', vc', by omega, by go_num, hM7, hI3⟩
                case measure => simp [intOf]; omega
          · obtain rfl : j = k := by omega
            have hZ : Z = [] := hIs.empty (fun i hi => by simp [hi])
            subst hZ
            have hn := hMs.tab.len
            have hn0 : n = 0 := by simpa using hn.symm
            subst hn0
            have d0 := hMs.two.cell0
            have d1 := hMs.two.cell1
            have hbl := hMs.bel
            clear hn hIs
            go_wp2_with (go_at_call 4; refine (awake_any _).mono ?_; rintro e w1 ⟨rfl, hb1⟩)
            go_ret
            exact ⟨rfl, hbl.trans (hb1.mono hbl.size)⟩
  · have h60' : decide ((60 : Int) < (n0 : Int)) = true := decide_eq_true (by omega)
    go_enter Try.func3, Try.ntmps3
    go_wp2_with (go_at_call 4; refine (awake_any _).mono ?_; rintro e w1 ⟨rfl, hb1⟩)
    go_ret
    exact ⟨rfl, hb1⟩

set_option maxRecDepth 100000 in
theorem lifted (os : Os) (started : os.Started) (H : Type) (enc : TypeId × Value → H) :
    ReturnsInHanded {} Try.checked os 3 .any (Rows.internOnceSpec.pre6 enc Try.prog Try.f3 Rows.internOnceRow.domain false) (Rows.internOnceSpec.post enc Try.prog Try.f3 false true false false) := by
  refine returnsInHanded_of_change (C := Try.checked) own started (by kernel_rfl) Try.func3
    (ChangeSpec.witness6 (enc := enc) (C := Try.checked) false ⟨#[], #[.slice none 0 0, .slice none 0 0], []⟩ 8 (by kernel_rfl) (by kernel_rfl) (by kernel_rfl) (by kernel_rfl)) ?_
  intro W base args ds gs before hval0 hW hcnd _
  have hval : ∀ (j : Nat) t v, Try.f3.params[j]? = some t → args[j]? = some v → Value.okWide Try.prog W .any base t v := hval0
  have hW' := hW
  obtain ⟨p, q, hA0, hV, rfl, hfz, hnd⟩ := hW
  have hA : DataW.TrodAll enc Try.prog W 0 (fun _ => true) true Try.f3.params.toList args.toList ds p := hA0
  rw [Try.params3] at hA hval
  obtain ⟨v0, vs0, d0, ds0, p0, q0, hargs, rfl, rfl, h0, r0⟩ := trodAll_cons hA
  obtain ⟨v1, vs1, d1, ds1, p1, q1, rfl, rfl, rfl, h1, r1⟩ := trodAll_cons r0
  obtain ⟨rfl, rfl, rfl⟩ := trodAll_nil r1
  obtain rfl : args = #[v0, v1] := by cases args; simp_all
  obtain ⟨rfl, rfl⟩ := trodVars_none hV
  obtain ⟨ao0, n0, cap0, rfl⟩ := okWide_slice Try.underlying22 (hval 0 22 v0 rfl rfl)
  have k0 := h0
  have lt0 : ∀ x ∈ p0, x.block < W.heap.size := by obtain ⟨m, hm⟩ := k0; exact DataW.trod_lt m _ _ _ hm
  obtain ⟨L0, l0⟩ := rowD_of_trod h0
  obtain ⟨ao1, n1, cap1, rfl⟩ := okWide_slice Try.underlying23 (hval 1 23 v1 rfl rfl)
  have k1 := h1
  have lt1 : ∀ x ∈ p1, x.block < W.heap.size := by obtain ⟨m, hm⟩ := k1; exact DataW.trod_lt m _ _ _ hm
  obtain ⟨L1, l1⟩ := boolD_of_trod h1
  clear hA0 hval0
  refine (walk ao0 n0 cap0 L0 ao1 n1 cap1 L1 W l0 l1).mono fun e W' ⟨he, bel⟩ => ?_
  subst he
  exact ⟨_, rfl, _, _, _, [], _, [], hW', trodAll_mk1 (shut_bool Try.underlying4 _), (trodAll_cons_mk (Below.trod laidOut (by kernel_rfl) (of_decide_eq_true (by kernel_rfl)) k0 bel lt0) (trodAll_cons_mk (Below.trod laidOut (by kernel_rfl) (of_decide_eq_true (by kernel_rfl)) k1 bel lt1) trodAll_mk0)), rfl, bel.frame _, fun h => by cases h⟩

theorem over : Rows.internOnceRow.holds Try.pinned (OpenSpec.ofChange Rows.internOnceSpec) :=
  OpenClaim.holds_of_wide 3 Try.f3 rfl rfl rfl rfl rfl rfl rfl ⟨rfl, rfl, rfl, rfl, rfl⟩ rfl rfl rfl rfl rfl (by kernel_rfl) Try.func3 (by kernel_rfl)
    (of_decide_eq_true (by kernel_rfl)) (by unfold Func.isWrapper; first | (rw [if_pos (by decide +kernel)]; kernel_rfl) | (rw [if_neg (by decide +kernel)]; exact ⟨rfl, rfl⟩))
    (fun os started H enc _ => lifted os started H enc)

end internOnce
/-- The statement. -/
theorem internOnce_holds : Rows.InternOnceSaid :=
  internOnce.over
#print axioms internOnce_holds
end Go.Proofs.Ytjkncajcmdlmgaa
