/-
  PROVED HERE: FramesEach (P11.5, P11.6): whatever is taken, given and dropped by whomever, what is free and what all hold is all there is; a page that was taken is found at its frame, until it is given; no frame is of two: any number, any row of takers.
-/
import Derived.Test.YtjdjiooblfgmlaaRows
import Derived.Test.YtjdjiooblfgmlaaFrmOpen
import Derived.Test.YtjdjiooblfgmlaaFrm16
import Derived.WalkKit
import Derived.ProofKit
import Derived.OpenShut
import Derived.Below
import Derived.ShutString
import Derived.Deep.QuietTactic
import Derived.Deep.DeepCutAuto
import Derived.Deep.CutBlock
namespace Go.Proofs.Ytjdjiooblfgmlaa
namespace framesEach
open Go.ChangeShapes Go.WideShapes Go.ChangeAt Go.RowKit
open Go.ChangeMaps (open_string shut_string)
set_option linter.unusedVariables false

theorem own : ownKnob Try.prog.godebug = none := by kernel_rfl

set_option maxRecDepth 100000 in
set_option maxHeartbeats 8000000 in
theorem walk (a0 : Int) (ao1 : Option Addr) (n1 cap1 : Nat) (L1 : List Nat) (w : World) (w0 : (Lit.int .u8 a0).wf = true) (l1 : HalfD w ao1 n1 cap1 L1) :
    Calls Try.prog 4 #[.int .u8 a0, .slice ao1 n1 cap1] w fun e w' => e = .returned (.bool true) ∧ Below w.heap.size w w' := by
  obtain ⟨hlen, hnc, hcm, hby⟩ := l1
  have hw0 : 0 ≤ a0 ∧ a0 ≤ 255 := by simpa [Lit.wf, IntKind.min, IntKind.max, IntKind.bits, IntKind.signed] using w0
  obtain ⟨N, rfl⟩ : ∃ N : Nat, a0 = N := ⟨a0.toNat, by omega⟩
  obtain ⟨nn, hnn⟩ : ∃ nn : Nat, Hid (N % 40 = nn) := ⟨_, rfl⟩
  have hn40 : nn < 40 := by rw [← hnn.out]; exact Nat.mod_lt _ (by omega)
  have hni : (N : Int) % 40 = (nn : Int) := by rw [← hnn.out]; rfl
  by_cases h80 : n1 ≤ 80
  · go_enter Try.func4, Try.ntmps4
    have hnw := new_own nn (by omega) w
    go_upto_region 6 with (go_at_call 7; refine hnw.mono ?_; rintro e w1 ⟨aoM, capM, rfl, hown, hb1⟩)
    clear hnw
    have hR0 : TabR (w1.alloc (.cells #[.int .i64 0, .int .i64 0, .int .i64 0, .int .i64 0, .int .i64 0, .int .i64 0, .int .i64 0, .int .i64 0, .int .i64 0, .int .i64 0, .int .i64 0, .int .i64 0, .int .i64 0, .int .i64 0, .int .i64 0, .int .i64 0] 46)) w1.heap.size (fun j => if j / 4 < 0 then -1 else 0) := tab_new w1
    have hM0 : LabX w1.heap.size (w1.alloc (.cells #[.int .i64 0, .int .i64 0, .int .i64 0, .int .i64 0, .int .i64 0, .int .i64 0, .int .i64 0, .int .i64 0, .int .i64 0, .int .i64 0, .int .i64 0, .int .i64 0, .int .i64 0, .int .i64 0, .int .i64 0, .int .i64 0] 46)) aoM nn capM (Frm.newL nn) :=
      (LabD.later hown.lab (keeps_of_below ((Below.refl _ w1).alloc (Nat.le_refl _) _))).wide fun b hb => ⟨by simp; omega, by omega⟩
    have hB0 : Below w.heap.size w (w1.alloc (.cells #[.int .i64 0, .int .i64 0, .int .i64 0, .int .i64 0, .int .i64 0, .int .i64 0, .int .i64 0, .int .i64 0, .int .i64 0, .int .i64 0, .int .i64 0, .int .i64 0, .int .i64 0, .int .i64 0, .int .i64 0, .int .i64 0] 46)) := hb1.alloc hb1.size _
    have hBt : w.heap.size ≤ w1.heap.size := hb1.size
    clear hown hb1
    go_upto_region 7 with fail
    obtain ⟨W2, hW2⟩ : ∃ W2, w1.alloc (.cells #[.int .i64 0, .int .i64 0, .int .i64 0, .int .i64 0, .int .i64 0, .int .i64 0, .int .i64 0, .int .i64 0, .int .i64 0, .int .i64 0, .int .i64 0, .int .i64 0, .int .i64 0, .int .i64 0, .int .i64 0, .int .i64 0] 46) = W2 := ⟨_, rfl⟩
    rw [hW2] at hR0 hM0 hB0
    rw [hW2]
    clear hW2
    obtain ⟨Bt, hBte⟩ : ∃ Bt, w1.heap.size = Bt := ⟨_, rfl⟩
    rw [hBte] at hR0 hM0 hBt
    rw [hBte]
    clear hBte
    go_wp2
    go_loopw [41] (fun i wr => ∃ k : Nat, k ≤ 4 ∧ i = .int .i64 k ∧ TabR wr Bt (fun j => if j / 4 < k then -1 else 0) ∧ LabX Bt wr aoM nn capM (Frm.newL nn) ∧ Below w.heap.size w wr) (fun i _ => 4 - (intOf i).toNat)
    case atStart => exact ⟨0, by omega, rfl, hR0, hM0, hB0⟩
    case round =>
      clear hR0 hM0 hB0
      obtain ⟨k, hk, rfl, hR, hM, hB⟩ := hrel
      by_cases hk4 : k < 4
      · have hk4' : (k : Int) < 4 := by omega
        have r0 := hR.at (i := k * 4) (by omega)
        have r1 := hR.at (i := k * 4 + 1) (by omega)
        have r2 := hR.at (i := k * 4 + 2) (by omega)
        have r3 := hR.at (i := k * 4 + 3) (by omega)
        have fz := hR.fz
        go_wp2
        go_roundw
        case rel => exact ⟨k + 1, by omega, by go_num, tab_step (hR.put4 hk4), (((hM.set _ _).set _ _).set _ _).set _ _, (((hB.setCell (p := ⟨Bt, _, none⟩) hBt _).setCell (p := ⟨Bt, _, none⟩) hBt _).setCell (p := ⟨Bt, _, none⟩) hBt _).setCell (p := ⟨Bt, _, none⟩) hBt _⟩
        case measure => simp [intOf]; omega
      · obtain rfl : k = 4 := by omega
        have hR1 := tab_full hR
        simp only [show ((4 : Nat) : Int) = 4 from rfl]
        have hE1 : Hid (Frm.Eci nn (Frm.newL nn) (fun _ => -1)) := Frm.Eci.new nn
        go_wp2
        go_loopw [5, 50] (fun vl vi wr => ∃ (k : Nat) (M : List Frm.Fr) (A : Nat → Int) (ao : Option Addr) (cap : Nat), k ≤ n1 ∧ vi = .int .i64 k ∧ vl = .slice ao nn cap ∧ TabR wr Bt A ∧ LabX Bt wr ao nn cap M ∧ Below w.heap.size w wr ∧ Hid (Frm.Eci nn M A)) (fun _ vi _ => n1 - (intOf vi).toNat)
        case atStart => exact ⟨0, _, _, _, _, by omega, rfl, rfl, hR1, hM, hB, hE1⟩
        case round =>
          clear hR hR1 hM hB hE1
          obtain ⟨k, M, A, ao, cap, hk, rfl, rfl, hR, hM, hB, hE⟩ := hrel
          by_cases hkn : k < n1
          · have hkn' : (k : Int) < n1 := by omega
            obtain ⟨hX, b, off, rfl, hbl, hcell⟩ := hby k hkn
            have hcw := (hB.cell (p := ⟨b, off + k, none⟩) hbl).trans hcell
            obtain ⟨X, hXX⟩ : ∃ z, Hid (L1.getD k 0 = z) := ⟨_, rfl⟩
            rw [hXX.out] at hX hcw
            obtain ⟨o, hoo⟩ : ∃ o : Nat, Hid (X / 4 % 4 = o) := ⟨_, rfl⟩
            obtain ⟨p, hpp⟩ : ∃ p : Nat, Hid (X / 16 % 4 = p) := ⟨_, rfl⟩
            have ho4 : o < 4 := by rw [← hoo.out]; exact Nat.mod_lt _ (by omega)
            have hp4 : p < 4 := by rw [← hpp.out]; exact Nat.mod_lt _ (by omega)
            have hao : bits .and .u16 ((X : Int) / 4) 3 = (o : Int) := (and3_at hX 4 (by omega)).trans (by rw [hoo.out])
            have hap : bits .and .u16 ((X : Int) / 16) 3 = (p : Int) := (and3_at hX 16 (by omega)).trans (by rw [hpp.out])
            have hwo : IntKind.u64.wrap ((o : Int) + 1) = (o : Int) + 1 := by rw [IntKind.wrap_u64]; omega
            clear hcell
            go_upto_block 4 with fail
            go_cut [5, 14, 15, 16, 17, 18, 19, 20, 21, 66] (fun vl _ _ _ _ _ _ _ _ _ wc => ∃ (M : List Frm.Fr) (A : Nat → Int) (ao : Option Addr) (cap : Nat), vl = .slice ao nn cap ∧ TabR wc Bt A ∧ LabX Bt wc ao nn cap M ∧ Below w.heap.size w wc ∧ Hid (Frm.Eci nn M A))
            case first =>
              have has := and3 hX
              have hs4 : X % 4 = 0 ∨ X % 4 = 1 ∨ X % 4 = 2 ∨ X % 4 = 3 := by omega
              have hcM := hM.2.1
              have hmM := hM.2.2.1.1
              have r0 := hR.at (i := o * 4 + p) (by omega)
              have fz := hR.fz
              have hLM := hM.lab
              have hlt := hR.lt
              rcases hs4 with hs | hs | hs | hs
              · rw [hs] at has
                have has' : bits .and .u16 (X : Int) 3 = 0 := has
                clear has
                rcases Frm.tk_cases M (o := o) hp4 with ⟨hT1, hT2⟩ | ⟨hT1, hT2⟩ | ⟨hT1, hT2, hT3⟩
                · have hE2 : Hid (Frm.Eci nn (Frm.tkL M ((o : Int) + 1) (p : Int)) (Frm.upd A (o * 4 + p) (Frm.tkN M ((o : Int) + 1) (p : Int)))) := hE.out.take ho4 hp4 hT1
                  have hhas := hE.out.has ho4 hp4
                  rw [hT2] at hhas
                  have htk := take_own hLM (by omega) ((o : Int) + 1) (p : Int)
                  rw [hT1] at htk
                  clear hT1 hT2
                  go_wp2_with (go_at_call 13; refine htk.mono ?_; rintro e w3 ⟨ao3, cap3, rfl, hown, hb3⟩; have hR3 := hR.next hb3; have fz3 := hR3.fz; have q0 := hR3.at (i := o * 4 + p) (by omega))
                  go_meet
                  case rel => exact ⟨_, _, _, _, rfl, hR3.put _ _, (hown.labX hlt).set _ _, (nextB hB hb3).setCell (p := ⟨Bt, _, none⟩) hBt _, hE2⟩
                · have hE2 : Hid (Frm.Eci nn (Frm.tkL M ((o : Int) + 1) (p : Int)) A) := hE.out.stay (by rw [hT1]; omega)
                  have hhas := hE.out.has ho4 hp4
                  rw [hT2] at hhas
                  have htk := take_own hLM (by omega) ((o : Int) + 1) (p : Int)
                  rw [hT1] at htk
                  clear hT1 hT2
                  go_wp2_with (go_at_call 13; refine htk.mono ?_; rintro e w3 ⟨ao3, cap3, rfl, hown, hb3⟩; have hR3 := hR.next hb3; have fz3 := hR3.fz; have q0 := hR3.at (i := o * 4 + p) (by omega))
                  go_meet
                  case rel => exact ⟨_, _, _, _, rfl, hR3, hown.labX hlt, nextB hB hb3, hE2⟩
                · have hE2 : Hid (Frm.Eci nn (Frm.tkL M ((o : Int) + 1) (p : Int)) A) := hE.out.stay (by rw [hT1]; omega)
                  have hhas := hE.out.has ho4 hp4
                  rw [hT2] at hhas
                  have htk := take_own hLM (by omega) ((o : Int) + 1) (p : Int)
                  rw [hT1] at htk
                  clear hT1 hT2
                  go_wp2_with (first | (go_at_call 13; refine htk.mono ?_; rintro e w3 ⟨ao3, cap3, rfl, hown, hb3⟩; have hR3 := hR.next hb3; have fz3 := hR3.fz; have q0 := hR3.at (i := o * 4 + p) (by omega)) | (go_at_call 21; refine (free_any (hLM.next hb3)).mono ?_; rintro e w4 ⟨rfl, hb4⟩; rw [hT3]))
                  go_meet
                  case rel => exact ⟨_, _, _, _, rfl, hR3.next hb4, (hown.labX hlt).next hb4, nextB (nextB hB hb3) hb4, hE2⟩
              · rw [hs] at has
                have has' : bits .and .u16 (X : Int) 3 = 1 := has
                clear has
                rcases Frm.tk_cases M (o := o) hp4 with ⟨hT1, hT2⟩ | ⟨hT1, hT2⟩ | ⟨hT1, hT2, hT3⟩
                · have hE2 : Hid (Frm.Eci nn (Frm.tkL M ((o : Int) + 1) (p : Int)) (Frm.upd A (o * 4 + p) (Frm.tkN M ((o : Int) + 1) (p : Int)))) := hE.out.take ho4 hp4 hT1
                  have hhas := hE.out.has ho4 hp4
                  rw [hT2] at hhas
                  have htk := take_own hLM (by omega) ((o : Int) + 1) (p : Int)
                  rw [hT1] at htk
                  clear hT1 hT2
                  go_wp2_with (go_at_call 13; refine htk.mono ?_; rintro e w3 ⟨ao3, cap3, rfl, hown, hb3⟩; have hR3 := hR.next hb3; have fz3 := hR3.fz; have q0 := hR3.at (i := o * 4 + p) (by omega))
                  go_meet
                  case rel => exact ⟨_, _, _, _, rfl, hR3.put _ _, (hown.labX hlt).set _ _, (nextB hB hb3).setCell (p := ⟨Bt, _, none⟩) hBt _, hE2⟩
                · have hE2 : Hid (Frm.Eci nn (Frm.tkL M ((o : Int) + 1) (p : Int)) A) := hE.out.stay (by rw [hT1]; omega)
                  have hhas := hE.out.has ho4 hp4
                  rw [hT2] at hhas
                  have htk := take_own hLM (by omega) ((o : Int) + 1) (p : Int)
                  rw [hT1] at htk
                  clear hT1 hT2
                  go_wp2_with (go_at_call 13; refine htk.mono ?_; rintro e w3 ⟨ao3, cap3, rfl, hown, hb3⟩; have hR3 := hR.next hb3; have fz3 := hR3.fz; have q0 := hR3.at (i := o * 4 + p) (by omega))
                  go_meet
                  case rel => exact ⟨_, _, _, _, rfl, hR3, hown.labX hlt, nextB hB hb3, hE2⟩
                · have hE2 : Hid (Frm.Eci nn (Frm.tkL M ((o : Int) + 1) (p : Int)) A) := hE.out.stay (by rw [hT1]; omega)
                  have hhas := hE.out.has ho4 hp4
                  rw [hT2] at hhas
                  have htk := take_own hLM (by omega) ((o : Int) + 1) (p : Int)
                  rw [hT1] at htk
                  clear hT1 hT2
                  go_wp2_with (first | (go_at_call 13; refine htk.mono ?_; rintro e w3 ⟨ao3, cap3, rfl, hown, hb3⟩; have hR3 := hR.next hb3; have fz3 := hR3.fz; have q0 := hR3.at (i := o * 4 + p) (by omega)) | (go_at_call 21; refine (free_any (hLM.next hb3)).mono ?_; rintro e w4 ⟨rfl, hb4⟩; rw [hT3]))
                  go_meet
                  case rel => exact ⟨_, _, _, _, rfl, hR3.next hb4, (hown.labX hlt).next hb4, nextB (nextB hB hb3) hb4, hE2⟩
              · rw [hs] at has
                have has' : bits .and .u16 (X : Int) 3 = 2 := has
                clear has
                cases hf : Frm.fF (Frm.poB ((o : Int) + 1) (p : Int)) M with
                | true =>
                  have hE2 : Hid (Frm.Eci nn (Frm.gvL M ((o : Int) + 1) (p : Int)) (Frm.upd A (o * 4 + p) (-1))) := hE.out.give ho4 hp4
                  have hhas := hE.out.has ho4 hp4
                  have hgE : Frm.gvE M ((o : Int) + 1) (p : Int) = 0 := by unfold Frm.gvE; rw [hf]; rfl
                  rw [hf] at hhas
                  have hgv := give_own hLM (by omega) ((o : Int) + 1) (p : Int)
                  rw [hgE] at hgv
                  clear hf hgE
                  go_wp2_with (go_at_call 15; refine hgv.mono ?_; rintro e w3 ⟨ao3, cap3, rfl, hown, hb3⟩; have hR3 := hR.next hb3; have fz3 := hR3.fz; have q0 := hR3.at (i := o * 4 + p) (by omega))
                  go_region
                  go_wp2
                  go_meet
                  case rel => exact ⟨_, _, _, _, rfl, World.rowIs.drew (hR3.put _ _), (hown.labX hlt).set _ _, ((nextB hB hb3).setCell (p := ⟨Bt, _, none⟩) hBt _).drew, hE2⟩
                | false =>
                  have hE2 : Hid (Frm.Eci nn (Frm.gvL M ((o : Int) + 1) (p : Int)) (Frm.upd A (o * 4 + p) (-1))) := hE.out.give ho4 hp4
                  have hhas := hE.out.has ho4 hp4
                  have hgE : Frm.gvE M ((o : Int) + 1) (p : Int) = 1 := by unfold Frm.gvE; rw [hf]; rfl
                  rw [hf] at hhas
                  have hgv := give_own hLM (by omega) ((o : Int) + 1) (p : Int)
                  rw [hgE] at hgv
                  clear hf hgE
                  go_wp2_with (go_at_call 15; refine hgv.mono ?_; rintro e w3 ⟨ao3, cap3, rfl, hown, hb3⟩; have hR3 := hR.next hb3; have fz3 := hR3.fz; have q0 := hR3.at (i := o * 4 + p) (by omega))
                  go_region
                  go_wp2
                  go_meet
                  case rel => exact ⟨_, _, _, _, rfl, World.rowIs.drew (hR3.put _ _), (hown.labX hlt).set _ _, ((nextB hB hb3).setCell (p := ⟨Bt, _, none⟩) hBt _).drew, hE2⟩
              · rw [hs] at has
                have has' : bits .and .u16 (X : Int) 3 = 3 := has
                clear has
                have hdr := drop_own hLM (by omega) ((o : Int) + 1)
                have hE2 : Hid (Frm.Eci nn (Frm.dropL ((o : Int) + 1) M) (Frm.upd4 A o)) := hE.out.drop ho4
                go_wp2_with (go_at_call 17; refine hdr.mono ?_; rintro e w3 ⟨ao3, cap3, rfl, hown, hb3⟩; have hR3 := hR.next hb3; have fz3 := hR3.fz; have q0 := hR3.at (i := o * 4) (by omega); have q1 := hR3.at (i := o * 4 + 1) (by omega); have q2 := hR3.at (i := o * 4 + 2) (by omega); have q3 := hR3.at (i := o * 4 + 3) (by omega))
                go_meet
                case rel => exact ⟨_, _, _, _, rfl, hR3.put4 ho4, ((((hown.labX hlt).set _ _).set _ _).set _ _).set _ _, ((((nextB hB hb3).setCell (p := ⟨Bt, _, none⟩) hBt _).setCell (p := ⟨Bt, _, none⟩) hBt _).setCell (p := ⟨Bt, _, none⟩) hBt _).setCell (p := ⟨Bt, _, none⟩) hBt _, hE2⟩
            case rest =>
              clear hR hM hB hE
              obtain ⟨M, A, ao, cap, rfl, hR, hM, hB, hE⟩ := hcut
              have hAll := hE.out.all
              have hMl : Hid (M.length = nn) := hE.out.len
              go_wp2
              go_loopw [22, 146] (fun vh vi wr => ∃ i : Nat, i ≤ 4 ∧ vi = .int .i64 i ∧ vh = .int .i64 (Frm.hs M i : Nat) ∧ TabR wr Bt A ∧ LabX Bt wr ao nn cap M ∧ Below w.heap.size w wr) (fun _ vi _ => 4 - (intOf vi).toNat)
              case atStart => exact ⟨0, by omega, rfl, rfl, hR, hM, hB⟩
              case round =>
                clear hR hM hB
                obtain ⟨i, hi, rfl, rfl, hR, hM, hB⟩ := hrel
                by_cases hi4 : i < 4
                · have hi4' : (i : Int) < 4 := by omega
                  have hwi : IntKind.u64.wrap ((i : Int) + 1) = (i : Int) + 1 := by rw [IntKind.wrap_u64]; omega
                  have hhd := held_any hM.lab ((i : Int) + 1)
                  have hs1 : Hid (Frm.hs M (i + 1) = Frm.hs M i + Frm.cnt (Frm.hdB ((i : Int) + 1)) M) := rfl
                  have hs2 : Frm.hs M i ≤ 4 * 40 := by have h1 := Frm.hs_le M i; rw [hMl.out] at h1; exact Nat.le_trans h1 (Nat.mul_le_mul (by omega) (by omega))
                  have hs3 : Frm.cnt (Frm.hdB ((i : Int) + 1)) M ≤ 40 := by have h1 := Frm.cnt_le (P := Frm.hdB ((i : Int) + 1)) (L := M); rw [hMl.out] at h1; omega
                  obtain ⟨c, hc⟩ : ∃ c, Hid (Frm.cnt (Frm.hdB ((i : Int) + 1)) M = c) := ⟨_, rfl⟩
                  obtain ⟨h, hh⟩ : ∃ h, Hid (Frm.hs M i = h) := ⟨_, rfl⟩
                  have hs1' : Hid (Frm.hs M (i + 1) = h + c) := by show _ = _; rw [hs1.out, hc.out, hh.out]
                  rw [hc.out] at hs3 hhd
                  rw [hh.out] at hs2 ⊢
                  clear hs1
                  go_upto_region 39 with (go_at_call 23; refine hhd.mono ?_; rintro e w5 ⟨rfl, hb5⟩)
                  have hR5 := hR.next hb5
                  have hM5 := hM.next hb5
                  have hB5 := nextB hB hb5
                  clear hR hM hB hb5 hhd
                  have r0 := hR5.at (i := i * 4) (by omega)
                  have r1 := hR5.at (i := i * 4 + 1) (by omega)
                  have r2 := hR5.at (i := i * 4 + 2) (by omega)
                  have r3 := hR5.at (i := i * 4 + 3) (by omega)
                  go_wp2
                  go_loopw [159] (fun vj wr => ∃ j : Nat, j ≤ 4 ∧ vj = .int .i64 j ∧ TabR wr Bt A ∧ LabX Bt wr ao nn cap M ∧ Below w.heap.size w wr) (fun vj _ => 4 - (intOf vj).toNat)
                  case atStart => exact ⟨0, by omega, rfl, hR5, hM5, hB5⟩
                  case round =>
                    clear hR5 hM5 hB5 r0 r1 r2 r3
                    obtain ⟨j, hj, rfl, hR, hM, hB⟩ := hrel
                    by_cases hj4 : j < 4
                    · have hj5 : j = 0 ∨ j = 1 ∨ j = 2 ∨ j = 3 := by omega
                      rcases hj5 with rfl | rfl | rfl | rfl
                      · have hhas : decide (0 ≤ A (i * 4)) = Frm.fF (Frm.poB ((i : Int) + 1) 0) M := hE.out.has (o := i) (p := 0) hi4 (by omega)
                        have hfd := find_any hM.lab ((i : Int) + 1) 0
                        have hix : (Instr.index 45 (.agg #[.int .i64 (A (i * 4)), .int .i64 (A (i * 4 + 1)), .int .i64 (A (i * 4 + 2)), .int .i64 (A (i * 4 + 3))]) (.int .i64 0)).run Try.prog wr = .ok (.int .i64 (A (i * 4))) wr := idx0 _ _ _ _ wr
                        cases hf : Frm.fF (Frm.poB ((i : Int) + 1) 0) M with
                        | true =>
                          have hat : Frm.fN (Frm.poB ((i : Int) + 1) 0) M = A (i * 4) := hE.out.isAt (o := i) (p := 0) hi4 (by omega) hf
                          rw [hf] at hhas
                          rw [hf, hat] at hfd
                          clear hf hat
                          go_wp2_with (go_at_call 19; refine hfd.mono ?_; rintro e w6 ⟨rfl, hb6⟩)
                          go_roundw
                          case rel => exact ⟨0 + 1, by omega, by go_num, hR.next hb6, hM.next hb6, nextB hB hb6⟩
                          case measure => simp [intOf]
                        | false =>
                          rw [hf] at hhas
                          rw [hf] at hfd
                          clear hf
                          go_wp2_with (go_at_call 19; refine hfd.mono ?_; rintro e w6 ⟨rfl, hb6⟩)
                          go_roundw
                          case rel => exact ⟨0 + 1, by omega, by go_num, hR.next hb6, hM.next hb6, nextB hB hb6⟩
                          case measure => simp [intOf]
                      · have hhas : decide (0 ≤ A (i * 4 + 1)) = Frm.fF (Frm.poB ((i : Int) + 1) 1) M := hE.out.has (o := i) (p := 1) hi4 (by omega)
                        have hfd := find_any hM.lab ((i : Int) + 1) 1
                        have hix : (Instr.index 45 (.agg #[.int .i64 (A (i * 4)), .int .i64 (A (i * 4 + 1)), .int .i64 (A (i * 4 + 2)), .int .i64 (A (i * 4 + 3))]) (.int .i64 1)).run Try.prog wr = .ok (.int .i64 (A (i * 4 + 1))) wr := idx1 _ _ _ _ wr
                        cases hf : Frm.fF (Frm.poB ((i : Int) + 1) 1) M with
                        | true =>
                          have hat : Frm.fN (Frm.poB ((i : Int) + 1) 1) M = A (i * 4 + 1) := hE.out.isAt (o := i) (p := 1) hi4 (by omega) hf
                          rw [hf] at hhas
                          rw [hf, hat] at hfd
                          clear hf hat
                          go_wp2_with (go_at_call 19; refine hfd.mono ?_; rintro e w6 ⟨rfl, hb6⟩)
                          go_roundw
                          case rel => exact ⟨1 + 1, by omega, by go_num, hR.next hb6, hM.next hb6, nextB hB hb6⟩
                          case measure => simp [intOf]
                        | false =>
                          rw [hf] at hhas
                          rw [hf] at hfd
                          clear hf
                          go_wp2_with (go_at_call 19; refine hfd.mono ?_; rintro e w6 ⟨rfl, hb6⟩)
                          go_roundw
                          case rel => exact ⟨1 + 1, by omega, by go_num, hR.next hb6, hM.next hb6, nextB hB hb6⟩
                          case measure => simp [intOf]
                      · have hhas : decide (0 ≤ A (i * 4 + 2)) = Frm.fF (Frm.poB ((i : Int) + 1) 2) M := hE.out.has (o := i) (p := 2) hi4 (by omega)
                        have hfd := find_any hM.lab ((i : Int) + 1) 2
                        have hix : (Instr.index 45 (.agg #[.int .i64 (A (i * 4)), .int .i64 (A (i * 4 + 1)), .int .i64 (A (i * 4 + 2)), .int .i64 (A (i * 4 + 3))]) (.int .i64 2)).run Try.prog wr = .ok (.int .i64 (A (i * 4 + 2))) wr := idx2 _ _ _ _ wr
                        cases hf : Frm.fF (Frm.poB ((i : Int) + 1) 2) M with
                        | true =>
                          have hat : Frm.fN (Frm.poB ((i : Int) + 1) 2) M = A (i * 4 + 2) := hE.out.isAt (o := i) (p := 2) hi4 (by omega) hf
                          rw [hf] at hhas
                          rw [hf, hat] at hfd
                          clear hf hat
                          go_wp2_with (go_at_call 19; refine hfd.mono ?_; rintro e w6 ⟨rfl, hb6⟩)
                          go_roundw
                          case rel => exact ⟨2 + 1, by omega, by go_num, hR.next hb6, hM.next hb6, nextB hB hb6⟩
                          case measure => simp [intOf]
                        | false =>
                          rw [hf] at hhas
                          rw [hf] at hfd
                          clear hf
                          go_wp2_with (go_at_call 19; refine hfd.mono ?_; rintro e w6 ⟨rfl, hb6⟩)
                          go_roundw
                          case rel => exact ⟨2 + 1, by omega, by go_num, hR.next hb6, hM.next hb6, nextB hB hb6⟩
                          case measure => simp [intOf]
                      · have hhas : decide (0 ≤ A (i * 4 + 3)) = Frm.fF (Frm.poB ((i : Int) + 1) 3) M := hE.out.has (o := i) (p := 3) hi4 (by omega)
                        have hfd := find_any hM.lab ((i : Int) + 1) 3
                        have hix : (Instr.index 45 (.agg #[.int .i64 (A (i * 4)), .int .i64 (A (i * 4 + 1)), .int .i64 (A (i * 4 + 2)), .int .i64 (A (i * 4 + 3))]) (.int .i64 3)).run Try.prog wr = .ok (.int .i64 (A (i * 4 + 3))) wr := idx3 _ _ _ _ wr
                        cases hf : Frm.fF (Frm.poB ((i : Int) + 1) 3) M with
                        | true =>
                          have hat : Frm.fN (Frm.poB ((i : Int) + 1) 3) M = A (i * 4 + 3) := hE.out.isAt (o := i) (p := 3) hi4 (by omega) hf
                          rw [hf] at hhas
                          rw [hf, hat] at hfd
                          clear hf hat
                          go_wp2_with (go_at_call 19; refine hfd.mono ?_; rintro e w6 ⟨rfl, hb6⟩)
                          go_roundw
                          case rel => exact ⟨3 + 1, by omega, by go_num, hR.next hb6, hM.next hb6, nextB hB hb6⟩
                          case measure => simp [intOf]
                        | false =>
                          rw [hf] at hhas
                          rw [hf] at hfd
                          clear hf
                          go_wp2_with (go_at_call 19; refine hfd.mono ?_; rintro e w6 ⟨rfl, hb6⟩)
                          go_roundw
                          case rel => exact ⟨3 + 1, by omega, by go_num, hR.next hb6, hM.next hb6, nextB hB hb6⟩
                          case measure => simp [intOf]
                    · obtain rfl : j = 4 := by omega
                      go_wp2
                      go_roundw
                      case rel => exact ⟨i + 1, by omega, by go_num, by rw [hs1'.out]; go_num, hR, hM, hB⟩
                      case measure => simp [intOf]; omega
                · obtain rfl : i = 4 := by omega
                  have hfr := free_any hM.lab
                  obtain ⟨c, hc⟩ : ∃ c, Hid (Frm.cnt Frm.isF M = c) := ⟨_, rfl⟩
                  obtain ⟨h, hh⟩ : ∃ h, Hid (Frm.hs M 4 = h) := ⟨_, rfl⟩
                  rw [hc.out] at hfr hAll
                  rw [hh.out] at hAll ⊢
                  have hAll' : (h : Int) + (c : Int) = (nn : Int) := by omega
                  go_wp2_with (go_at_call 21; refine hfr.mono ?_; rintro e w6 ⟨rfl, hb6⟩)
                  go_roundw
                  case rel => exact ⟨k + 1, M, A, ao, cap, by omega, by go_num, rfl, hR.next hb6, hM.next hb6, nextB hB hb6, hE⟩
                  case measure => simp [intOf]; omega
          · obtain rfl : k = n1 := by omega
            have H : Labs wr [] := Labs.nil wr
            go_wp2_with ((go_at_call 6; refine (awake11 _).mono ?_; rintro e w1 ⟨rfl, hb⟩; replace H := H.next hb; replace hB := nextB hB hb; clear hb))
            go_ret
            exact ⟨rfl, hB⟩
  · have hB : Below w.heap.size w w := Below.refl _ _
    have H : Labs w [] := Labs.nil w
    go_enter Try.func4, Try.ntmps4
    go_wp2_with ((go_at_call 6; refine (awake11 _).mono ?_; rintro e w1 ⟨rfl, hb⟩; replace H := H.next hb; replace hB := nextB hB hb; clear hb))
    go_ret
    exact ⟨rfl, hB⟩

set_option maxRecDepth 100000 in
theorem lifted (os : Os) (started : os.Started) (H : Type) (enc : TypeId × Value → H) :
    ReturnsInHanded {} Try.checked os 4 .any (Rows.framesEachSpec.pre6 enc Try.prog Try.f4 Rows.framesEachRow.domain false) (Rows.framesEachSpec.post enc Try.prog Try.f4 false true false false) := by
  refine returnsInHanded_of_change (C := Try.checked) own started (by kernel_rfl) Try.func4
    (ChangeSpec.witness6 (enc := enc) (C := Try.checked) false ⟨#[], #[.int .u8 0, .slice none 0 0], []⟩ 8 (by kernel_rfl) (by kernel_rfl) (by kernel_rfl) (by kernel_rfl)) ?_
  intro W base args ds gs before hval0 hW hcnd _
  have hval : ∀ (j : Nat) t v, Try.f4.params[j]? = some t → args[j]? = some v → Value.okWide Try.prog W .any base t v := hval0
  have hW' := hW
  obtain ⟨p, q, hA0, hV, rfl, hfz, hnd⟩ := hW
  have hA : DataW.TrodAll enc Try.prog W 0 (fun _ => true) true Try.f4.params.toList args.toList ds p := hA0
  rw [Try.params4] at hA hval
  obtain ⟨v0, vs0, d0, ds0, p0, q0, hargs, rfl, rfl, h0, r0⟩ := trodAll_cons hA
  obtain ⟨v1, vs1, d1, ds1, p1, q1, rfl, rfl, rfl, h1, r1⟩ := trodAll_cons r0
  obtain ⟨rfl, rfl, rfl⟩ := trodAll_nil r1
  obtain rfl : args = #[v0, v1] := by cases args; simp_all
  obtain ⟨rfl, rfl⟩ := trodVars_none hV
  obtain ⟨a0, rfl, rfl, rfl, w0⟩ := open_int Try.underlying5 (hval 0 5 v0 rfl rfl) h0
  obtain ⟨ao1, n1, cap1, rfl⟩ := okWide_slice Try.underlying44 (hval 1 44 v1 rfl rfl)
  have k1 := h1
  have lt1 : ∀ x ∈ p1, x.block < W.heap.size := by obtain ⟨m, hm⟩ := k1; exact DataW.trod_lt m _ _ _ hm
  obtain ⟨L1, l1⟩ := halfD_of_trod h1
  clear hA0 hval0
  refine (walk a0 ao1 n1 cap1 L1 W w0 l1).mono fun e W' ⟨he, bel⟩ => ?_
  subst he
  exact ⟨_, rfl, _, _, _, [], _, [], hW', trodAll_mk1 (shut_bool Try.underlying4 _), (trodAll_cons_mk (shut_int Try.underlying5 w0) (trodAll_cons_mk (Below.trod laidOut (by kernel_rfl) (of_decide_eq_true (by kernel_rfl)) k1 bel lt1) trodAll_mk0)), rfl, bel.frame _, fun h => by cases h⟩

theorem over : Rows.framesEachRow.holds Try.pinned (OpenSpec.ofChange Rows.framesEachSpec) :=
  OpenClaim.holds_of_wide 4 Try.f4 rfl rfl rfl rfl rfl rfl rfl ⟨rfl, rfl, rfl, rfl, rfl⟩ rfl rfl rfl rfl rfl (by kernel_rfl) Try.func4 (by kernel_rfl)
    (of_decide_eq_true (by kernel_rfl)) (by unfold Func.isWrapper; first | (rw [if_pos (by decide +kernel)]; kernel_rfl) | (rw [if_neg (by decide +kernel)]; exact ⟨rfl, rfl⟩))
    (fun os started H enc _ => lifted os started H enc)

end framesEach
/-- The statement. -/
theorem framesEach_holds : Rows.FramesEachSaid :=
  framesEach.over
#print axioms framesEach_holds
end Go.Proofs.Ytjdjiooblfgmlaa
