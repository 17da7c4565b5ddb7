/-
  PROVED HERE: 'AsmJoins': two programs of unlike marks, without a movi that goes to one, put together are the words of the first and of the second. No condition.
-/
import Derived.Test.YtagljcgfmdahhaaGreatDoorRows
import Derived.Test.YtagljcgfmdahhaaGreatDoorCards
import Derived.Test.YtagljcgfmdahhaaGreatDoorTie
import Derived.SevenTiedAt
import Derived.Test.YtagljcgfmdahhaaGreatDoorAsmApp
import Derived.WalkKit
import Derived.ProofKit
import Derived.OpenShut
import Derived.Below
import Derived.ShutString
import Derived.Deep.QuietTactic
namespace Go.Proofs.YtagljcgfmdahhaaGreatDoor
namespace asmJoins
open Go.ChangeShapes Go.WideShapes Go.ChangeAt Go.RowKit
open Go.ChangeMaps (open_string shut_string)
set_option linter.unusedVariables false

open Asm
set_option maxRecDepth 100000 in
set_option maxHeartbeats 8000000 in
theorem walk (ao0 : Option Addr) (n0 cap0 : Nat) (L0 : List Asm.Ln) (ao1 : Option Addr) (n1 cap1 : Nat) (L1 : List Asm.Ln) (w : World) (l0 : LnA w ao0 n0 cap0 L0) (l1 : LnA w ao1 n1 cap1 L1) (hv : AVars w) :
    Calls Tryz.prog 7 #[.slice ao0 n0 cap0, .slice ao1 n1 cap1] w fun e w' => e = .returned (.bool true) ∧ Below w.heap.size w w' := by
  go_enter Tryz.func7, Tryz.ntmps7
  have hfe := few_any ao0 n0 cap0 L0 w l0
  have hge := fun W (hW : Below w.heap.size w W) => few_any ao1 n1 cap1 L1 W ⟨l1.1.next hW, l1.2⟩
  cases hf : fewB L0 with
  | false =>
    rw [hf] at hfe
    go_wp2_with (first | (go_at_call 8; refine hfe.mono ?_; rintro e w1 ⟨rfl, hb1⟩) | (go_at_call 9; refine (awake_any _ (hv.later hb1)).mono ?_; rintro e w2 ⟨rfl, hb2⟩))
    go_ret
    exact ⟨rfl, hb1.trans (hb2.mono hb1.size)⟩
  | true =>
    rw [hf] at hfe
    cases hg : fewB L1 with
    | false =>
      simp only [hg] at hge
      go_wp2_with (first | (go_at_call 8; (with_reducible refine hfe.mono ?_); rintro e w1 ⟨rfl, hb1⟩) | (go_at_call 8; (with_reducible refine (hge _ hb1).mono ?_); rintro e w2 ⟨rfl, hb2⟩) | (go_at_call 9; refine (awake_any _ ((hv.later hb1).later hb2)).mono ?_; rintro e w3 ⟨rfl, hb3⟩))
      go_ret
      exact ⟨rfl, (hb1.trans (hb2.mono hb1.size)).trans (hb3.mono (Nat.le_trans hb1.size hb2.size))⟩
    | true =>
      simp only [hg] at hge
      obtain ⟨hl60, hokl⟩ := few_facts hf l0.2
      obtain ⟨hm60, hokm⟩ := few_facts hg l1.2
      have hn0 : n0 ≤ 60 := by rw [← l0.1.1]; exact hl60
      have hn1 : n1 ≤ 60 := by rw [← l1.1.1]; exact hm60
      go_wp2_with (first | (go_at_call 8; (with_reducible refine hfe.mono ?_); rintro e w1 ⟨rfl, hb1⟩) | (go_at_call 8; (with_reducible refine (hge _ hb1).mono ?_); rintro e w2 ⟨rfl, hb2⟩; have hB2 : Below w.heap.size w w2 := hb1.trans (hb2.mono hb1.size); have hBe : Below w2.heap.size w2 (w2.alloc (.cells #[] 47)) := (Below.refl _ w2).alloc (Nat.le_refl _) _; have hLe := (l0.1.next hB2).next hBe) | (at_builtin; refine wpList_append_lns rfl _ _ rfl w2.heap.size _ [] rfl (row_empty w2) _ ao0 n0 cap0 L0 rfl hLe (by simp; omega) (by simp) ?_; intro v3 w3 hr3 hg3; obtain ⟨ar3, cr3, rfl⟩ := row_slice hr3; have hB3 : Below w2.heap.size w2 w3 := hBe.grown hg3 (by simp) (fun k hk => ((row_empty w2).lt k hk).1); have hMe := (l1.1.next hB2).next hB3) | (at_builtin; refine wpList_append_lns rfl _ _ rfl w2.heap.size _ L0 rfl hr3 _ ao1 n1 cap1 L1 rfl hMe (by omega) hB3.size ?_; intro v4 w4 hr4 hg4; obtain ⟨LM, hLMe⟩ : ∃ LM, Hid (L0 ++ L1 = LM) := ⟨_, rfl⟩; rw [hLMe.out] at hr4; obtain ⟨ar4, cr4, rfl, hLM⟩ := lns_of_row hr4; have hB4 : Below w2.heap.size w2 w4 := hB3.grown hg4 hB3.size (fun k hk => (hr3.lt k hk).1)))
      have hlt : (L0 ++ L1).length ≤ 120 := by rw [List.length_append]; omega
      have hPl : Hid (∀ X, L0 ++ L1 = X → (∀ x ∈ X, emB x.to = false → x.op ≠ 1) → Plain (L0 ++ L1)) := fun X e h => by rw [e]; exact h
      have hOkL : Hid (Okl L0) := hokl
      have hOkM : Hid (Okl L1) := hokm
      have hHf : Hid (fewB L0 = true ∧ fewB L1 = true) := ⟨hf, hg⟩
      rw [hLMe.out] at hlt
      clear hge hfe hf hg hLe hMe hr3 hg3 hg4 hokl hokm
      have hBw4 : Below w.heap.size w w4 := hB2.trans (hB4.mono hB2.size)
      go_loopw [35] (fun vi wr => ∃ k : Nat, k ≤ LM.length ∧ vi = .int .i64 k ∧ Hid (∀ x ∈ LM.take k, emB x.to = false → x.op ≠ 1) ∧ Below w4.heap.size w4 wr) (fun vi _ => LM.length - (intOf vi).toNat)
      case atStart => exact ⟨0, Nat.zero_le _, rfl, fun x hx => by simp at hx, Below.refl _ _⟩
      case round =>
        obtain ⟨k, hk, rfl, hp, hB⟩ := hrel
        by_cases hks : k < LM.length
        · obtain ⟨b, off, m', op, a, b', c, i', tt, rfl, hb, hx, c0, c1, c2, c3, c4, c5, c6⟩ := LnsD.at (hLM.next hB) hks
          have het := em_list tt
          have hBa : Below wr.heap.size wr (wr.alloc (.cells #[.string m', .int .i64 op, .int .i64 a, .int .i64 b', .int .i64 c, .int .i32 i', .string tt] 47)) := (Below.refl _ wr).alloc (Nat.le_refl _) _
          have hBw5 : Below w4.heap.size w4 (wr.alloc (.cells #[.string m', .int .i64 op, .int .i64 a, .int .i64 b', .int .i64 c, .int .i32 i', .string tt] 47)) := hB.trans (hBa.mono hB.size)
          have hstep : Hid ((emB tt = false → op ≠ 1) → ∀ x ∈ LM.take (k + 1), emB x.to = false → x.op ≠ 1) := fun h x hx' => by
            rw [take_snoc hks] at hx'
            rcases List.mem_append.1 hx' with h1 | h1
            · exact hp.out x h1
            · rw [List.mem_singleton.1 h1, hx.out]; exact h
          cases hem : emB tt with
          | true =>
            rw [hem] at het
            have hq : Hid (∀ x ∈ LM.take (k + 1), emB x.to = false → x.op ≠ 1) := hstep.out (fun h => by rw [hem] at h; cases h)
            clear hem hstep
            go_wp2
            go_roundw
            case rel => exact ⟨k + 1, by omega, by simp, hq, hBw5⟩
            case measure => simp [intOf]; omega
          | false =>
            rw [hem] at het
            by_cases hop : op = 1
            · subst hop
              clear hem hstep
              go_wp2_with (go_at_call 9; refine (awake_any _ (hv.later (hBw4.trans (hBw5.mono hBw4.size)))).mono ?_; rintro e w6 ⟨rfl, hb6⟩)
              go_ret
              exact ⟨rfl, (hBw4.trans (hBw5.mono hBw4.size)).trans (hb6.mono (Nat.le_trans hBw4.size hBw5.size))⟩
            · have hq : Hid (∀ x ∈ LM.take (k + 1), emB x.to = false → x.op ≠ 1) := hstep.out (fun _ => hop)
              clear hem hstep
              go_wp2
              go_roundw
              case rel => exact ⟨k + 1, by omega, by simp, hq, hBw5⟩
              case measure => simp [intOf]; omega
        · obtain rfl : k = LM.length := by omega
          have hplain : Hid (Plain (L0 ++ L1)) := hPl.out LM hLMe.out (by have h3 := hp.out; rw [List.take_length] at h3; exact h3)
          clear hp hPl hLM hr4
          have hB5 : Below w.heap.size w wr := hBw4.trans (hB.mono hBw4.size)
          clear hBw4 hB hB4 hB3
          go_wp2
          generalize wr = X1 at *
          have hlen0 : Hid (L0.length = n0) := l0.1.1
          have hlen1 : Hid (L1.length = n1) := l1.1.1
          have hA0 := l0.1.next hB5
          have hA1 := l1.1.next hB5
          go_loopw [52] (fun vi wr => ∃ k : Nat, k ≤ n0 ∧ vi = .int .i64 k ∧ Hid (∀ x ∈ L0.take k, ∀ y ∈ L1, emB x.mark = false → x.mark ≠ y.mark) ∧ Below X1.heap.size X1 wr) (fun vi _ => n0 - (intOf vi).toNat)
          case atStart => exact ⟨0, Nat.zero_le _, rfl, fun x hx => by simp at hx, Below.refl _ _⟩
          case round =>
            obtain ⟨k, hk, rfl, hp, hB⟩ := hrel
            by_cases hks : k < n0
            · obtain ⟨b, off, m', op, a, b', c, i', tt, rfl, hb, hx, c0, c1, c2, c3, c4, c5, c6⟩ := LnsD.at (hA0.next hB) hks
              have hkl : Hid (k < L0.length) := by show k < L0.length; rw [hlen0.out]; exact hks
              have hem := em_list m'
              have hBa : Below wr.heap.size wr (wr.alloc (.cells #[.string m', .int .i64 op, .int .i64 a, .int .i64 b', .int .i64 c, .int .i32 i', .string tt] 47)) := (Below.refl _ wr).alloc (Nat.le_refl _) _
              have hLx := Lb.new wr m' op a b' c i' tt
              have hBx : Below X1.heap.size X1 (wr.alloc (.cells #[.string m', .int .i64 op, .int .i64 a, .int .i64 b', .int .i64 c, .int .i32 i', .string tt] 47)) := hB.trans (hBa.mono hB.size)
              have hstep : Hid ((∀ y ∈ L1, emB m' = false → m' ≠ y.mark) → ∀ x ∈ L0.take (k + 1), ∀ y ∈ L1, emB x.mark = false → x.mark ≠ y.mark) := fun h x hx' => by
                rw [take_snoc hkl.out] at hx'
                rcases List.mem_append.1 hx' with h1 | h1
                · exact hp.out x h1
                · rw [List.mem_singleton.1 h1, hx.out]; exact h
              go_wp2
              obtain ⟨Bx, hBxe⟩ : ∃ Bx, wr.heap.size = Bx := ⟨_, rfl⟩
              rw [hBxe] at hLx
              try rw [hBxe]
              generalize wr.alloc (.cells #[.string m', .int .i64 op, .int .i64 a, .int .i64 b', .int .i64 c, .int .i32 i', .string tt] 47) = X2 at *
              clear hBa hB hBxe c0 c1 c2 c3 c4 c5 c6
              have hA2 := hA1.next hBx
              go_loopw [58] (fun vi wr => ∃ j : Nat, j ≤ n1 ∧ vi = .int .i64 j ∧ Hid (∀ y ∈ L1.take j, emB m' = false → m' ≠ y.mark) ∧ Below X2.heap.size X2 wr) (fun vi _ => n1 - (intOf vi).toNat)
              case atStart => exact ⟨0, Nat.zero_le _, rfl, fun x hx => by simp at hx, Below.refl _ _⟩
              case round =>
                obtain ⟨j, hj, rfl, hpj, hBj⟩ := hrel
                by_cases hjs : j < n1
                · obtain ⟨yb0, yoff, ym, yo, ya, yb, yc, yi, yt, rfl, hyb, hyx, y0, y1, y2, y3, y4, y5, y6⟩ := LnsD.at (hA2.next hBj) hjs
                  have hjl : Hid (j < L1.length) := by show j < L1.length; rw [hlen1.out]; exact hjs
                  have hBy : Below wr.heap.size wr (wr.alloc (.cells #[.string ym, .int .i64 yo, .int .i64 ya, .int .i64 yb, .int .i64 yc, .int .i32 yi, .string yt] 47)) := (Below.refl _ wr).alloc (Nat.le_refl _) _
                  obtain ⟨d0, d1, d2, d3, d4, d5, d6⟩ := ((hLx.next hBj).next hBy).cells
                  have hBz : Below X2.heap.size X2 (wr.alloc (.cells #[.string ym, .int .i64 yo, .int .i64 ya, .int .i64 yb, .int .i64 yc, .int .i32 yi, .string yt] 47)) := hBj.trans (hBy.mono hBj.size)
                  have hstj : Hid ((emB m' = false → m' ≠ ym) → ∀ y ∈ L1.take (j + 1), emB m' = false → m' ≠ y.mark) := fun h y hy' => by
                    rw [take_snoc hjl.out] at hy'
                    rcases List.mem_append.1 hy' with h1 | h1
                    · exact hpj.out y h1
                    · rw [List.mem_singleton.1 h1, hyx.out]; exact h
                  rcases Bool.eq_false_or_eq_true (emB m') with hemv | hemv
                  · have hq : Hid (∀ y ∈ L1.take (j + 1), emB m' = false → m' ≠ y.mark) := hstj.out (fun h => by rw [hemv] at h; cases h)
                    rw [hemv] at hem
                    clear hstj hemv
                    go_wp2
                    go_roundw
                    case rel => exact ⟨j + 1, by omega, by simp, hq, hBz⟩
                    case measure => simp [intOf]; omega
                  · rw [hemv] at hem
                    have hlb := list_beq m' ym
                    by_cases hmm : m' = ym
                    · rw [decide_eq_true hmm] at hlb
                      clear hmm hstj hemv
                      have hBB := hB5.trans ((hBx.trans (hBz.mono hBx.size)).mono hB5.size)
                      go_wp2_with (go_at_call 9; refine (awake_any _ (hv.later hBB)).mono ?_; rintro e w6 ⟨rfl, hb6⟩)
                      go_ret
                      exact ⟨rfl, hBB.trans (hb6.mono hBB.size)⟩
                    · rw [decide_eq_false hmm] at hlb
                      have hq : Hid (∀ y ∈ L1.take (j + 1), emB m' = false → m' ≠ y.mark) := hstj.out (fun _ => hmm)
                      clear hmm hstj hemv
                      go_wp2
                      go_roundw
                      case rel => exact ⟨j + 1, by omega, by simp, hq, hBz⟩
                      case measure => simp [intOf]; omega
                · obtain rfl : j = n1 := by omega
                  have hq : Hid (∀ x ∈ L0.take (k + 1), ∀ y ∈ L1, emB x.mark = false → x.mark ≠ y.mark) := hstep.out (by have h3 := hpj.out; rw [← hlen1.out, List.take_length] at h3; exact h3)
                  clear hstep hpj
                  go_wp2
                  go_roundw
                  case rel => exact ⟨k + 1, by omega, by simp, hq, hBx.trans (hBj.mono hBx.size)⟩
                  case measure => simp [intOf]; omega
            · obtain rfl : k = n0 := by omega
              have hap : Hid (Apart L0 L1) := by show Apart L0 L1; have h3 := hp.out; rw [← hlen0.out, List.take_length] at h3; exact h3
              clear hp
              have hB6 : Below w.heap.size w wr := hB5.trans (hB.mono hB5.size)
              clear hB hB5 hA0 hA1
              generalize wr = X3 at *
              have hp0 := fun W (hW : Below w.heap.size w W) => put_any ao0 k cap0 L0 W (by omega) (l0.1.next hW) hOkL.out
              have hp1 := fun W (hW : Below w.heap.size w W) => put_any ao1 n1 cap1 L1 W (by omega) (l1.1.next hW) hOkM.out
              have hl4k : LM.length ≤ 4000 := by omega
              have hOkLM : Hid (Okl LM) := by show Okl LM; rw [← hLMe.out]; exact okl_app hOkL.out hOkM.out
              have hE0 : putE L0 ≤ 13 := putE_le L0
              have hE1 : putE L1 ≤ 13 := putE_le L1
              have hp2 := fun ar cr W hW => put_any ar LM.length cr LM W hl4k hW hOkLM.out
              have hA64 := putW_64 L0
              have hB64 := putW_64 L1
              have hC64 := putW_64 LM
              have hAl : (putW L0).length ≤ 60 := Nat.le_trans (putW_len L0) hl60
              have hBl : (putW L1).length ≤ 60 := Nat.le_trans (putW_len L1) hm60
              by_cases he0 : putE L0 = 0
              · by_cases he1 : putE L1 = 0
                · obtain ⟨hj1, hj2⟩ := put_joins he0 he1 hplain.out hap.out
                  rw [hLMe.out] at hj1 hj2
                  simp only [he0] at hp0
                  simp only [he1] at hp1
                  simp only [hj1] at hp2
                  obtain ⟨A, hAe⟩ : ∃ A, putW L0 = A := ⟨_, rfl⟩
                  obtain ⟨B, hBe'⟩ : ∃ B, putW L1 = B := ⟨_, rfl⟩
                  obtain ⟨C, hCe'⟩ : ∃ C, putW LM = C := ⟨_, rfl⟩
                  have hCe : Hid (C = A ++ B) := by show C = A ++ B; rw [← hCe', ← hAe, ← hBe']; exact hj2
                  simp only [hAe] at hp0 hA64 hAl
                  simp only [hBe'] at hp1 hB64 hBl
                  simp only [hCe'] at hp2 hC64
                  have hCl : C.length ≤ 120 := by rw [hCe.out, List.length_append]; omega
                  have hvl : ∀ W, Below w.heap.size w W → Vars W := fun W hW => (hv.later hW).1
                  have hlc := fun ac cc W h hV => list_any ac C.length cc C W (by omega) h hC64 hV
                  have hla := fun ac cc W h hV => list_any ac A.length cc A W (by omega) h hA64 hV
                  have hlb' := fun ac cc W h hV => list_any ac B.length cc B W (by omega) h hB64 hV
                  have hsA := lstS_size hA64
                  have hsB := lstS_size hB64
                  have hz : (9223372036854775807 < (lstS A).size + (lstS B).size) = False := by simp; omega
                  have hbq : ((lstS C).toList == (lstS A ++ lstS B).toList) = true := by rw [list_beq]; exact decide_eq_true (by rw [hCe.out]; exact lst_app A B)
                  clear hAe hBe' hCe' hj1 hj2 he0 he1
                  go_wp2_with (first | (go_at_call 10; (with_reducible refine (hp0 _ hB6).mono ?_); rintro e w5 ⟨hb5, va, rfl, hra⟩; obtain ⟨aa, ca, rfl, hwa⟩ := wds_of_row hra rfl; have hB7 : Below w.heap.size w w5 := hB6.trans (hb5.mono hB6.size)) | (go_at_call 10; (with_reducible refine (hp1 _ hB7).mono ?_); rintro e w6 ⟨hb6, vb, rfl, hrb⟩; obtain ⟨ab, cb, rfl, hwb⟩ := wds_of_row hrb rfl; have hB8 : Below w.heap.size w w6 := hB7.trans (hb6.mono hB7.size); have hBe6 : Below w6.heap.size w6 (w6.alloc (.cells #[] 47)) := (Below.refl _ w6).alloc (Nat.le_refl _) _; have hLe6 := (l0.1.next hB8).next hBe6) | (at_builtin; refine wpList_append_lns rfl _ _ rfl w6.heap.size _ [] rfl (row_empty w6) _ ao0 k cap0 L0 rfl hLe6 (by simp; omega) (by simp) ?_; intro v7 w7 hr7 hg7; obtain ⟨ar7, cr7, rfl⟩ := row_slice hr7; have hB9 : Below w6.heap.size w6 w7 := hBe6.grown hg7 (by simp) (fun k hk => ((row_empty w6).lt k hk).1); have hMe7 := (l1.1.next hB8).next hB9) | (at_builtin; refine wpList_append_lns rfl _ _ rfl w6.heap.size _ L0 rfl hr7 _ ao1 n1 cap1 L1 rfl hMe7 (by omega) hB9.size ?_; intro v8 w8 hr8 hg8; rw [hLMe.out] at hr8; obtain ⟨ar8, cr8, rfl, hLM8⟩ := lns_of_row hr8; have hB10 : Below w6.heap.size w6 w8 := hB9.grown hg8 hB9.size (fun k hk => (hr7.lt k hk).1)) | (go_at_call 10; (with_reducible refine (hp2 ar8 cr8 w8 hLM8).mono ?_); rintro e w9 ⟨hb9, vc, rfl, hrc⟩; obtain ⟨ac, cc', rfl, hwc⟩ := wds_of_row hrc rfl; have hB11 : Below w6.heap.size w6 w9 := hB10.trans (hb9.mono hB10.size); have hBw9 : Below w.heap.size w w9 := hB8.trans (hB11.mono hB8.size); have hBf : Below w9.heap.size w9 (w9.alloc (.cells #[] 50)) := (Below.refl _ w9).alloc (Nat.le_refl _) _; have hwa9 := ((hwa.next hb6).next hB11).next hBf) | (at_builtin; refine wpList_append_wdsG (by rfl) _ _ rfl w9.heap.size _ [] rfl (row_empty8 w9) _ aa A.length ca A rfl hwa9 (by simp; omega) (by simp) ?_; intro v11 w11 hr11 hg11; obtain ⟨ar11, cr11, rfl⟩ := row_slice hr11; have hB12 : Below w9.heap.size w9 w11 := hBf.grown hg11 (by simp) (fun k hk => ((row_empty8 w9).lt k hk).1); have hwb11 := (hwb.next hB11).next hB12) | (at_builtin; refine wpList_append_wdsG (by rfl) _ _ rfl w9.heap.size _ A rfl hr11 _ ab B.length cb B rfl hwb11 (by omega) hB12.size ?_; intro v12 w12 hr12 hg12; rw [← hCe.out] at hr12; obtain ⟨ar12, cr12, rfl, hw12⟩ := wds_of_row hr12 rfl; have hB13 : Below w9.heap.size w9 w12 := hB12.grown hg12 hB12.size (fun k hk => (hr11.lt k hk).1); have hsm := same_any ac C.length cc' C ar12 C.length cr12 C w12 (hwc.next hB13) hw12 (by omega); have hBw12 : Below w.heap.size w w12 := hBw9.trans (hB13.mono hBw9.size)) | (go_at_call 14; refine hsm.mono ?_; rintro e w13 ⟨rfl, hb13⟩; have hBw13 : Below w.heap.size w w13 := hBw12.trans (hb13.mono hBw12.size)) | (go_at_call 17; (with_reducible refine (hlc ac cc' w13 ((hwc.next hB13).next hb13) (hvl _ hBw13)).mono ?_); rintro e w14 ⟨rfl, hb14⟩; have hBw14 : Below w.heap.size w w14 := hBw13.trans (hb14.mono hBw13.size); have hwa14 := ((((hwa.next hb6).next hB11).next hB13).next hb13).next hb14) | (go_at_call 17; (with_reducible refine (hla aa ca w14 hwa14 (hvl _ hBw14)).mono ?_); rintro e w15 ⟨rfl, hb15⟩; have hBw15 : Below w.heap.size w w15 := hBw14.trans (hb15.mono hBw14.size); have hwb15 := ((((hwb.next hB11).next hB13).next hb13).next hb14).next hb15) | (go_at_call 17; (with_reducible refine (hlb' ab cb w15 hwb15 (hvl _ hBw15)).mono ?_); rintro e w16 ⟨rfl, hb16⟩; have hBw16 : Below w.heap.size w w16 := hBw15.trans (hb16.mono hBw15.size)) | (go_at_call 9; refine (awake_any _ (hv.later hBw16)).mono ?_; rintro e w17 ⟨rfl, hb17⟩))
                  go_ret
                  exact ⟨rfl, hBw16.trans (hb17.mono hBw16.size)⟩
                · simp only [he0] at hp0
                  clear he0 hE0
                  go_wp2_with (first | (go_at_call 10; (with_reducible refine (hp0 _ hB6).mono ?_); rintro e w5 ⟨hb5, va, rfl, hra⟩; obtain ⟨aa, ca, rfl, hwa⟩ := wds_of_row hra rfl; have hB7 : Below w.heap.size w w5 := hB6.trans (hb5.mono hB6.size)) | (go_at_call 10; (with_reducible refine (hp1 _ hB7).mono ?_); rintro e w6 ⟨hb6, vb, rfl, hrb⟩; obtain ⟨ab, cb, rfl, hwb⟩ := wds_of_row hrb rfl; have hB8 : Below w.heap.size w w6 := hB7.trans (hb6.mono hB7.size); have hBe6 : Below w6.heap.size w6 (w6.alloc (.cells #[] 47)) := (Below.refl _ w6).alloc (Nat.le_refl _) _; have hLe6 := (l0.1.next hB8).next hBe6) | (at_builtin; refine wpList_append_lns rfl _ _ rfl w6.heap.size _ [] rfl (row_empty w6) _ ao0 k cap0 L0 rfl hLe6 (by simp; omega) (by simp) ?_; intro v7 w7 hr7 hg7; obtain ⟨ar7, cr7, rfl⟩ := row_slice hr7; have hB9 : Below w6.heap.size w6 w7 := hBe6.grown hg7 (by simp) (fun k hk => ((row_empty w6).lt k hk).1); have hMe7 := (l1.1.next hB8).next hB9) | (at_builtin; refine wpList_append_lns rfl _ _ rfl w6.heap.size _ L0 rfl hr7 _ ao1 n1 cap1 L1 rfl hMe7 (by omega) hB9.size ?_; intro v8 w8 hr8 hg8; rw [hLMe.out] at hr8; obtain ⟨ar8, cr8, rfl, hLM8⟩ := lns_of_row hr8; have hB10 : Below w6.heap.size w6 w8 := hB9.grown hg8 hB9.size (fun k hk => (hr7.lt k hk).1)) | (go_at_call 10; (with_reducible refine (hp2 ar8 cr8 w8 hLM8).mono ?_); rintro e w9 ⟨hb9, vc, rfl, hrc⟩; obtain ⟨ac, cc', rfl, hwc⟩ := wds_of_row hrc rfl; have hB11 : Below w6.heap.size w6 w9 := hB10.trans (hb9.mono hB10.size); have hBw9 : Below w.heap.size w w9 := hB8.trans (hB11.mono hB8.size)) | (go_at_call 9; refine (awake_any _ (hv.later hBw9)).mono ?_; rintro e w10 ⟨rfl, hb10⟩))
                  go_ret
                  exact ⟨rfl, hBw9.trans (hb10.mono hBw9.size)⟩
              · go_wp2_with (first | (go_at_call 10; (with_reducible refine (hp0 _ hB6).mono ?_); rintro e w5 ⟨hb5, va, rfl, hra⟩; obtain ⟨aa, ca, rfl, hwa⟩ := wds_of_row hra rfl; have hB7 : Below w.heap.size w w5 := hB6.trans (hb5.mono hB6.size)) | (go_at_call 10; (with_reducible refine (hp1 _ hB7).mono ?_); rintro e w6 ⟨hb6, vb, rfl, hrb⟩; obtain ⟨ab, cb, rfl, hwb⟩ := wds_of_row hrb rfl; have hB8 : Below w.heap.size w w6 := hB7.trans (hb6.mono hB7.size); have hBe6 : Below w6.heap.size w6 (w6.alloc (.cells #[] 47)) := (Below.refl _ w6).alloc (Nat.le_refl _) _; have hLe6 := (l0.1.next hB8).next hBe6) | (at_builtin; refine wpList_append_lns rfl _ _ rfl w6.heap.size _ [] rfl (row_empty w6) _ ao0 k cap0 L0 rfl hLe6 (by simp; omega) (by simp) ?_; intro v7 w7 hr7 hg7; obtain ⟨ar7, cr7, rfl⟩ := row_slice hr7; have hB9 : Below w6.heap.size w6 w7 := hBe6.grown hg7 (by simp) (fun k hk => ((row_empty w6).lt k hk).1); have hMe7 := (l1.1.next hB8).next hB9) | (at_builtin; refine wpList_append_lns rfl _ _ rfl w6.heap.size _ L0 rfl hr7 _ ao1 n1 cap1 L1 rfl hMe7 (by omega) hB9.size ?_; intro v8 w8 hr8 hg8; rw [hLMe.out] at hr8; obtain ⟨ar8, cr8, rfl, hLM8⟩ := lns_of_row hr8; have hB10 : Below w6.heap.size w6 w8 := hB9.grown hg8 hB9.size (fun k hk => (hr7.lt k hk).1)) | (go_at_call 10; (with_reducible refine (hp2 ar8 cr8 w8 hLM8).mono ?_); rintro e w9 ⟨hb9, vc, rfl, hrc⟩; obtain ⟨ac, cc', rfl, hwc⟩ := wds_of_row hrc rfl; have hB11 : Below w6.heap.size w6 w9 := hB10.trans (hb9.mono hB10.size); have hBw9 : Below w.heap.size w w9 := hB8.trans (hB11.mono hB8.size)) | (go_at_call 9; refine (awake_any _ (hv.later hBw9)).mono ?_; rintro e w10 ⟨rfl, hb10⟩))
                go_ret
                exact ⟨rfl, hBw9.trans (hb10.mono hBw9.size)⟩

set_option maxRecDepth 100000 in
theorem lifted (os : Os) (started : os.Started) (H : Type) (enc : TypeId × Value → H) :
    ReturnsInHanded {} Tryz.checked os 7 .any (fun w args => (Rows.asmJoinsSpec.pre enc Tryz.prog Tryz.f7 [] false w args ∧ laidMetH Tryz.prog laidL w) ∧ sizedMet enc Tryz.prog Tryz.f7 (OpenSpec.ofChange Rows.asmJoinsSpec) false w args) (Rows.asmJoinsSpec.post enc Tryz.prog Tryz.f7 false true false false) := by
  refine returns_laid started (by kernel_rfl) Tryz.func7
    (ChangeSpec.witness_shaped (enc := enc) (C := Tryz.checked) (os := os) (X := fun w _ => laidMetH Tryz.prog laidL w) false (World.laidAll Tryz.prog os laidL) #[.slice none 0 0, .slice none 0 0] 8 (World.laidAll_os _ _ _) (World.shaped_of_ZipB (by kernel_rfl) (by kernel_rfl)) (by kernel_rfl) (by kernel_rfl) (by kernel_rfl) (laid_met os _)) ?_
  intro W base args ds gs before hval0 hW hWt hVars
  have hval : ∀ (j : Nat) t v, Tryz.f7.params[j]? = some t → args[j]? = some v → Value.okWide Tryz.prog W .any base t v := hval0
  have hW' := hW
  obtain ⟨p, q, hA0, hV, rfl, hfz, hnd⟩ := hW
  have hA : DataW.TrodAll enc Tryz.prog W 0 (fun _ => true) true Tryz.f7.params.toList args.toList ds p := hA0
  rw [Tryz.params7] at hA hval
  obtain ⟨v0, vs0, d0, ds0, p0, q0, hargs, rfl, rfl, h0, r0⟩ := trodAll_cons hA
  obtain ⟨v1, vs1, d1, ds1, p1, q1, rfl, rfl, rfl, h1, r1⟩ := trodAll_cons r0
  obtain ⟨rfl, rfl, rfl⟩ := trodAll_nil r1
  obtain rfl : args = #[v0, v1] := by cases args; simp_all
  obtain ⟨rfl, rfl⟩ := trodVars_none hV
  obtain ⟨ao0, n0, cap0, rfl⟩ := okWide_slice Tryz.underlying22 (hval 0 22 v0 rfl rfl)
  have k0 := h0
  have lt0 : ∀ x ∈ p0, x.block < W.heap.size := by obtain ⟨m, hm⟩ := k0; exact DataW.trod_lt m _ _ _ hm
  obtain ⟨L0, l0⟩ := ln_of_trod h0 (hWt 0 _ _ rfl rfl)
  obtain ⟨ao1, n1, cap1, rfl⟩ := okWide_slice Tryz.underlying22 (hval 1 22 v1 rfl rfl)
  have k1 := h1
  have lt1 : ∀ x ∈ p1, x.block < W.heap.size := by obtain ⟨m, hm⟩ := k1; exact DataW.trod_lt m _ _ _ hm
  obtain ⟨L1, l1⟩ := ln_of_trod h1 (hWt 1 _ _ rfl rfl)
  clear hA0 hval0
  refine (walk ao0 n0 cap0 L0 ao1 n1 cap1 L1 W l0 l1 hVars).mono fun e W' ⟨he, bel⟩ => ?_
  subst he
  exact ⟨_, rfl, _, _, _, [], _, [], hW', trodAll_mk1 (shut_bool Tryz.underlying4 _), (trodAll_cons_mk (Below.trod laidOut (by kernel_rfl) (of_decide_eq_true (by kernel_rfl)) k0 bel lt0) (trodAll_cons_mk (Below.trod laidOut (by kernel_rfl) (of_decide_eq_true (by kernel_rfl)) k1 bel lt1) trodAll_mk0)), rfl, bel.frame _, fun h => by cases h⟩

theorem over : Rows.asmJoinsRow.holds Tryz.pinned (OpenSpec.ofChange Rows.asmJoinsSpec) :=
  OpenClaim.holds_of_wide 7 Tryz.f7 rfl rfl rfl rfl rfl rfl rfl ⟨rfl, rfl, rfl, rfl, rfl⟩ rfl rfl rfl rfl rfl (by kernel_rfl) Tryz.func7 (by kernel_rfl)
    (of_decide_eq_true (by kernel_rfl)) (by unfold Func.isWrapper; first | (rw [if_pos (by decide +kernel)]; kernel_rfl) | (rw [if_neg (by decide +kernel)]; exact ⟨rfl, rfl⟩))
    (fun os started H enc _ => lifted os started H enc)

end asmJoins
/-- The statement: the tied card. -/
theorem asmJoins_holds : Rows.AsmJoinsCardSaid :=
  Claim7.holds_tied_plain_at .later [] [.data, .data, .data, .data, .sentinel, .sentinel, .pinned] true (true, "4b6dbf2cb406ec6b52420c0876f7b3f3e599a0b95d9dd754324b4f866b9cccb4") true
    asmJoins.over (fun _ h => by cases h) (by kernel_rfl) (fun _ h => by cases h) asmJoins_row_tie rfl ⟨rfl, rfl⟩ (by kernel_rfl) rfl
    (fun f fn hf hfn => by
      obtain rfl : f = 7 := Option.some.inj ((show Tryz.prog.funcNamed "curtilage/curtilagelaw10.AsmJoins" = some 7 by kernel_rfl).symm.trans hf) |>.symm
      obtain rfl : fn = Tryz.f7 := (Option.some.inj (Tryz.func7.symm.trans hfn)).symm
      exact ⟨by kernel_rfl, fun j t ht => by
        rw [Tryz.params7] at ht
        have hm : t ∈ [22, 22] := by simpa using Array.mem_of_getElem? ht
        have hall : ([22, 22].all fun u => !Tryz.prog.wantsStandIn u) = true := by kernel_rfl
        exact (show Tryz.prog.wantsStandIn t = false by simpa using List.all_eq_true.1 hall t hm)⟩)
    (by kernel_rfl)
#print axioms asmJoins_holds
end Go.Proofs.YtagljcgfmdahhaaGreatDoor
