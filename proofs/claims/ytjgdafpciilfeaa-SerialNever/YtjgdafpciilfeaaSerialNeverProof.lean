/-
  PROVED HERE: for every span, every row of bytes and every word the law SerialNever returns true (P7.4: whoever takes numbers and parts them, no number is taken twice). No condition.
-/
import Derived.Test.YtjgdafpciilfeaaRows
import Derived.Test.YtjgdafpciilfeaaPrm4
import Derived.Test.YtjgdafpciilfeaaSerOpen
import Derived.Test.YtjgdafpciilfeaaSer4
import Derived.Test.YtjgdafpciilfeaaSer5
import Derived.WalkKit
import Derived.ProofKit
import Derived.OpenShut
import Derived.Below
import Derived.ShutString
import Derived.Deep.QuietTactic
namespace Go.Proofs.Ytjgdafpciilfeaa
namespace serialNever
open Go.ChangeShapes Go.WideShapes Go.ChangeAt Go.RowKit
open Go.ChangeMaps (open_string shut_string)
set_option linter.unusedVariables false

theorem own : ownKnob Try.prog.godebug = none := by kernel_rfl

theorem and1 {X : Nat} (h : X < 256) : bits .and .u8 (X : Int) 1 = ((X % 2 : Nat) : Int) := by
  have := u8_and_nat X 1 h (by omega)
  rw [show X &&& 1 = X % 2 by exact Nat.and_one_is_mod X] at this
  exact this
set_option maxRecDepth 100000 in
set_option maxHeartbeats 8000000 in
theorem walk (x0 y0 : Nat) (ao1 : Option Addr) (n1 cap1 : Nat) (L1 : List Nat) (a2 : Int) (w : World) (l0 : x0 < 18446744073709551616 ∧ y0 < 18446744073709551616) (l1 : ByteD w ao1 n1 cap1 L1) (w2 : (Lit.int .u64 a2).wf = true) :
    Calls Try.prog 3 #[.agg #[.int .u64 (x0 : Int), .int .u64 (y0 : Int)], .slice ao1 n1 cap1, .int .u64 a2] w fun e w' => e = .returned (.bool true) ∧ Below w.heap.size w w' := by
  obtain ⟨key, rfl, hkey⟩ := u64_nat w2
  have hB := (Below.refl w.heap.size w).alloc (Nat.le_refl _) (.cells #[.int .u64 (x0 : Int), .int .u64 (y0 : Int)] 24)
  have hT := Two.new w 24 (.int .u64 (x0 : Int)) (.int .u64 (y0 : Int))
  have hf := fun w => rFit_any x0 y0 w
  obtain ⟨hlen, hnc, hcm, hby⟩ := l1
  obtain ⟨i0, hi0, hz0, hz1, hz2⟩ := info_partsS infoW
  obtain ⟨j0, hj0, hy0, hy1, hy2⟩ := info_partsS infoSpan
  by_cases h60 : n1 ≤ 60
  · have h60' : decide ((60 : Int) < (n1 : Int)) = false := decide_eq_false (by omega)
    by_cases hfit : sfitB x0 y0 = true
    · simp only [hfit] at hf
      obtain ⟨hxy, hy⟩ := (sfit_iff _ _).1 hfit
      clear hfit
      go_enter Try.func3, Try.ntmps3
      go_upto_region 1 with fail
      obtain ⟨W, hW⟩ : ∃ W, Hid (w.alloc (.cells #[.int .u64 (x0 : Int), .int .u64 (y0 : Int)] 24) = W) := ⟨_, rfl⟩
      rw [hW.out] at hB hT ⊢
      clear hW
      have t0 := hT.cell0
      have t1 := hT.cell1
      go_upto_region 3 with (go_at_call 6; refine (hf _).mono ?_; rintro e w3 ⟨rfl, hb⟩; replace hT := hT.next hb; replace hB := hB.trans (hb.mono hB.size); clear hb)
      clear t0 t1 hf
      have t0 := hT.cell0
      have t1 := hT.cell1
      go_upto_region 4 with fail
      have hN : Nev w x0 y0 (w3.alloc (.cells #[.int .u64 (x0 : Int), .int .u64 (y0 : Int)] 24)) [(x0, y0)] [] w3.heap.size 1 (.slice none 0 0) :=
        ⟨hT.alloc _, World.ownsRow_lit w3 #[.int .u64 (x0 : Int), .int .u64 (y0 : Int)] 1 (by have := hT.lt; omega) (by decide) rfl, World.ownsRow_nil _ _ _ _, hB.alloc (by have := hT.lt; omega) _⟩
      have hI : Sr.Inv (x0, y0) [(x0, y0)] [] := Sr.Inv.new hxy
      clear hT hB t0 t1
      obtain ⟨W4, hW4⟩ : ∃ W, Hid (w3.alloc (.cells #[.int .u64 (x0 : Int), .int .u64 (y0 : Int)] 24) = W) := ⟨_, rfl⟩
      rw [hW4.out] at hN ⊢
      clear hW4
      go_wp2
      go_loopw [7, 8, 41] (fun vh vt vi wr => ∃ (k : Nat) (H : List Sr.Sp) (T : List Nat) (g ch : Nat), k ≤ n1 ∧ vi = .int .i64 (k : Int) ∧ vh = .slice (some ⟨g, 0, none⟩) H.length ch ∧ Nev w x0 y0 wr H T g ch vt ∧ Sr.Inv (x0, y0) H T ∧ H.length ≤ k + 1 ∧ 1 ≤ H.length ∧ T.length ≤ k) (fun _ _ i _ => n1 - (intOf i).toNat)
      case atStart => exact ⟨0, _, _, _, _, by omega, rfl, rfl, hN, hI, by simp, by simp, by simp⟩
      case round =>
        clear hN hI
        obtain ⟨k, H, T, g, ch, hk, rfl, rfl, hN, hI, hH1, hH2, hT1⟩ := hrel
        obtain ⟨hl, hhl⟩ : ∃ z, Hid (H.length = z) := ⟨_, rfl⟩
        by_cases hkn : k < n1
        · obtain ⟨hX, b, off, rfl, hbl, hcell⟩ := hby k hkn
          have hcw := (hN.bel.cell (p := ⟨b, off + k, none⟩) hbl).trans hcell
          obtain ⟨X, hXX⟩ : ∃ z, Hid (L1.getD k 0 = z) := ⟨_, rfl⟩
          rw [hXX.out] at hX hcw
          have hlv := hhl.out
          rw [hlv] at hH1 hH2 ⊢
          clear hlv hby
          go_upto_region 9 with fail
          obtain ⟨i, hi⟩ : ∃ i : Nat, Hid (X / 2 % hl = i) := ⟨_, rfl⟩
          have hil : i < hl := by rw [← hi.out]; exact Nat.mod_lt _ (by omega)
          have hie : (X : Int) / 2 % (hl : Int) = (i : Int) := by rw [← hi.out]; rfl
          rw [hie]
          obtain ⟨p, hp⟩ : ∃ p, Hid (Sr.nth H i = p) := ⟨_, rfl⟩
          obtain ⟨pa, pb⟩ := p
          have hiH : i < H.length := by rw [hhl.out]; exact hil
          have hfi := hI.fit i hiH
          have hce := hN.cell hiH
          rw [hp.out] at hfi hce
          obtain ⟨c0, c1⟩ := hce
          have hpab : pa ≤ pb := hfi.2.1
          have hpb : pb ≤ 2305843009213693952 := Nat.le_trans hfi.2.2 hy
          have hand := and1 hX
          have hsz := hN.sz
          have hgl := hN.lt
          have hch := hN.cap
          rw [hhl.out] at hch
          clear hfi hie hcw hcell
          by_cases hpar : X % 2 = 0
          · rw [hpar] at hand
            have hand' : bits .and .u8 (X : Int) 1 = 0 := hand
            clear hand
            by_cases hlt : pa < pb
            · go_upto_region 11 with (go_at_call 8; refine (take_some hlt hpb _).mono ?_; rintro e w5 ⟨rfl, hb5⟩)
              have hN5 := (hN.next hb5).alloc (.cells #[.int .u64 ((pa : Int) + 1), .int .u64 (pb : Int)] 24)
              have hX5 := Two.new w5 24 (.int .u64 ((pa : Int) + 1)) (.int .u64 (pb : Int))
              have hs5 := hb5.size
              obtain ⟨X5, hXe⟩ : ∃ Z, Hid (w5.alloc (.cells #[.int .u64 ((pa : Int) + 1), .int .u64 (pb : Int)] 24) = Z) := ⟨_, rfl⟩
              rw [hXe.out] at hN5 hX5 ⊢
              clear hXe c0 c1 hN
              have d0 := hX5.cell0
              have d1 := hX5.cell1
              have c0 := (hN5.cell hiH).1
              have c1 := (hN5.cell hiH).2
              have f0 := hN5.frozen (i * 2)
              have f1 := hN5.frozen (i * 2 + 1)
              have hN6 : Nev w x0 y0 ((X5.setCell ⟨g, i * 2, none⟩ (.int .u64 ((pa : Int) + 1))).setCell ⟨g, i * 2 + 1, none⟩ (.int .u64 (pb : Int))) (H.set i (pa + 1, pb)) T g ch u8 := hN5.set i (pa + 1) pb
              have hI6 := hI.take hiH hp.out hlt
              go_upto_region 12 with fail
              obtain ⟨Y, hY⟩ : ∃ Y, Hid (((X5.setCell ⟨g, i * 2, none⟩ (.int .u64 ((pa : Int) + 1))).setCell ⟨g, i * 2 + 1, none⟩ (.int .u64 (pb : Int))) = Y) := ⟨_, rfl⟩
              rw [hY.out] at hN6 ⊢
              clear hY d0 d1 c0 c1 f0 f1 hN5 hX5 hI
              have hs6 := hN6.sz
              go_wp2_with (at_builtin; refine wpList_append_own _ rfl _ _ 29 rfl (w.heap.size + 1) 22 i0 (.int .u64 0) 1 8 Try.underlying29 hi0 hz0 hz1 hz2 rfl (by decide) _ _ _ rfl (hN6.tk.alloc _) ⟨Y.heap.size, 0, none⟩ 1 1 [.int .u64 (pa : Int)] rfl rfl (cell_one_new _ _ _) (by simp [Value.oneCell']) (by unfold maxLen; omega) (by omega) (by simp; omega) ?_; intro v7 w7 hown7 hgrow7 _)
              go_roundw
              case rel => exact ⟨k + 1, _, _, g, ch, by omega, by go_num, (by rw [List.length_set, hhl.out]), hN6.pushT hown7 hgrow7, hI6, (by rw [List.length_set, hhl.out]; omega), (by rw [List.length_set, hhl.out]; exact hH2), (by simp; omega)⟩
              case measure => simp [intOf]; omega
            · go_upto_region 11 with (go_at_call 8; refine (take_none hlt _).mono ?_; rintro e w5 ⟨rfl, hb5⟩)
              have hN5 := (hN.next hb5).alloc (.cells #[.int .u64 (pa : Int), .int .u64 (pb : Int)] 24)
              have hX5 := Two.new w5 24 (.int .u64 (pa : Int)) (.int .u64 (pb : Int))
              have hs5 := hb5.size
              obtain ⟨X5, hXe⟩ : ∃ Z, Hid (w5.alloc (.cells #[.int .u64 (pa : Int), .int .u64 (pb : Int)] 24) = Z) := ⟨_, rfl⟩
              rw [hXe.out] at hN5 hX5 ⊢
              clear hXe c0 c1 hN
              have d0 := hX5.cell0
              have d1 := hX5.cell1
              have c0 := (hN5.cell hiH).1
              have c1 := (hN5.cell hiH).2
              have f0 := hN5.frozen (i * 2)
              have f1 := hN5.frozen (i * 2 + 1)
              have hN6 : Nev w x0 y0 ((X5.setCell ⟨g, i * 2, none⟩ (.int .u64 (pa : Int))).setCell ⟨g, i * 2 + 1, none⟩ (.int .u64 (pb : Int))) H T g ch u8 := by have h := hN5.set i pa pb; rw [← hp.out, Sr.set_same hiH] at h; exact h
              go_wp2
              go_roundw
              case rel => exact ⟨k + 1, _, _, g, ch, by omega, by go_num, (by rw [hhl.out]), hN6, hI, (by rw [hhl.out]; omega), (by rw [hhl.out]; exact hH2), (by omega)⟩
              case measure => simp [intOf]; omega
          · have hand' : bits .and .u8 (X : Int) 1 = 1 := by rw [hand, show X % 2 = 1 by omega]; rfl
            clear hand
            by_cases hlt : 0 < share pa pb
            · obtain ⟨c, hc⟩ : ∃ c : Nat, Hid (pb - share pa pb = c) := ⟨_, rfl⟩
              go_upto_region 15 with (go_at_call 9; refine (split_some hpab hpb hlt hc _).mono ?_; rintro e w5 ⟨rfl, hb5⟩)
              have hN5 := ((hN.next hb5).alloc (.cells #[.int .u64 (pa : Int), .int .u64 (c : Int)] 24)).alloc (.cells #[.int .u64 (c : Int), .int .u64 (pb : Int)] 24)
              have hX5 := (Two.new w5 24 (.int .u64 (pa : Int)) (.int .u64 (c : Int))).alloc (.cells #[.int .u64 (c : Int), .int .u64 (pb : Int)] 24)
              have hG5 : Two ((w5.alloc (.cells #[.int .u64 (pa : Int), .int .u64 (c : Int)] 24)).alloc (.cells #[.int .u64 (c : Int), .int .u64 (pb : Int)] 24)) (w5.heap.size + 1) 24 (.int .u64 (c : Int)) (.int .u64 (pb : Int)) := by have h := Two.new (w5.alloc (.cells #[.int .u64 (pa : Int), .int .u64 (c : Int)] 24)) 24 (.int .u64 (c : Int)) (.int .u64 (pb : Int)); rw [World.size_alloc] at h; exact h
              have hs5 := hb5.size
              obtain ⟨X5, hXe⟩ : ∃ Z, Hid ((w5.alloc (.cells #[.int .u64 (pa : Int), .int .u64 (c : Int)] 24)).alloc (.cells #[.int .u64 (c : Int), .int .u64 (pb : Int)] 24) = Z) := ⟨_, rfl⟩
              rw [hXe.out] at hN5 hX5 hG5 ⊢
              clear hXe c0 c1 hN
              have d0 := hX5.cell0
              have d1 := hX5.cell1
              have c0 := (hN5.cell hiH).1
              have c1 := (hN5.cell hiH).2
              have f0 := hN5.frozen (i * 2)
              have f1 := hN5.frozen (i * 2 + 1)
              have hN6 : Nev w x0 y0 ((X5.setCell ⟨g, i * 2, none⟩ (.int .u64 (pa : Int))).setCell ⟨g, i * 2 + 1, none⟩ (.int .u64 (c : Int))) (H.set i (pa, c)) T g ch u8 := hN5.set i pa c
              have hG6 : Two ((X5.setCell ⟨g, i * 2, none⟩ (.int .u64 (pa : Int))).setCell ⟨g, i * 2 + 1, none⟩ (.int .u64 (c : Int))) (w5.heap.size + 1) 24 (.int .u64 (c : Int)) (.int .u64 (pb : Int)) := two_other (two_other hG5 (by omega)) (by omega)
              have hI6 : Sr.Inv (x0, y0) (H.set i (pa, c) ++ [(c, pb)]) T := by have h := hI.part (q := share pa pb) hiH hp.out (by unfold share; omega); rw [hc.out] at h; exact h
              go_upto_region 16 with fail
              obtain ⟨Y, hY⟩ : ∃ Y, Hid (((X5.setCell ⟨g, i * 2, none⟩ (.int .u64 (pa : Int))).setCell ⟨g, i * 2 + 1, none⟩ (.int .u64 (c : Int))) = Y) := ⟨_, rfl⟩
              rw [hY.out] at hN6 hG6 ⊢
              clear hY d0 d1 c0 c1 f0 f1 hN5 hX5 hI hG5
              have hs6 := hN6.sz
              have d0 := hG6.cell0
              have d1 := hG6.cell1
              have hll : (H.set i (pa, c)).length = hl := by rw [List.length_set, hhl.out]
              have hrow6 := hN6.hv
              rw [hll] at hrow6
              have hH3 : hl ≤ 61 := by omega
              go_wp2_with (at_builtin; refine wpList_append_own _ rfl _ _ 28 rfl (w.heap.size + 1) 24 j0 (.agg #[.int .u64 0, .int .u64 0]) 2 16 Try.underlying28 hj0 hy0 hy1 hy2 rfl (by decide) _ _ _ rfl (hrow6.alloc _) ⟨Y.heap.size, 0, none⟩ 1 1 [.int .u64 (c : Int), .int .u64 (pb : Int)] rfl rfl (cell_two_newS _ _ _ _) (by simp [Value.oneCell']) (by unfold maxLen; omega) (by omega) (by simp; omega) ?_; intro v7 w7 hown7 hgrow7 _; obtain ⟨g7, c7, rfl⟩ := ownsRow_twoS hown7)
              go_roundw
              case rel => exact ⟨k + 1, _, _, g7, c7, by omega, by go_num, (by rw [List.length_append, hll]; rfl), hN6.pushH (by rw [hll]; exact hown7) (by rw [hll]; exact hgrow7), hI6, (by rw [List.length_append, hll]; simp; omega), (by rw [List.length_append, hll]; simp), (by omega)⟩
              case measure => simp [intOf]; omega
            · have hlt0 : share pa pb = 0 := by omega
              go_upto_region 15 with (go_at_call 9; refine (split_none hpab hpb hlt0 _).mono ?_; rintro e w5 ⟨rfl, hb5⟩)
              have hN5 := ((hN.next hb5).alloc (.cells #[.int .u64 (pa : Int), .int .u64 (pb : Int)] 24)).alloc (.cells #[.int .u64 0, .int .u64 0] 24)
              have hX5 := (Two.new w5 24 (.int .u64 (pa : Int)) (.int .u64 (pb : Int))).alloc (.cells #[.int .u64 0, .int .u64 0] 24)
              have hs5 := hb5.size
              obtain ⟨X5, hXe⟩ : ∃ Z, Hid ((w5.alloc (.cells #[.int .u64 (pa : Int), .int .u64 (pb : Int)] 24)).alloc (.cells #[.int .u64 0, .int .u64 0] 24) = Z) := ⟨_, rfl⟩
              rw [hXe.out] at hN5 hX5 ⊢
              clear hXe c0 c1 hN
              have d0 := hX5.cell0
              have d1 := hX5.cell1
              have c0 := (hN5.cell hiH).1
              have c1 := (hN5.cell hiH).2
              have f0 := hN5.frozen (i * 2)
              have f1 := hN5.frozen (i * 2 + 1)
              have hN6 : Nev w x0 y0 ((X5.setCell ⟨g, i * 2, none⟩ (.int .u64 (pa : Int))).setCell ⟨g, i * 2 + 1, none⟩ (.int .u64 (pb : Int))) H T g ch u8 := by have h := hN5.set i pa pb; rw [← hp.out, Sr.set_same hiH] at h; exact h
              go_wp2
              go_roundw
              case rel => exact ⟨k + 1, _, _, g, ch, by omega, by go_num, (by rw [hhl.out]), hN6, hI, (by rw [hhl.out]; omega), (by rw [hhl.out]; exact hH2), (by omega)⟩
              case measure => simp [intOf]; omega
        · obtain rfl : k = n1 := by omega
          clear hkn hby
          obtain ⟨ao, ct, rfl, hct1, hct2, hform⟩ := hN.form
          obtain ⟨tl, htl⟩ : ∃ z, Hid (T.length = z) := ⟨_, rfl⟩
          have hch := hN.cap
          rw [hhl.out] at hH1 hH2 hch ⊢
          rw [htl.out] at hT1 hct1 hform ⊢
          obtain ⟨hch1, hch2⟩ := hch
          go_wp2
          go_loopw [95] (fun vi ws => ∃ j : Nat, j ≤ hl ∧ vi = .int .i64 (j : Int) ∧ Nev w x0 y0 ws H T g ch (.slice ao T.length ct)) (fun i _ => hl - (intOf i).toNat)
          case atStart => exact ⟨0, by omega, rfl, hN⟩
          case round =>
            clear hN
            obtain ⟨j, hj, rfl, hN⟩ := hrel
            by_cases hjl : j < hl
            · obtain ⟨p, hp⟩ : ∃ p, Hid (Sr.nth H j = p) := ⟨_, rfl⟩
              obtain ⟨pa, pb⟩ := p
              have hjH : j < H.length := by rw [hhl.out]; exact hjl
              have hfi := hI.fit j hjH
              have hce := hN.cell hjH
              rw [hp.out] at hfi hce
              obtain ⟨c0, c1⟩ := hce
              have hgl := hN.lt
              go_upto_region 22 with fail
              have hN2 := hN.alloc (.cells #[.int .u64 (pa : Int), .int .u64 (pb : Int)] 24)
              have hA := Two.new wr 24 (.int .u64 (pa : Int)) (.int .u64 (pb : Int))
              obtain ⟨X2, hX2⟩ : ∃ Z, Hid (wr.alloc (.cells #[.int .u64 (pa : Int), .int .u64 (pb : Int)] 24) = Z) := ⟨_, rfl⟩
              rw [hX2.out] at hN2 hA ⊢
              clear hX2 c0 c1 hN
              obtain ⟨B, hBB⟩ : ∃ B, Hid (wr.heap.size = B) := ⟨_, rfl⟩
              rw [hBB.out] at hA ⊢
              clear hBB
              go_wp2
              go_loopw [104] (fun vi ws => ∃ m : Nat, m ≤ j ∧ vi = .int .i64 (m : Int) ∧ Nev w x0 y0 ws H T g ch (.slice ao T.length ct) ∧ Two ws B 24 (.int .u64 (pa : Int)) (.int .u64 (pb : Int))) (fun i _ => j - (intOf i).toNat)
              case atStart => exact ⟨0, by omega, rfl, hN2, hA⟩
              case round =>
                clear hN2 hA
                obtain ⟨m, hm, rfl, hN, hA⟩ := hrel
                by_cases hmj : m < j
                · obtain ⟨q, hq⟩ : ∃ q, Hid (Sr.nth H m = q) := ⟨_, rfl⟩
                  obtain ⟨qa, qb⟩ := q
                  have hmH : m < H.length := by omega
                  have hends := hI.ends hjH hmH (by omega)
                  have hends' := hI.ends hmH hjH (by omega)
                  have hce := hN.cell hmH
                  rw [hq.out] at hce
                  rw [hp.out, hq.out] at hends hends'
                  have k1 := fun w => apart_any pa pb qa qb w
                  have k2 := fun w => apart_any qa qb pa pb w
                  simp only [apart_true hends] at k1
                  simp only [apart_true hends'] at k2
                  obtain ⟨c0, c1⟩ := hce
                  clear hends hends'
                  go_upto_region 25 with fail
                  have hN3 := hN.alloc (.cells #[.int .u64 (qa : Int), .int .u64 (qb : Int)] 24)
                  have hA3 := hA.alloc (.cells #[.int .u64 (qa : Int), .int .u64 (qb : Int)] 24)
                  have hC3 := Two.new wr 24 (.int .u64 (qa : Int)) (.int .u64 (qb : Int))
                  obtain ⟨X3, hX3⟩ : ∃ Z, Hid (wr.alloc (.cells #[.int .u64 (qa : Int), .int .u64 (qb : Int)] 24) = Z) := ⟨_, rfl⟩
                  rw [hX3.out] at hN3 hA3 hC3 ⊢
                  clear hX3 c0 c1 hN hA
                  have a0 := hA3.cell0
                  have a1 := hA3.cell1
                  have b0 := hC3.cell0
                  have b1 := hC3.cell1
                  go_wp2_with (first | (go_at_call 10; (with_reducible refine (k1 _).mono ?_); rintro e w5 ⟨rfl, hb5⟩; have a2 := (hA3.next hb5).cell0; have a3 := (hA3.next hb5).cell1; have b2 := (hC3.next hb5).cell0; have b3 := (hC3.next hb5).cell1) | (go_at_call 10; (with_reducible refine (k2 _).mono ?_); rintro e w6 ⟨rfl, hb6⟩))
                  go_roundw
                  case rel => exact ⟨m + 1, by omega, by go_num, (hN3.next hb5).next hb6, (hA3.next hb5).next hb6⟩
                  case measure => simp [intOf]; omega
                · obtain rfl : m = j := by omega
                  have kf := fun w => Fit_any pa pb w
                  have hfb : sfitB pa pb = true := (sfit_iff _ _).2 ⟨hfi.2.1, Nat.le_trans hfi.2.2 hy⟩
                  simp only [hfb] at kf
                  have f1 : ¬ pa < x0 := by have : x0 ≤ pa := hfi.1; omega
                  have f2 : ¬ y0 < pb := by have : pb ≤ y0 := hfi.2.2; omega
                  clear hfb hfi hm
                  have a0 := hA.cell0
                  have a1 := hA.cell1
                  go_wp2_with (go_at_call 11; refine (kf _).mono ?_; rintro e w5 ⟨rfl, hb5⟩; have a2 := (hA.next hb5).cell0; have a3 := (hA.next hb5).cell1; have b2 := (hN.next hb5).box.cell0; have b3 := (hN.next hb5).box.cell1)
                  go_roundw
                  case rel => exact ⟨m + 1, by omega, by go_num, hN.next hb5⟩
                  case measure => simp [intOf]; omega
            · obtain rfl : j = hl := by omega
              clear hjl hj
              go_wp2
              go_loopw [139] (fun vi ws => ∃ q : Nat, q ≤ tl ∧ vi = .int .i64 (q : Int) ∧ Nev w x0 y0 ws H T g ch (.slice ao T.length ct)) (fun i _ => tl - (intOf i).toNat)
              case atStart => exact ⟨0, by omega, rfl, hN⟩
              case round =>
                clear hN
                obtain ⟨q, hq, rfl, hN⟩ := hrel
                by_cases hqt : q < tl
                · obtain ⟨gt, rfl⟩ := hform q hqt
                  have hqT : q < T.length := by rw [htl.out]; exact hqt
                  have htin := hI.tin q hqT
                  have htout := fun i hi => hI.tout q i hqT hi
                  have htne := fun l hl hql => hI.tne q l hqT hl hql
                  have cw := hN.word hqT
                  obtain ⟨nq, hnq⟩ : ∃ z, Hid (Sr.nthN T q = z) := ⟨_, rfl⟩
                  rw [hnq.out] at htin cw
                  simp only [hnq.out] at htout htne
                  have hn61 : nq < 2305843009213693952 := Nat.lt_of_lt_of_le htin.2 hy
                  have hname := fun w => rname_any (key := key) (n := nq) (by omega) w
                  have hnm64 : Pm.nameN key nq < 18446744073709551616 := by have := Pm.name_hi key nq; omega
                  have hhas : ∀ a b w, Calls Try.prog 12 #[.int .u64 (key : Int), .agg #[.int .u64 (a : Nat), .int .u64 (b : Nat)], .int .u64 ((Pm.nameN key nq : Nat) : Int)] w fun e w' => e = .returned (.bool (hasB a b nq)) ∧ Below w.heap.size w w' := fun a b w => by have h := Has_any (k := key) (a := a) (b := b) hnm64 w; rw [hasK_name hn61] at h; exact h
                  obtain ⟨nm, hnm⟩ : ∃ z, Hid (Pm.nameN key nq = z) := ⟨_, rfl⟩
                  simp only [hnm.out] at hname hhas
                  have hsb : hasB x0 y0 nq = true := (has_iff _ _ _).2 htin
                  have ks := fun w => hhas x0 y0 w
                  simp only [hsb] at ks
                  clear hsb htin hnm64 hform
                  go_wp2
                  go_loopw [148] (fun vi ws => ∃ m : Nat, m ≤ q ∧ vi = .int .i64 (m : Int) ∧ Nev w x0 y0 ws H T g ch (.slice (some ⟨gt, 0, none⟩) T.length ct)) (fun i _ => q - (intOf i).toNat)
                  case atStart => exact ⟨0, by omega, rfl, hN⟩
                  case round =>
                    clear hN cw
                    obtain ⟨m, hm, rfl, hN⟩ := hrel
                    by_cases hmq : m < q
                    · have hmT : m < T.length := by omega
                      have cw := hN.word hmT
                      have hne := htne m hmT (by omega)
                      obtain ⟨mm, hmm⟩ : ∃ z, Hid (Sr.nthN T m = z) := ⟨_, rfl⟩
                      rw [hmm.out] at cw hne
                      clear htout htne hname hhas ks
                      go_wp2
                      go_roundw
                      case rel => exact ⟨m + 1, by omega, by go_num, hN⟩
                      case measure => simp [intOf]; omega
                    · obtain rfl : m = q := by omega
                      clear htne hmq hm
                      go_wp2
                      go_loopw [158] (fun vi ws => ∃ i : Nat, i ≤ j ∧ vi = .int .i64 (i : Int) ∧ Nev w x0 y0 ws H T g ch (.slice (some ⟨gt, 0, none⟩) T.length ct)) (fun i _ => j - (intOf i).toNat)
                      case atStart => exact ⟨0, by omega, rfl, hN⟩
                      case round =>
                        clear hN
                        obtain ⟨i, hi, rfl, hN⟩ := hrel
                        by_cases hij : i < j
                        · obtain ⟨p, hp⟩ : ∃ p, Hid (Sr.nth H i = p) := ⟨_, rfl⟩
                          obtain ⟨pa, pb⟩ := p
                          have hiH : i < H.length := by rw [hhl.out]; exact hij
                          have hce := hN.cell hiH
                          have hno := htout i hiH
                          rw [hp.out] at hce hno
                          have hnb : hasB pa pb nq = false := by rw [Bool.eq_false_iff]; exact fun h => hno ((has_iff _ _ _).1 h)
                          have kh := fun w => hhas pa pb w
                          simp only [hnb] at kh
                          obtain ⟨c0, c1⟩ := hce
                          clear hno hnb htout hhas ks
                          go_upto_region 43 with fail
                          have hN3 := hN.alloc (.cells #[.int .u64 (pa : Int), .int .u64 (pb : Int)] 24)
                          have hC3 := Two.new wr 24 (.int .u64 (pa : Int)) (.int .u64 (pb : Int))
                          obtain ⟨X3, hX3⟩ : ∃ Z, Hid (wr.alloc (.cells #[.int .u64 (pa : Int), .int .u64 (pb : Int)] 24) = Z) := ⟨_, rfl⟩
                          rw [hX3.out] at hN3 hC3 ⊢
                          clear hX3 c0 c1 hN
                          obtain ⟨B, hBB⟩ : ∃ B, Hid (wr.heap.size = B) := ⟨_, rfl⟩
                          rw [hBB.out] at hC3 ⊢
                          clear hBB
                          have b0 := hC3.cell0
                          have b1 := hC3.cell1
                          go_region_held3 (fun w' => w'.cell? ⟨B, 0, none⟩ = some (.int .u64 (pa : Int)) ∧ w'.cell? ⟨B, 1, none⟩ = some (.int .u64 (pb : Int))) (go_keep) (first | (go_at_call 13; refine (hname _).mono ?_; rintro e w6 ⟨rfl, rfl⟩) | (go_at_call 12; (with_reducible refine (kh _).mono ?_); rintro e w7 ⟨rfl, hb7⟩; have hb8 : Below X3.heap.size X3 w7 := (Below.refl _ X3).drew.trans hb7; have d0 := (hC3.next hb8).cell0; have d1 := (hC3.next hb8).cell1))
                          go_wp2
                          go_roundw
                          case rel => exact ⟨i + 1, by omega, by go_num, hN3.next hb8⟩
                          case measure => simp [intOf]; omega
                        · obtain rfl : i = j := by omega
                          clear hij hi htout hhas
                          have b0 := hN.box.cell0
                          have b1 := hN.box.cell1
                          go_upto_region 46 with fail
                          go_region_held3 (fun w' => w'.cell? ⟨w.heap.size, 0, none⟩ = some (.int .u64 (x0 : Int)) ∧ w'.cell? ⟨w.heap.size, 1, none⟩ = some (.int .u64 (y0 : Int))) (go_keep) (first | (go_at_call 13; refine (hname _).mono ?_; rintro e w6 ⟨rfl, rfl⟩) | (go_at_call 12; (with_reducible refine (ks _).mono ?_); rintro e w7 ⟨rfl, hb7⟩; have hb8 : Below wr.heap.size wr w7 := (Below.refl _ wr).drew.trans hb7; have d0 := (hN.next hb8).box.cell0; have d1 := (hN.next hb8).box.cell1))
                          go_wp2
                          go_roundw
                          case rel => exact ⟨m + 1, by omega, by go_num, hN.next hb8⟩
                          case measure => simp [intOf]; omega
                · obtain rfl : q = tl := by omega
                  have hbl := hN.bel
                  clear hqt hq
                  go_wp2_with (go_at_call 7; refine (awake7_any _).mono ?_; rintro e w5 ⟨rfl, hb5⟩)
                  go_ret
                  exact ⟨rfl, hbl.trans (hb5.mono hbl.size)⟩
    · simp only [Bool.not_eq_true] at hfit
      simp only [hfit] at hf
      go_enter Try.func3, Try.ntmps3
      go_wp2_with (first | (go_at_call 6; refine (hf _).mono ?_; rintro e w1 ⟨rfl, hb⟩; replace hB := hB.trans (hb.mono hB.size); clear hb) | (go_at_call 7; refine (awake7_any _).mono ?_; rintro e w1 ⟨rfl, hb⟩; replace hB := hB.trans (hb.mono hB.size); clear hb))
      go_ret
      exact ⟨rfl, hB⟩
  · have h60' : decide ((60 : Int) < (n1 : Int)) = true := decide_eq_true (by omega)
    go_enter Try.func3, Try.ntmps3
    go_wp2_with (go_at_call 7; refine (awake7_any _).mono ?_; rintro e w1 ⟨rfl, hb⟩; replace hB := hB.trans (hb.mono hB.size); clear hb)
    go_ret
    exact ⟨rfl, hB⟩

set_option maxRecDepth 100000 in
theorem lifted (os : Os) (started : os.Started) (H : Type) (enc : TypeId × Value → H) :
    ReturnsInHanded {} Try.checked os 3 .any (Rows.serialNeverSpec.pre6 enc Try.prog Try.f3 Rows.serialNeverRow.domain false) (Rows.serialNeverSpec.post enc Try.prog Try.f3 false true false false) := by
  refine returnsInHanded_of_change (C := Try.checked) own started (by kernel_rfl) Try.func3
    (ChangeSpec.witness6 (enc := enc) (C := Try.checked) false ⟨#[], #[.agg #[.int .u64 0, .int .u64 0], .slice none 0 0, .int .u64 0], []⟩ 8 (by kernel_rfl) (by kernel_rfl) (by kernel_rfl) (by kernel_rfl)) ?_
  intro W base args ds gs before hval0 hW hcnd _
  have hval : ∀ (j : Nat) t v, Try.f3.params[j]? = some t → args[j]? = some v → Value.okWide Try.prog W .any base t v := hval0
  have hW' := hW
  obtain ⟨p, q, hA0, hV, rfl, hfz, hnd⟩ := hW
  have hA : DataW.TrodAll enc Try.prog W 0 (fun _ => true) true Try.f3.params.toList args.toList ds p := hA0
  rw [Try.params3] at hA hval
  obtain ⟨v0, vs0, d0, ds0, p0, q0, hargs, rfl, rfl, h0, r0⟩ := trodAll_cons hA
  obtain ⟨v1, vs1, d1, ds1, p1, q1, rfl, rfl, rfl, h1, r1⟩ := trodAll_cons r0
  obtain ⟨v2, vs2, d2, ds2, p2, q2, rfl, rfl, rfl, h2, r2⟩ := trodAll_cons r1
  obtain ⟨rfl, rfl, rfl⟩ := trodAll_nil r2
  obtain rfl : args = #[v0, v1, v2] := by cases args; simp_all
  obtain ⟨rfl, rfl⟩ := trodVars_none hV
  obtain ⟨x0, y0, rfl, l0⟩ := span_of_trod (hval 0 24 v0 rfl rfl) h0
  have k0 := h0
  have lt0 : ∀ x ∈ p0, x.block < W.heap.size := by obtain ⟨m, hm⟩ := k0; exact DataW.trod_lt m _ _ _ hm
  obtain ⟨ao1, n1, cap1, rfl⟩ := okWide_slice Try.underlying25 (hval 1 25 v1 rfl rfl)
  have k1 := h1
  have lt1 : ∀ x ∈ p1, x.block < W.heap.size := by obtain ⟨m, hm⟩ := k1; exact DataW.trod_lt m _ _ _ hm
  obtain ⟨L1, l1⟩ := byteD_of_trod h1
  obtain ⟨a2, rfl, rfl, rfl, w2⟩ := open_int Try.underlying22 (hval 2 22 v2 rfl rfl) h2
  clear hA0 hval0
  refine (walk x0 y0 ao1 n1 cap1 L1 a2 W l0 l1 w2).mono fun e W' ⟨he, bel⟩ => ?_
  subst he
  exact ⟨_, rfl, _, _, _, [], _, [], hW', trodAll_mk1 (shut_bool Try.underlying4 _), (trodAll_cons_mk (Below.trod laidOut (by kernel_rfl) (of_decide_eq_true (by kernel_rfl)) k0 bel lt0) (trodAll_cons_mk (Below.trod laidOut (by kernel_rfl) (of_decide_eq_true (by kernel_rfl)) k1 bel lt1) (trodAll_cons_mk (shut_int Try.underlying22 w2) trodAll_mk0))), rfl, bel.frame _, fun h => by cases h⟩

theorem over : Rows.serialNeverRow.holds Try.pinned (OpenSpec.ofChange Rows.serialNeverSpec) :=
  OpenClaim.holds_of_wide 3 Try.f3 rfl rfl rfl rfl rfl rfl rfl ⟨rfl, rfl, rfl, rfl, rfl⟩ rfl rfl rfl rfl rfl (by kernel_rfl) Try.func3 (by kernel_rfl)
    (of_decide_eq_true (by kernel_rfl)) (by unfold Func.isWrapper; first | (rw [if_pos (by decide +kernel)]; kernel_rfl) | (rw [if_neg (by decide +kernel)]; exact ⟨rfl, rfl⟩))
    (fun os started H enc _ => lifted os started H enc)

end serialNever
/-- The statement. -/
theorem serialNever_holds : Rows.SerialNeverSaid :=
  serialNever.over
#print axioms serialNever_holds
end Go.Proofs.Ytjgdafpciilfeaa
