/-
  PROVED HERE: what Drop of the document's layer 5 returns when it is called (a contract over this translation). A fit table.
-/
import Derived.Test.YtdljoapbeelgiaaItn20
namespace Go.Proofs.Ytdljoapbeelgiaa
open Go.ChangeShapes Go.WideShapes Go.ChangeAt Go.RowKit
set_option linter.unusedVariables false

theorem two_other {W : World} {b g i : Nat} {t : TypeId} {u v x : Value} (h : Two W b t u v) (hne : b ≠ g) : Two (W.setCell ⟨g, i, none⟩ x) b t u v := (Below.heap_setCell _ _ _ _ hne).trans h
theorem dropI_gone {Z : Zt} {i : Nat} (hc : (zat Z i).2 - 1 = 0) : dropI Z i = Z.set i ([], 0) := by unfold dropI less; rw [if_pos hc, hc]
theorem dropI_more {Z : Zt} {i : Nat} (hc : (zat Z i).2 - 1 ≠ 0) : dropI Z i = Z.set i ((zat Z i).1, (zat Z i).2 - 1) := by unfold dropI less; rw [if_neg hc]
set_option maxRecDepth 100000 in
set_option maxHeartbeats 6000000 in
theorem rtdrop_any {w : World} {a a' : Option Addr} {n c c' : Nat} {Z : Zt} (x : Int) (hT : Tab w a n c a' c' Z) (hF : FitP Z) :
    Calls Try.prog 15 #[.agg #[.slice a n c, .slice a' n c'], .int .i64 x] w fun e w' => ∃ a1 n1 c1 a1' c1', e = .returned (.tuple #[.agg #[.slice a1 n1 c1, .slice a1' n1 c1'], .int .i64 (dropR Z x).2]) ∧ Tab w' a1 n1 c1 a1' c1' (dropR Z x).1 ∧ Below w.heap.size w w' := by
  have hl := hT.len
  have hn := hF.len
  have hb0 : Below w.heap.size w ((w.alloc (.cells #[.slice a n c, .slice a' n c'] 25)).alloc (.cells #[.slice none 0 0, .slice none 0 0] 25)) := ((Below.refl _ w).alloc (Nat.le_refl _) _).alloc (by simp) _
  have t0 := two_kty (Two.new w 25 (.slice a n c) (.slice a' n c')) (KTy.alloc _ _ (.cells #[.slice none 0 0, .slice none 0 0] 25))
  have t1 := Two.new (w.alloc (.cells #[.slice a n c, .slice a' n c'] 25)) 25 (.slice none 0 0) (.slice none 0 0)
  rw [World.size_alloc] at t1
  obtain ⟨W0, hW0⟩ : ∃ W0, Hid ((w.alloc (.cells #[.slice a n c, .slice a' n c'] 25)).alloc (.cells #[.slice none 0 0, .slice none 0 0] 25) = W0) := ⟨_, rfl⟩
  have hsz : W0.heap.size = w.heap.size + 2 := by rw [← hW0.out]; simp
  go_enter Try.func15, Try.ntmps15
  go_upto_region 1 with (fail)
  rw [hW0.out] at hb0 t0 t1 ⊢
  clear hW0
  have d0 := t0.cell0
  have d1 := t0.cell1
  have hTW := hT.next hb0
  have hw0 := hb0.size
  cases hk : asksB Z x with
  | false =>
    have hd : Hid (dropR Z x = (Z, 1)) := dropR_no hk
    go_wp2_with (go_at_call 35; refine (there_any x hTW).mono ?_; rintro e w1 ⟨rfl, hb1⟩; rw [hk]; have e0 := (hb1.cell (p := ⟨w.heap.size, 0, none⟩) t0.lt).trans d0; have e1 := (hb1.cell (p := ⟨w.heap.size, 1, none⟩) t0.lt).trans d1; have T1 : Two w1 (w.heap.size + 1) 25 (.slice none 0 0) (.slice none 0 0) := (hb1.block _ t1.lt).trans t1; have f0 := T1.frozen0 0; have f1 := T1.frozen0 1; have x0 := T1.cell0; have x1 := T1.cell1)
    obtain ⟨T2, k2⟩ := box_over (x := .slice a n c) (y := .slice a' n c') T1
    have b1 : Below w.heap.size w w1 := hb0.trans (hb1.mono hw0)
    have b2 := over_below (B := w.heap.size + 1) (x := .slice a n c) (y := .slice a' n c') b1 (by omega)
    have p0 := T2.cell0
    have p1 := T2.cell1
    refine bodyPost_ret (v := .tuple #[.agg #[.slice a n c, .slice a' n c'], .int .i64 1]) (by simp [results, Try.f15, go_sem, p0, p1]) rfl ?_
    rw [hd.out]
    exact ⟨_, _, _, _, _, rfl, hT.next b2, b2⟩
  | true =>
    obtain ⟨h0, h1, h2⟩ := asks_iff.1 hk
    obtain ⟨i, rfl⟩ : ∃ i : Nat, x = i := ⟨x.toNat, by omega⟩
    have hi : i < n := by omega
    have hin : ((i : Nat) : Int) < ((n : Nat) : Int) := by omega
    obtain ⟨s0, s1, s2, s3⟩ := hF.stand i (by omega)
    have h2' : (zat Z i).2 ≠ 0 := h2
    have hd : Hid (dropR Z ((i : Nat) : Int) = (trim (dropI Z i), 0)) := by unfold Hid dropR; rw [hk, if_pos rfl]; rfl
    clear h0 h1 h2
    go_upto_region 4 with (first | (go_at_call 35; refine (there_any ((i : Nat) : Int) hTW).mono ?_; rintro e w1 ⟨rfl, hb1⟩; rw [hk]; have e0 := (hb1.cell (p := ⟨w.heap.size, 0, none⟩) t0.lt).trans d0; have e1 := (hb1.cell (p := ⟨w.heap.size, 1, none⟩) t0.lt).trans d1) | (go_at_call 33; refine (rcopied_any (hT.later (keeps_of_below (hb0.trans (hb1.mono hw0)))) (Nat.le_trans hw0 hb1.size) (by omega)).mono ?_; rintro e w2 ⟨aL, cL, aC, cC, rfl, ho2, hb2⟩))
    have hB2 : Below w2.heap.size w2 (w2.alloc (.cells #[.slice aL n cL, .slice aC n cC] 25)) := (Below.refl _ _).alloc (Nat.le_refl _) _
    have t2 := Two.new w2 25 (.slice aL n cL) (.slice aC n cC)
    have O2 := ho2.next hB2
    obtain ⟨W2, hW2⟩ : ∃ W2, Hid (w2.alloc (.cells #[.slice aL n cL, .slice aC n cC] 25) = W2) := ⟨_, rfl⟩
    rw [hW2.out] at hB2 t2 O2 ⊢
    have hlt2 : w2.heap.size < W2.heap.size := t2.lt
    clear hW2 ho2
    have bs1 : W0.heap.size ≤ w1.heap.size := hb1.size
    have bs2 : w1.heap.size ≤ w2.heap.size := hb2.size
    have C2 : Hid (Below W0.heap.size W0 W2) := (hb1.trans (hb2.mono bs1)).trans (hB2.mono (Nat.le_trans bs1 bs2))
    have D2 : Hid (Below w.heap.size w W2) := hb0.trans (C2.out.mono hw0)
    have R2 : Hid (Two W2 (w.heap.size + 1) 25 (.slice none 0 0) (.slice none 0 0)) := (C2.out.block _ t1.lt).trans t1
    have c20 := t2.cell0
    have c21 := t2.cell1
    have hwb : w.heap.size ≤ w1.heap.size := Nat.le_trans hw0 bs1
    obtain ⟨y, hy⟩ : ∃ y, Hid ((zat Z i).2 = y) := ⟨_, rfl⟩
    by_cases hc : y = 1
    · subst hc
      have hdi : Hid (dropI Z i = Z.set i ([], 0)) := dropI_gone (by rw [hy.out]; rfl)
      obtain ⟨g, rfl, q1, q2, ⟨q3, q4⟩, O3, b3, k3, q5⟩ := O2.count hl hi 0
      rw [hy.out] at q1
      have t3 := two_kty t2 (k3 _ (by decide))
      have R3 := two_kty R2.out (k3 _ (by decide))
      have c30 := t3.cell0
      have c31 := t3.cell1
      obtain ⟨g2, ov, rfl, r1, r2, ⟨r3, r4⟩, O4f⟩ := O3.lab (i := i) (by rw [List.length_set]; exact hl) hi
      obtain ⟨O4, b4, k4⟩ := O4f none 0 0 [] (Lab.nil _ _)
      have hz4 : Hid ((Z.set i ((zat Z i).1, 0)).set i ([], (zat (Z.set i ((zat Z i).1, 0)) i).2) = dropI Z i) := by unfold Hid; rw [hdi.out, List.set_set, zat_set, if_pos ⟨rfl, by omega⟩]
      rw [hz4.out] at O4
      have t4 := two_kty t3 (k4 _ (by decide))
      have R4 := two_kty R3 (k4 _ (by decide))
      have B4 : Hid (Below w.heap.size w (((W2.setCell ⟨g, i, none⟩ (.int .i64 0)).setCell ⟨g2, i, none⟩ (.slice none 0 0)))) := (D2.out.trans (b3.mono hwb)).trans (b4.mono hwb)
      obtain ⟨W4, hW4⟩ : ∃ W4, Hid ((W2.setCell ⟨g, i, none⟩ (.int .i64 0)).setCell ⟨g2, i, none⟩ (.slice none 0 0) = W4) := ⟨_, rfl⟩
      have c40x := t4.cell1
      clear O4f O3 O2 b3 b4 k3 k4
      clear d0 d1 s0 s1 s2 s3
      go_upto_region 8 with (fail)
      rw [hW4.out] at O4 t4 R4 B4 ⊢
      clear hW4
      obtain ⟨Z', hZ'⟩ : ∃ Z' : Zt, Hid (dropI Z i = Z') := ⟨_, rfl⟩
      have hl' : Z'.length = n := by rw [← hZ'.out, len_dropI]; exact hl
      rw [hZ'.out] at O4 hd
      have hTO := O4.tab hl'
      have c40 := t4.cell0
      have c41 := t4.cell1
      go_loopw [7] (fun v wr => ∃ k : Nat, k ≤ n ∧ v = .int .i64 k ∧ (∀ j, k ≤ j → j < n → (zat Z' j).2 = 0) ∧ wr = W4) (fun v _ => (intOf v).toNat)
      case atStart => exact ⟨n, Nat.le_refl _, rfl, fun j h1 h2 => absurd h2 (by omega), rfl⟩
      case round =>
        obtain ⟨k, hkn, rfl, hal, rfl⟩ := hrel
        have hmain : ((k = 0 ∨ (zat Z' (k - 1)).2 ≠ 0) → endOf Z' = k) := fun h => endOf_of (fun j h1 h2 => hal j h1 (by omega)) (fun hp => by rcases h with h | h; omega; exact h)
        have HM : Hid ((k = 0 ∨ (zat Z' (k - 1)).2 ≠ 0) → endOf Z' = k) := hmain
        have HAL : Hid (∀ j, k ≤ j → j < n → (zat Z' j).2 = 0) := hal
        have hkL : ((k : Nat) : Int) ≤ ((cL : Nat) : Int) := by have := hTO.1.2.1; omega
        have hkC : ((k : Nat) : Int) ≤ ((cC : Nat) : Int) := by have := hTO.2.2.1; omega
        have hcLm := hTO.1.2.2.1.1
        have hcCm := hTO.2.2.2.1.1
        have u0 := two_other (i := 0) (x := .slice (some ⟨g2, 0, none⟩) k cL) R4 (show w.heap.size + 1 ≠ w2.heap.size by omega)
        have v0 := t4.set0 (.slice (some ⟨g2, 0, none⟩) k cL)
        have u1 := two_other (i := 1) (x := .slice (some ⟨g, 0, none⟩) k cC) u0 (show w.heap.size + 1 ≠ w2.heap.size by omega)
        have v1 := v0.set1 (.slice (some ⟨g, 0, none⟩) k cC)
        obtain ⟨T9, k9⟩ := box_over (x := .slice (some ⟨g2, 0, none⟩) k cL) (y := .slice (some ⟨g, 0, none⟩) k cC) u1
        have B8 := over_below (B := w2.heap.size) (x := .slice (some ⟨g2, 0, none⟩) k cL) (y := .slice (some ⟨g, 0, none⟩) k cC) B4.out (by omega)
        have B9 : Hid (Below w.heap.size w _) := over_below (B := w.heap.size + 1) (x := .slice (some ⟨g2, 0, none⟩) k cL) (y := .slice (some ⟨g, 0, none⟩) k cC) B8 (by omega)
        have K8 : ∀ t, t ≠ 25 → KTy t wr ((wr.setCell ⟨w2.heap.size, 0, none⟩ (.slice (some ⟨g2, 0, none⟩) k cL)).setCell ⟨w2.heap.size, 1, none⟩ (.slice (some ⟨g, 0, none⟩) k cC)) := fun t ht => (KTy.set t4 _ ht).trans (KTy.set v0 _ ht)
        have O9 : Hid (OT w1.heap.size w.heap.size _ (.slice (some ⟨g2, 0, none⟩) n cL) (.slice (some ⟨g, 0, none⟩) n cC) Z') := O4.kty (fun t ht => (K8 t ht).trans (k9 t ht)) (((((Below.refl _ wr).setCell (p := ⟨w2.heap.size, 0, none⟩) (by show w.heap.size ≤ w2.heap.size; omega) _).setCell (p := ⟨w2.heap.size, 1, none⟩) (by show w.heap.size ≤ w2.heap.size; omega) _).setCell (p := ⟨w.heap.size + 1, 0, none⟩) (by show w.heap.size ≤ w.heap.size + 1; omega) _).setCell (p := ⟨w.heap.size + 1, 1, none⟩) (by show w.heap.size ≤ w.heap.size + 1; omega) _)
        have e00 := t4.frozen0 0
        have e01 := v0.cell0
        have e02 := v0.cell1
        have e03 := v0.frozen0 1
        have e04 := v1.cell0
        have e05 := v1.cell1
        have e06 := u1.cell0
        have e07 := u1.frozen0 0
        have e08 := (u1.set0 (.slice (some ⟨g2, 0, none⟩) k cL)).cell1
        have e09 := (u1.set0 (.slice (some ⟨g2, 0, none⟩) k cL)).frozen0 1
        have p0 := T9.cell0
        have p1 := T9.cell1
        clear u0 v0 u1 v1 K8 k9 hmain hal
        by_cases hk0 : k = 0
        · subst hk0
          have he : Hid (endOf Z' = 0) := HM.out (.inl rfl)
          go_wp2
          refine bodyPost_ret (v := .tuple #[.agg #[.slice (some ⟨g2, 0, none⟩) 0 cL, .slice (some ⟨g, 0, none⟩) 0 cC], .int .i64 0]) (by simp [results, Try.f15, go_sem, p0, p1]) rfl ?_
          rw [hd.out]
          have hTr := O9.out.tabK 0 (by omega) hl'
          exact ⟨_, _, _, _, _, rfl, (by show Tab _ _ _ _ _ _ (trim Z'); unfold trim; rw [he.out]; exact hTr), B9.out⟩
        · obtain ⟨m, hm⟩ : ∃ m, Hid (k = m + 1) := ⟨k - 1, by unfold Hid; omega⟩
          have hk1 : (0 : Int) < ((k : Nat) : Int) := by omega
          have hwm : IntKind.i64.wrap (((k : Nat) : Int) - 1) = ((m : Nat) : Int) := by rw [IntKind.wrap_i64]; have := hm.out; omega
          have hmn : m < n := by have := hm.out; omega
          have hmn' : ((m : Nat) : Int) < ((n : Nat) : Int) := by omega
          obtain ⟨b1, off1, b2, off2, _, _, _, e1, e2, _, _, _, qm, _⟩ := TabD.at hTO (i := m) hmn
          clear e1
          cases e2
          rw [Nat.zero_add] at qm
          obtain ⟨y2, hy2⟩ : ∃ y2, Hid ((zat Z' m).2 = y2) := ⟨_, rfl⟩
          rw [hy2.out] at qm
          by_cases hz : y2 = 0
          · subst hz
            go_wp2
            go_roundw
            case rel => exact ⟨m, by omega, rfl, fun j h1 h2 => by
                rcases Nat.lt_or_ge j k with h | h
                · obtain rfl : j = m := by have := hm.out; omega
                  exact hy2.out
                · exact HAL.out j h h2, trivial⟩
            case measure => simp [intOf]; have := hm.out; omega
          · have hz' : (y2 == 0) = false := by simpa using hz
            have he : Hid (endOf Z' = k) := HM.out (.inr (by have h9 := hm.out; rw [show k - 1 = m by omega, hy2.out]; exact hz))
            go_wp2
            refine bodyPost_ret (v := .tuple #[.agg #[.slice (some ⟨g2, 0, none⟩) k cL, .slice (some ⟨g, 0, none⟩) k cC], .int .i64 0]) (by simp [results, Try.f15, go_sem, p0, p1]) rfl ?_
            rw [hd.out]
            have hTr := O9.out.tabK k (by omega) hl'
            exact ⟨_, _, _, _, _, rfl, (by show Tab _ _ _ _ _ _ (trim Z'); unfold trim; rw [he.out]; exact hTr), B9.out⟩
    · have hdi : Hid (Z.set i ((zat Z i).1, y - 1) = dropI Z i) := by unfold Hid; rw [dropI_more (by rw [hy.out]; omega), hy.out]
      have hww : IntKind.i64.wrap (y - 1) = y - 1 := by rw [IntKind.wrap_i64]; rw [hy.out] at s0 s1; omega
      have hc' : ((y - 1 : Int) == 0) = false := by simp; omega
      obtain ⟨g, rfl, q1, q2, ⟨q3, q4⟩, O4, b3, k3, q5⟩ := O2.count hl hi (y - 1)
      rw [hy.out] at q1
      rw [hdi.out] at O4
      have t4 := two_kty t2 (k3 _ (by decide))
      have R4 := two_kty R2.out (k3 _ (by decide))
      have c30 := t4.cell0
      have c31 := t4.cell1
      have B4 : Hid (Below w.heap.size w (W2.setCell ⟨g, i, none⟩ (.int .i64 (y - 1)))) := D2.out.trans (b3.mono hwb)
      obtain ⟨W4, hW4⟩ : ∃ W4, Hid (W2.setCell ⟨g, i, none⟩ (.int .i64 (y - 1)) = W4) := ⟨_, rfl⟩
      clear O2 b3 k3
      clear d0 d1 s0 s1 s2 s3
      go_upto_region 8 with (fail)
      rw [hW4.out] at O4 t4 R4 B4 ⊢
      clear hW4
      obtain ⟨Z', hZ'⟩ : ∃ Z' : Zt, Hid (dropI Z i = Z') := ⟨_, rfl⟩
      have hl' : Z'.length = n := by rw [← hZ'.out, len_dropI]; exact hl
      rw [hZ'.out] at O4 hd
      have hTO := O4.tab hl'
      have c40 := t4.cell0
      have c41 := t4.cell1
      go_loopw [7] (fun v wr => ∃ k : Nat, k ≤ n ∧ v = .int .i64 k ∧ (∀ j, k ≤ j → j < n → (zat Z' j).2 = 0) ∧ wr = W4) (fun v _ => (intOf v).toNat)
      case atStart => exact ⟨n, Nat.le_refl _, rfl, fun j h1 h2 => absurd h2 (by omega), rfl⟩
      case round =>
        obtain ⟨k, hkn, rfl, hal, rfl⟩ := hrel
        have hmain : ((k = 0 ∨ (zat Z' (k - 1)).2 ≠ 0) → endOf Z' = k) := fun h => endOf_of (fun j h1 h2 => hal j h1 (by omega)) (fun hp => by rcases h with h | h; omega; exact h)
        have HM : Hid ((k = 0 ∨ (zat Z' (k - 1)).2 ≠ 0) → endOf Z' = k) := hmain
        have HAL : Hid (∀ j, k ≤ j → j < n → (zat Z' j).2 = 0) := hal
        have hkL : ((k : Nat) : Int) ≤ ((cL : Nat) : Int) := by have := hTO.1.2.1; omega
        have hkC : ((k : Nat) : Int) ≤ ((cC : Nat) : Int) := by have := hTO.2.2.1; omega
        have hcLm := hTO.1.2.2.1.1
        have hcCm := hTO.2.2.2.1.1
        have u0 := two_other (i := 0) (x := .slice aL k cL) R4 (show w.heap.size + 1 ≠ w2.heap.size by omega)
        have v0 := t4.set0 (.slice aL k cL)
        have u1 := two_other (i := 1) (x := .slice (some ⟨g, 0, none⟩) k cC) u0 (show w.heap.size + 1 ≠ w2.heap.size by omega)
        have v1 := v0.set1 (.slice (some ⟨g, 0, none⟩) k cC)
        obtain ⟨T9, k9⟩ := box_over (x := .slice aL k cL) (y := .slice (some ⟨g, 0, none⟩) k cC) u1
        have B8 := over_below (B := w2.heap.size) (x := .slice aL k cL) (y := .slice (some ⟨g, 0, none⟩) k cC) B4.out (by omega)
        have B9 : Hid (Below w.heap.size w _) := over_below (B := w.heap.size + 1) (x := .slice aL k cL) (y := .slice (some ⟨g, 0, none⟩) k cC) B8 (by omega)
        have K8 : ∀ t, t ≠ 25 → KTy t wr ((wr.setCell ⟨w2.heap.size, 0, none⟩ (.slice aL k cL)).setCell ⟨w2.heap.size, 1, none⟩ (.slice (some ⟨g, 0, none⟩) k cC)) := fun t ht => (KTy.set t4 _ ht).trans (KTy.set v0 _ ht)
        have O9 : Hid (OT w1.heap.size w.heap.size _ (.slice aL n cL) (.slice (some ⟨g, 0, none⟩) n cC) Z') := O4.kty (fun t ht => (K8 t ht).trans (k9 t ht)) (((((Below.refl _ wr).setCell (p := ⟨w2.heap.size, 0, none⟩) (by show w.heap.size ≤ w2.heap.size; omega) _).setCell (p := ⟨w2.heap.size, 1, none⟩) (by show w.heap.size ≤ w2.heap.size; omega) _).setCell (p := ⟨w.heap.size + 1, 0, none⟩) (by show w.heap.size ≤ w.heap.size + 1; omega) _).setCell (p := ⟨w.heap.size + 1, 1, none⟩) (by show w.heap.size ≤ w.heap.size + 1; omega) _)
        have e00 := t4.frozen0 0
        have e01 := v0.cell0
        have e02 := v0.cell1
        have e03 := v0.frozen0 1
        have e04 := v1.cell0
        have e05 := v1.cell1
        have e06 := u1.cell0
        have e07 := u1.frozen0 0
        have e08 := (u1.set0 (.slice aL k cL)).cell1
        have e09 := (u1.set0 (.slice aL k cL)).frozen0 1
        have p0 := T9.cell0
        have p1 := T9.cell1
        clear u0 v0 u1 v1 K8 k9 hmain hal
        by_cases hk0 : k = 0
        · subst hk0
          have he : Hid (endOf Z' = 0) := HM.out (.inl rfl)
          go_wp2
          refine bodyPost_ret (v := .tuple #[.agg #[.slice aL 0 cL, .slice (some ⟨g, 0, none⟩) 0 cC], .int .i64 0]) (by simp [results, Try.f15, go_sem, p0, p1]) rfl ?_
          rw [hd.out]
          have hTr := O9.out.tabK 0 (by omega) hl'
          exact ⟨_, _, _, _, _, rfl, (by show Tab _ _ _ _ _ _ (trim Z'); unfold trim; rw [he.out]; exact hTr), B9.out⟩
        · obtain ⟨m, hm⟩ : ∃ m, Hid (k = m + 1) := ⟨k - 1, by unfold Hid; omega⟩
          have hk1 : (0 : Int) < ((k : Nat) : Int) := by omega
          have hwm : IntKind.i64.wrap (((k : Nat) : Int) - 1) = ((m : Nat) : Int) := by rw [IntKind.wrap_i64]; have := hm.out; omega
          have hmn : m < n := by have := hm.out; omega
          have hmn' : ((m : Nat) : Int) < ((n : Nat) : Int) := by omega
          obtain ⟨b1, off1, b2, off2, _, _, _, e1, e2, _, _, _, qm, _⟩ := TabD.at hTO (i := m) hmn
          clear e1
          cases e2
          rw [Nat.zero_add] at qm
          obtain ⟨y2, hy2⟩ : ∃ y2, Hid ((zat Z' m).2 = y2) := ⟨_, rfl⟩
          rw [hy2.out] at qm
          by_cases hz : y2 = 0
          · subst hz
            go_wp2
            go_roundw
            case rel => exact ⟨m, by omega, rfl, fun j h1 h2 => by
                rcases Nat.lt_or_ge j k with h | h
                · obtain rfl : j = m := by have := hm.out; omega
                  exact hy2.out
                · exact HAL.out j h h2, trivial⟩
            case measure => simp [intOf]; have := hm.out; omega
          · have hz' : (y2 == 0) = false := by simpa using hz
            have he : Hid (endOf Z' = k) := HM.out (.inr (by have h9 := hm.out; rw [show k - 1 = m by omega, hy2.out]; exact hz))
            go_wp2
            refine bodyPost_ret (v := .tuple #[.agg #[.slice aL k cL, .slice (some ⟨g, 0, none⟩) k cC], .int .i64 0]) (by simp [results, Try.f15, go_sem, p0, p1]) rfl ?_
            rw [hd.out]
            have hTr := O9.out.tabK k (by omega) hl'
            exact ⟨_, _, _, _, _, rfl, (by show Tab _ _ _ _ _ _ (trim Z'); unfold trim; rw [he.out]; exact hTr), B9.out⟩
end Go.Proofs.Ytdljoapbeelgiaa
