/-
  PROVED HERE: what Add of the document's layer 5 returns when it is called (a contract over this translation). A fit table, a label of at most 65536 pairs.
-/
import Derived.Test.YtdljoapbeelgiaaItn20
namespace Go.Proofs.Ytdljoapbeelgiaa
open Go.ChangeShapes Go.WideShapes Go.ChangeAt Go.RowKit
set_option linter.unusedVariables false

theorem two_otherK {W : World} {b g i : Nat} {t : TypeId} {u v x : Value} (h : Two W b t u v) (hne : b ≠ g) : Two (W.setCell ⟨g, i, none⟩ x) b t u v := (Below.heap_setCell _ _ _ _ hne).trans h
/-- What a table's own rows are behind both appends. -/
theorem ot_snoc {base B : Nat} {W W1 W2 : World} {vL vC v1 v2 : Value} {Z : Zt} {vs : List Value} {O : Nat} (h0 : base ≤ W.heap.size ∧ B ≤ base) (h3 : W.ownsRow base 27 1 vL Z.length vs) (h4 : W.ownsRow base 3 1 vC Z.length (cntV Z))
    (h5 : ∀ i, i < Z.length → ∃ a k c, vs[i]? = some (.slice a k c) ∧ LabD (fun b => b < B) W a k c (zat Z i).1) (T : Two W O 25 vL vC) (hO : base ≤ O)
    (hown1 : W1.ownsRow base 27 1 v1 (Z.length + 1) (vs ++ [.slice none 0 0])) (hg1 : (W.alloc (.cells #[.slice none 0 0] 27)).grownBy W1 vL.ownBlock)
    (hown2 : W2.ownsRow base 3 1 v2 (Z.length + 1) (cntV Z ++ [.int .i64 0])) (hg2 : ((W1.setCell ⟨O, 0, none⟩ v1).alloc (.cells #[.int .i64 0] 3)).grownBy W2 vC.ownBlock) :
    OT base B (W2.setCell ⟨O, 1, none⟩ v2) v1 v2 (Z ++ [([], 0)]) ∧ Below base W (W2.setCell ⟨O, 1, none⟩ v2) ∧ Two (W2.setCell ⟨O, 1, none⟩ v2) O 25 v1 v2 ∧ (∀ b, b < base → (W2.setCell ⟨O, 1, none⟩ v2).heap[b]? = W.heap[b]?) := by
  have k1 : ∀ t, t ≠ 27 → KTy t W W1 := fun t ht => (KTy.alloc _ W _).trans (KTy.grown (h3.alloc _) hg1 ht)
  have T1 := two_kty T (k1 _ (by decide))
  have T1' := T1.set0 v1
  have k1' : ∀ t, t ≠ 27 → t ≠ 25 → KTy t W (W1.setCell ⟨O, 0, none⟩ v1) := fun t ht ht' => (k1 t ht).trans (KTy.set T1 _ ht')
  have h4' := ownsRow_kty h4 (k1' _ (by decide) (by decide))
  have k2 : ∀ t, t ≠ 3 → KTy t (W1.setCell ⟨O, 0, none⟩ v1) W2 := fun t ht => (KTy.alloc _ _ _).trans (KTy.grown (h4'.alloc _) hg2 ht)
  have T2 := two_kty T1' (k2 _ (by decide))
  have b1 : Below base W W1 := app_below (Below.refl _ W) h3 hg1 h0.1
  have b1' := b1.setCell (p := ⟨O, 0, none⟩) hO v1
  have b2 : Below base W W2 := app_below b1' h4' hg2 (Nat.le_trans h0.1 b1'.size)
  have b3 := b2.setCell (p := ⟨O, 1, none⟩) hO v2
  have hvl : vs.length = Z.length := by have := h3.1; omega
  refine ⟨⟨⟨Nat.le_trans h0.1 b3.size, h0.2⟩, vs ++ [.slice none 0 0], ?_, ?_, fun i hi => ?_⟩, b3, T2.set1 _, fun b hb => b3.block b hb⟩
  · rw [List.length_append]; exact ownsRow_kty hown1 ((KTy.set T1 _ (by decide)).trans ((k2 _ (by decide)).trans (KTy.set T2 _ (by decide))))
  · rw [List.length_append]
    have e : cntV (Z ++ [([], 0)]) = cntV Z ++ [.int .i64 0] := by unfold cntV; simp
    rw [e]; exact ownsRow_kty hown2 (KTy.set T2 _ (by decide))
  · rw [List.length_append] at hi
    by_cases hin : i < Z.length
    · obtain ⟨a, k, c, q1, q2⟩ := h5 i hin
      refine ⟨a, k, c, by rw [List.getElem?_append_left (by omega)]; exact q1, ?_⟩
      rw [zat_app, if_neg (by omega)]
      exact q2.later (keeps_of_below (b3.mono h0.2))
    · obtain rfl : i = Z.length := by simp at hi; omega
      refine ⟨none, 0, 0, by rw [List.getElem?_append_right (by omega), hvl]; simp, ?_⟩
      rw [zat_app, if_pos rfl]
      exact Lab.nil _ _
set_option maxRecDepth 100000 in
set_option maxHeartbeats 6000000 in
theorem rtadd_any {w : World} {a a' al : Option Addr} {n c c' k cl : Nat} {Z : Zt} {L : List (Int × Int)} (hT : Tab w a n c a' c' Z) (hF : FitP Z) (hL : Lab w.heap.size w al k cl L) :
    Calls Try.prog 13 #[.agg #[.slice a n c, .slice a' n c'], .slice al k cl] w fun e w' => ∃ a1 n1 c1 a1' c1', e = .returned (.tuple #[.agg #[.slice a1 n1 c1, .slice a1' n1 c1'], .int .i64 (addR Z L).2.1, .int .i64 (addR Z L).2.2]) ∧ Tab w' a1 n1 c1 a1' c1' (addR Z L).1 ∧ Below w.heap.size w w' := by
  obtain ⟨i0, hi0, hz0, hz1, hz2⟩ := info_parts infoLab
  obtain ⟨j0, hj0, jz0, jz1, jz2⟩ := info_parts infoInt
  have hl := hT.len
  have hn := hF.len
  have hlk := hL.1
  have hcm := hT.2.2.2.1.1
  have hnc := hT.2.2.1
  have hb0 : Below w.heap.size w ((w.alloc (.cells #[.slice a n c, .slice a' n c'] 25)).alloc (.cells #[.slice none 0 0, .slice none 0 0] 25)) := ((Below.refl _ w).alloc (Nat.le_refl _) _).alloc (by simp) _
  have t0 := two_kty (Two.new w 25 (.slice a n c) (.slice a' n c')) (KTy.alloc _ _ (.cells #[.slice none 0 0, .slice none 0 0] 25))
  have t1 := Two.new (w.alloc (.cells #[.slice a n c, .slice a' n c'] 25)) 25 (.slice none 0 0) (.slice none 0 0)
  rw [World.size_alloc] at t1
  obtain ⟨W0, hW0⟩ : ∃ W0, Hid ((w.alloc (.cells #[.slice a n c, .slice a' n c'] 25)).alloc (.cells #[.slice none 0 0, .slice none 0 0] 25) = W0) := ⟨_, rfl⟩
  have hsz : W0.heap.size = w.heap.size + 2 := by rw [← hW0.out]; simp
  go_enter Try.func13, Try.ntmps13
  go_upto_region 1 with (fail)
  rw [hW0.out] at hb0 t0 t1 ⊢
  clear hW0
  have hw0 := hb0.size
  have d0 := t0.cell0
  have d1 := t0.cell1
  have hTW := hT.next hb0
  have hLW := hL.next hb0
  have hbx : Hid (∀ W, Below W0.heap.size W0 W → (W.cell? ⟨w.heap.size, 0, none⟩ = some (.slice a n c) ∧ W.cell? ⟨w.heap.size, 1, none⟩ = some (.slice a' n c')) ∧ Two W (w.heap.size + 1) 25 (.slice none 0 0) (.slice none 0 0) ∧ Below w.heap.size w W) := fun W hb =>
    ⟨⟨(hb.cell (p := ⟨w.heap.size, 0, none⟩) t0.lt).trans d0, (hb.cell (p := ⟨w.heap.size, 1, none⟩) t0.lt).trans d1⟩, (hb.block _ t1.lt).trans t1, hb0.trans (hb.mono hw0)⟩
  cases hf0 : fitB L with
  | false =>
    have hadd : Hid (addR Z L = (Z, 0, 4)) := addR_arg (by unfold keepB; rw [hf0]; simp)
    go_wp2_with (go_at_call 23; refine (rlfit_any hLW (Nat.le_refl _)).mono ?_; rintro e w1 ⟨rfl, hb1⟩; rw [hf0]; obtain ⟨⟨e0, e1⟩, R1, D1⟩ := hbx.out w1 hb1; have x0 := R1.cell0; have x1 := R1.cell1; have f0 := R1.frozen0 0; have f1 := R1.frozen0 1)
    obtain ⟨T9, k9⟩ := box_over (x := .slice a n c) (y := .slice a' n c') R1
    have b9 := over_below (B := w.heap.size + 1) (x := .slice a n c) (y := .slice a' n c') D1 (by omega)
    have p0 := T9.cell0
    have p1 := T9.cell1
    refine bodyPost_ret (v := .tuple #[.agg #[.slice a n c, .slice a' n c'], .int .i64 0, .int .i64 4]) (by simp [results, Try.f13, go_sem, p0, p1]) rfl ?_
    rw [hadd.out]
    exact ⟨_, _, _, _, _, rfl, hT.next b9, b9⟩
  | true =>
    by_cases h16 : (16 : Int) < ((k : Nat) : Int)
    · have hadd : Hid (addR Z L = (Z, 0, 4)) := addR_arg (by unfold keepB; rw [decide_eq_false (by omega)]; rfl)
      go_wp2_with (go_at_call 23; refine (rlfit_any hLW (Nat.le_refl _)).mono ?_; rintro e w1 ⟨rfl, hb1⟩; rw [hf0]; obtain ⟨⟨e0, e1⟩, R1, D1⟩ := hbx.out w1 hb1; have x0 := R1.cell0; have x1 := R1.cell1; have f0 := R1.frozen0 0; have f1 := R1.frozen0 1)
      obtain ⟨T9, k9⟩ := box_over (x := .slice a n c) (y := .slice a' n c') R1
      have b9 := over_below (B := w.heap.size + 1) (x := .slice a n c) (y := .slice a' n c') D1 (by omega)
      have p0 := T9.cell0
      have p1 := T9.cell1
      refine bodyPost_ret (v := .tuple #[.agg #[.slice a n c, .slice a' n c'], .int .i64 0, .int .i64 4]) (by simp [results, Try.f13, go_sem, p0, p1]) rfl ?_
      rw [hadd.out]
      exact ⟨_, _, _, _, _, rfl, hT.next b9, b9⟩
    have hkb : Hid (keepB L = true) := by unfold Hid keepB; rw [hf0]; simp; omega
    obtain ⟨fn, hfn⟩ : ∃ fn, Hid (fN Z L = fn) := ⟨_, rfl⟩
    obtain ⟨ff, hff⟩ : ∃ ff, Hid (fF Z L = ff) := ⟨_, rfl⟩
    go_upto_region 4 with (first | (go_at_call 23; refine (rlfit_any hLW (Nat.le_refl _)).mono ?_; rintro e w1 ⟨rfl, hb1⟩; rw [hf0]; obtain ⟨⟨e0, e1⟩, _, _⟩ := hbx.out w1 hb1) | (go_at_call 33; refine (rcopied_any (hT.later (keeps_of_below (hb0.trans (hb1.mono hw0)))) (Nat.le_trans hw0 hb1.size) (by omega)).mono ?_; rintro e w2 ⟨aL, cL, aC, cC, rfl, ho2, hb2⟩))
    have hB2 : Below w2.heap.size w2 (w2.alloc (.cells #[.slice aL n cL, .slice aC n cC] 25)) := (Below.refl _ _).alloc (Nat.le_refl _) _
    have t2 := Two.new w2 25 (.slice aL n cL) (.slice aC n cC)
    have O2 := ho2.next hB2
    obtain ⟨W2, hW2⟩ : ∃ W2, Hid (w2.alloc (.cells #[.slice aL n cL, .slice aC n cC] 25) = W2) := ⟨_, rfl⟩
    rw [hW2.out] at hB2 t2 O2 ⊢
    clear hW2 ho2 e0 e1
    have bs1 : W0.heap.size ≤ w1.heap.size := hb1.size
    have bs2 : w1.heap.size ≤ w2.heap.size := hb2.size
    have C2 : Below W0.heap.size W0 W2 := (hb1.trans (hb2.mono bs1)).trans (hB2.mono (Nat.le_trans bs1 bs2))
    obtain ⟨⟨e0, e1⟩, _, D2⟩ := hbx.out W2 C2
    go_upto_region 5 with (go_at_call 19; refine (rfind_any (hT.next D2) (hL.next D2)).mono ?_; rintro e w3 ⟨rfl, hb3⟩; rw [hfn.out, hff.out])
    have C3 : Below W0.heap.size W0 w3 := C2.trans (hb3.mono C2.size)
    have t3 : Two w3 w2.heap.size 25 (.slice aL n cL) (.slice aC n cC) := (hb3.block _ t2.lt).trans t2
    have O3 := O2.next hb3
    clear e0 e1 t2 O2 D2
    have hwb : w.heap.size ≤ w1.heap.size := Nat.le_trans hw0 bs1
    cases hfnd : fnd Z L with
    | some i =>
      obtain ⟨hi, ⟨hc0, hlb⟩, _⟩ := fnd_some.1 hfnd
      obtain ⟨s0, s1, _, _⟩ := hF.stand i hi
      obtain rfl : ((i : Nat) : Int) = fn := by rw [← hfn.out]; unfold fN; rw [hfnd]; rfl
      obtain rfl : true = ff := by rw [← hff.out]; unfold fF; rw [hfnd]; rfl
      obtain ⟨⟨e0, e1⟩, R3, D3⟩ := hbx.out w3 C3
      obtain ⟨b, off, b', off', _, _, _, ea, rfl, _, hB', _, q3, _⟩ := TabD.at (hT.next D3) (i := i) (by omega)
      clear ea
      have hin : ((i : Nat) : Int) < ((n : Nat) : Int) := by omega
      obtain ⟨y, hy⟩ : ∃ y, Hid ((zat Z i).2 = y) := ⟨_, rfl⟩
      rw [hy.out] at q3 s0 s1
      by_cases hyb : y = 1073741824
      · subst hyb
        have hadd : Hid (addR Z L = (Z, 0, 13)) := addR_full hkb.out hfnd hy.out
        have x0 := R3.cell0
        have x1 := R3.cell1
        have f0 := R3.frozen0 0
        have f1 := R3.frozen0 1
        go_wp2
        obtain ⟨T9, k9⟩ := box_over (x := .slice a n c) (y := .slice (some ⟨b', off', none⟩) n c') R3
        have b9 := over_below (B := w.heap.size + 1) (x := .slice a n c) (y := .slice (some ⟨b', off', none⟩) n c') D3 (by omega)
        have p0 := T9.cell0
        have p1 := T9.cell1
        refine bodyPost_ret (v := .tuple #[.agg #[.slice a n c, .slice (some ⟨b', off', none⟩) n c'], .int .i64 0, .int .i64 13]) (by simp [results, Try.f13, go_sem, p0, p1]) rfl ?_
        rw [hadd.out]
        exact ⟨_, _, _, _, _, rfl, hT.next b9, b9⟩
      · have hyb' : (y == 1073741824) = false := by simpa using hyb
        have hadd : Hid (addR Z L = (Z.set i ((zat Z i).1, y + 1), ((i : Nat) : Int), 0)) := by unfold Hid; rw [addR_more hkb.out hfnd (by rw [hy.out]; exact hyb), hy.out]
        have hw1 : IntKind.i64.wrap (y + 1) = y + 1 := by rw [IntKind.wrap_i64]; omega
        have t30 := t3.cell0
        have t31 := t3.cell1
        obtain ⟨g, rfl, g1, g2, ⟨g3, g4⟩, O4, b4, k4, _⟩ := O3.count hl (i := i) (by omega) (y + 1)
        rw [hy.out] at g1
        have t4 := two_kty t3 (k4 _ (by decide))
        have R4 := two_kty R3 (k4 _ (by decide))
        have t40 := t4.cell0
        have t41 := t4.cell1
        have x0 := R4.cell0
        have x1 := R4.cell1
        have f0 := R4.frozen0 0
        have f1 := R4.frozen0 1
        have B4 : Below w.heap.size w (w3.setCell ⟨g, i, none⟩ (.int .i64 (y + 1))) := D3.trans (b4.mono hwb)
        go_wp2
        obtain ⟨T9, k9⟩ := box_over (x := .slice aL n cL) (y := .slice (some ⟨g, 0, none⟩) n cC) R4
        have b9 := over_below (B := w.heap.size + 1) (x := .slice aL n cL) (y := .slice (some ⟨g, 0, none⟩) n cC) B4 (by omega)
        have O9 := OT.kty O4 k9 (((Below.refl _ _).setCell (p := ⟨w.heap.size + 1, 0, none⟩) (by show w.heap.size ≤ w.heap.size + 1; omega) _).setCell (p := ⟨w.heap.size + 1, 1, none⟩) (by show w.heap.size ≤ w.heap.size + 1; omega) _)
        have p0 := T9.cell0
        have p1 := T9.cell1
        refine bodyPost_ret (v := .tuple #[.agg #[.slice aL n cL, .slice (some ⟨g, 0, none⟩) n cC], .int .i64 ((i : Nat) : Int), .int .i64 0]) (by simp [results, Try.f13, go_sem, p0, p1]) rfl ?_
        rw [hadd.out]
        exact ⟨_, _, _, _, _, rfl, O9.tab (by rw [List.length_set]; exact hl), b9⟩
    | none =>
      obtain rfl : (0 : Int) = fn := by rw [← hfn.out]; unfold fN; rw [hfnd]; rfl
      obtain rfl : false = ff := by rw [← hff.out]; unfold fF; rw [hfnd]; rfl
      obtain ⟨⟨e0, e1⟩, R3, D3⟩ := hbx.out w3 C3
      have hT3 := hT.next D3
      have hL3 : LabD (fun b => b < w.heap.size) w3 al k cl L := LabD.later hL (keeps_of_below D3)
      go_wp2
      go_loopw [8] (fun v wr => ∃ i : Nat, i ≤ n ∧ v = .int .i64 i ∧ (∀ j, j < i → (zat Z j).2 ≠ 0) ∧ wr = w3) (fun v _ => n - (intOf v).toNat)
      case atStart => exact ⟨0, Nat.zero_le _, rfl, fun j hj => absurd hj (by omega), rfl⟩
      case round =>
        obtain ⟨i, hin, rfl, hal, rfl⟩ := hrel
        by_cases hi : i < n
        · obtain ⟨b, off, b', off', _, _, _, ea, rfl, _, hB', _, q3, _⟩ := TabD.at hT3 (i := i) hi
          clear ea
          have hi' : ((i : Nat) : Int) < ((n : Nat) : Int) := by omega
          obtain ⟨y, hy⟩ : ∃ y, Hid ((zat Z i).2 = y) := ⟨_, rfl⟩
          rw [hy.out] at q3
          by_cases hy0 : y = 0
          · subst hy0
            have hfr : free Z = i := free_of (by omega) hal (fun _ => hy.out)
            have hadd : Hid (addR Z L = (putAt Z i (L, 1), ((i : Nat) : Int), 0)) := by unfold Hid; rw [addR_new hkb.out hfnd (by omega), hfr]
            have h64 : (((i : Nat) : Int) == 64) = false := by simp; omega
            have hne : (((i : Nat) : Int) == ((n : Nat) : Int)) = false := by simp; omega
            clear hfr hal
            obtain ⟨gL, ov, rfl, r1, r2, ⟨r3, r4⟩, Of⟩ := O3.lab hl (i := i) hi
            obtain ⟨O6, b6, k6⟩ := Of al k cl L hL3
            clear Of
            have t6 := two_kty t3 (k6 _ (by decide))
            have R6 := two_kty R3 (k6 _ (by decide))
            obtain ⟨gC, rfl, m1, m2, ⟨m3, m4⟩, O7, b7, k7, _⟩ := O6.count (by rw [List.length_set]; exact hl) (i := i) hi 1
            have t7 := two_kty t6 (k7 _ (by decide))
            have R7 := two_kty R6 (k7 _ (by decide))
            have hz7 : Hid ((Z.set i (L, (zat Z i).2)).set i ((zat (Z.set i (L, (zat Z i).2)) i).1, 1) = putAt Z i (L, 1)) := by unfold Hid; rw [List.set_set, zat_set, if_pos ⟨rfl, by have := hl; omega⟩]; exact putAt_set (by omega)
            rw [hz7.out] at O7
            have l70 : (putAt Z i (L, 1)).length = n := by rw [← hz7.out, List.length_set, List.length_set]; exact hl
            have B7 := (D3.trans (b6.mono hwb)).trans (b7.mono hwb)
            have c50 := t3.cell0
            have c51 := t3.cell1
            have c60 := t6.cell0
            have c61 := t6.cell1
            have c70 := t7.cell0
            have c71 := t7.cell1
            have x0 := R7.cell0
            have x1 := R7.cell1
            have f0 := R7.frozen0 0
            have f1 := R7.frozen0 1
            go_wp2
            obtain ⟨T9, k9⟩ := box_over (x := .slice (some ⟨gL, 0, none⟩) n cL) (y := .slice (some ⟨gC, 0, none⟩) n cC) R7
            have b9 := over_below (B := w.heap.size + 1) (x := .slice (some ⟨gL, 0, none⟩) n cL) (y := .slice (some ⟨gC, 0, none⟩) n cC) B7 (by omega)
            have O9 := OT.kty O7 k9 (((Below.refl _ _).setCell (p := ⟨w.heap.size + 1, 0, none⟩) (by show w.heap.size ≤ w.heap.size + 1; omega) _).setCell (p := ⟨w.heap.size + 1, 1, none⟩) (by show w.heap.size ≤ w.heap.size + 1; omega) _)
            have p0 := T9.cell0
            have p1 := T9.cell1
            refine bodyPost_ret (v := .tuple #[.agg #[.slice (some ⟨gL, 0, none⟩) n cL, .slice (some ⟨gC, 0, none⟩) n cC], .int .i64 ((i : Nat) : Int), .int .i64 0]) (by simp [results, Try.f13, go_sem, p0, p1]) rfl ?_
            rw [hadd.out]
            exact ⟨_, _, _, _, _, rfl, O9.tab l70, b9⟩
          · have hy1 : (y == 0) = false := by simpa using hy0
            go_wp2
            go_roundw
            case rel => exact ⟨i + 1, by omega, by go_num, fun j hj => by
                rcases Nat.lt_or_ge j i with h | h
                · exact hal j h
                · obtain rfl : j = i := by omega
                  rw [hy.out]; exact hy0, trivial⟩
            case measure => simp [intOf]; omega
        · obtain rfl : i = n := by omega
          subst hl
          have hfr : free Z = Z.length := free_of (Nat.le_refl _) hal (fun h => absurd h (by omega))
          by_cases h64 : Z.length = 64
          · have hadd : Hid (addR Z L = (Z, 0, 6)) := addR_none hkb.out hfnd (by omega)
            have x0 := R3.cell0
            have x1 := R3.cell1
            have f0 := R3.frozen0 0
            have f1 := R3.frozen0 1
            have h64' : (((Z.length : Nat) : Int) == 64) = true := by simp; omega
            clear hfr hal h64
            go_wp2
            obtain ⟨T9, k9⟩ := box_over (x := .slice a Z.length c) (y := .slice a' Z.length c') R3
            have b9 := over_below (B := w.heap.size + 1) (x := .slice a Z.length c) (y := .slice a' Z.length c') D3 (by omega)
            have p0 := T9.cell0
            have p1 := T9.cell1
            refine bodyPost_ret (v := .tuple #[.agg #[.slice a Z.length c, .slice a' Z.length c'], .int .i64 0, .int .i64 6]) (by simp [results, Try.f13, go_sem, p0, p1]) rfl ?_
            rw [hadd.out]
            exact ⟨_, _, _, _, _, rfl, hT.next b9, b9⟩
          · have hadd : Hid (addR Z L = (putAt Z Z.length (L, 1), ((Z.length : Nat) : Int), 0)) := by unfold Hid; rw [addR_new hkb.out hfnd (by omega), hfr]
            have h64' : (((Z.length : Nat) : Int) == 64) = false := by simp; omega
            have hO : w1.heap.size ≤ w2.heap.size := bs2
            obtain ⟨h0, vs, h3, h4, h5⟩ := O3
            have H3 : Hid (wr.ownsRow w1.heap.size 27 1 (.slice aL Z.length cL) Z.length vs) := h3
            have H4 : Hid (wr.ownsRow w1.heap.size 3 1 (.slice aC Z.length cC) Z.length (cntV Z)) := h4
            have t30 := t3.cell0
            have t31 := t3.cell1
            have hO3 : w1.heap.size ≤ wr.heap.size := h0.1
            clear hfr hal h64 h3 h4
            go_upto_region 17 with (first | (at_builtin; refine wpList_append_own _ rfl _ _ 22 rfl w1.heap.size 27 i0 (.slice none 0 0) 1 24 Try.underlying22 hi0 hz0 hz1 hz2 rfl (by decide) _ _ _ rfl (H3.out.alloc _) ⟨wr.heap.size, 0, none⟩ 1 1 [.slice none 0 0] rfl rfl (cellK_new _ _ _) (by simp [Value.oneCell']) (by unfold maxLen; omega) (by omega) (Nat.le_trans hO3 (by simp)) ?_; intro v1 W1 hown1 hg1 _; obtain ⟨ga, ca, rfl⟩ := ownsRow_two hown1; have T1 := two_kty t3 ((KTy.alloc _ wr _).trans (KTy.grown (H3.out.alloc _) hg1 (by decide))); have z0 := T1.cell0; have z1 := T1.frozen0 0; have T1' := T1.set0 (.slice (some ⟨ga, 0, none⟩) (Z.length + 1) ca); have z2 := T1'.cell1; have H4' : Hid (World.ownsRow _ w1.heap.size 3 1 (.slice aC Z.length cC) Z.length (cntV Z)) := ownsRow_kty H4.out (((KTy.alloc _ wr _).trans (KTy.grown (H3.out.alloc _) hg1 (by decide))).trans (KTy.set (i := 0) T1 (.slice (some ⟨ga, 0, none⟩) (Z.length + 1) ca) (by decide))); have hs1 : w1.heap.size ≤ W1.heap.size := Nat.le_trans hO3 (Nat.le_trans (by simp) hg1.size)) | (at_builtin; refine wpList_append_own _ rfl _ _ 23 rfl w1.heap.size 3 j0 (.int .i64 0) 1 8 Try.underlying23 hj0 jz0 jz1 jz2 rfl (by decide) _ _ _ rfl (H4'.out.alloc _) ⟨W1.heap.size, 0, none⟩ 1 1 [.int .i64 0] rfl rfl (by have := cellK_new (W1.setCell ⟨w2.heap.size, 0, none⟩ (.slice (some ⟨ga, 0, none⟩) (Z.length + 1) ca)) (.int .i64 0) 3; simpa using this) (by simp [Value.oneCell']) (by unfold maxLen; omega) (by omega) (by simpa using Nat.le_succ_of_le hs1) ?_; intro v2 W2x hown2 hg2 _; obtain ⟨gb, cb, rfl⟩ := ownsRow_two hown2; have T2 := two_kty T1' ((KTy.alloc _ _ _).trans (KTy.grown (H4'.out.alloc _) hg2 (by decide))); have y0 := T2.cell1; have y1 := T2.frozen0 1))
            obtain ⟨O5, b5, t5, _⟩ := ot_snoc h0 H3.out H4.out h5 t3 hO hown1 hg1 hown2 hg2
            obtain ⟨W5, hW5⟩ : ∃ W5, Hid (W2x.setCell ⟨w2.heap.size, 1, none⟩ (.slice (some ⟨gb, 0, none⟩) (Z.length + 1) cb) = W5) := ⟨_, rfl⟩
            rw [hW5.out] at O5 b5 t5 ⊢
            have hl5 : (Z ++ [(([] : List (Int × Int)), (0 : Int))]).length = Z.length + 1 := by simp
            obtain ⟨n5, hn5⟩ : ∃ n5, Hid (Z.length + 1 = n5) := ⟨_, rfl⟩
            rw [hn5.out] at O5 t5 hl5 ⊢
            have hi5 : Z.length < n5 := by have := hn5.out; omega
            have hi5' : ((Z.length : Nat) : Int) < ((n5 : Nat) : Int) := by omega
            have R5 : Two W5 (w.heap.size + 1) 25 (.slice none 0 0) (.slice none 0 0) := (b5.block _ (by omega)).trans R3
            have D5 : Below w.heap.size w W5 := D3.trans (b5.mono hwb)
            have hL5 : LabD (fun b => b < w.heap.size) W5 al k cl L := LabD.later hL (keeps_of_below D5)
            clear hW5 h5 H3 H4 H4' hown1 hown2 hg1 hg2 T1 T1' T2 t30 t31 z0 z1 z2 y0 y1 t3
            obtain ⟨gL, ov, eL, r1, r2, ⟨r3, r4⟩, Of⟩ := O5.lab hl5 (i := Z.length) hi5
            have eL' : gL = ga := by cases eL; rfl
            subst eL'
            clear eL
            obtain ⟨O6, b6, k6⟩ := Of al k cl L hL5
            clear Of
            have t6 := two_kty t5 (k6 _ (by decide))
            have R6 := two_kty R5 (k6 _ (by decide))
            obtain ⟨gC, eC, m1, m2, ⟨m3, m4⟩, O7, b7, k7, _⟩ := O6.count (by rw [List.length_set]; exact hl5) (i := Z.length) hi5 1
            have eC' : gC = gb := by cases eC; rfl
            subst eC'
            clear eC
            have t7 := two_kty t6 (k7 _ (by decide))
            have R7 := two_kty R6 (k7 _ (by decide))
            have hz7 : Hid (((Z ++ [(([] : List (Int × Int)), (0 : Int))]).set Z.length (L, (zat (Z ++ [(([] : List (Int × Int)), (0 : Int))]) Z.length).2)).set Z.length ((zat ((Z ++ [(([] : List (Int × Int)), (0 : Int))]).set Z.length (L, (zat (Z ++ [(([] : List (Int × Int)), (0 : Int))]) Z.length).2)) Z.length).1, 1) = putAt Z Z.length (L, 1)) := by unfold Hid; rw [List.set_set, zat_set, if_pos ⟨rfl, by have := hl5; omega⟩]; exact putAt_nil
            rw [hz7.out] at O7
            have l70 : (putAt Z Z.length (L, 1)).length = n5 := by rw [← hz7.out, List.length_set, List.length_set]; exact hl5
            have B7 := (D5.trans (b6.mono hwb)).trans (b7.mono hwb)
            have c50 := t5.cell0
            have c51 := t5.cell1
            have c60 := t6.cell0
            have c61 := t6.cell1
            have c70 := t7.cell0
            have c71 := t7.cell1
            have x0 := R7.cell0
            have x1 := R7.cell1
            have f0 := R7.frozen0 0
            have f1 := R7.frozen0 1
            go_wp2
            obtain ⟨T9, k9⟩ := box_over (x := .slice (some ⟨gL, 0, none⟩) n5 ca) (y := .slice (some ⟨gC, 0, none⟩) n5 cb) R7
            have b9 := over_below (B := w.heap.size + 1) (x := .slice (some ⟨gL, 0, none⟩) n5 ca) (y := .slice (some ⟨gC, 0, none⟩) n5 cb) B7 (by omega)
            have O9 := OT.kty O7 k9 (((Below.refl _ _).setCell (p := ⟨w.heap.size + 1, 0, none⟩) (by show w.heap.size ≤ w.heap.size + 1; omega) _).setCell (p := ⟨w.heap.size + 1, 1, none⟩) (by show w.heap.size ≤ w.heap.size + 1; omega) _)
            have p0 := T9.cell0
            have p1 := T9.cell1
            refine bodyPost_ret (v := .tuple #[.agg #[.slice (some ⟨gL, 0, none⟩) n5 ca, .slice (some ⟨gC, 0, none⟩) n5 cb], .int .i64 ((Z.length : Nat) : Int), .int .i64 0]) (by simp [results, Try.f13, go_sem, p0, p1]) rfl ?_
            rw [hadd.out]
            exact ⟨_, _, _, _, _, rfl, O9.tab l70, b9⟩
end Go.Proofs.Ytdljoapbeelgiaa
