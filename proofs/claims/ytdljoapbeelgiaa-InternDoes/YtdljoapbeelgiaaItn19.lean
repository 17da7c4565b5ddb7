/-
  PROVED HERE: what copied of the document's layer 5 returns when it is called (a contract over this translation). Tables of at most 70 places.
-/
import Derived.Test.YtdljoapbeelgiaaItn15
import Derived.Test.YtdljoapbeelgiaaItn18
import Derived.Laws.AppendOwnNone
namespace Go.Proofs.Ytdljoapbeelgiaa
open Go.ChangeShapes Go.WideShapes Go.ChangeAt Go.RowKit
set_option linter.unusedVariables false

/-- A table in rows of its own (blocks from base on), its labels below. -/
def OT (base B : Nat) (W : World) (vL vC : Value) (Z : Zt) : Prop := (base ≤ W.heap.size ∧ B ≤ base) ∧ ∃ vs, W.ownsRow base 27 1 vL Z.length vs ∧ W.ownsRow base 3 1 vC Z.length (cntV Z) ∧
  ∀ i, i < Z.length → ∃ a k c, vs[i]? = some (.slice a k c) ∧ LabD (fun b => b < B) W a k c (zat Z i).1
def newsL (r : Nat → Sr) (n : Nat) : List Value := (List.range n).map fun i => .slice (r i).1 (r i).2.1 (r i).2.2
theorem newsL_at {r : Nat → Sr} {n j : Nat} (h : j < n) : (newsL r n)[j]? = some (.slice (r j).1 (r j).2.1 (r j).2.2) := by
  unfold newsL; rw [List.getElem?_map, List.getElem?_range h]; rfl
theorem newsL_len (r : Nat → Sr) (n : Nat) : (newsL r n).length = n := by unfold newsL; simp
theorem newsL_one (r : Nat → Sr) (n : Nat) : ∀ u ∈ newsL r n, u.oneCell' = true := by
  intro u hu; unfold newsL at hu; obtain ⟨i, _, rfl⟩ := List.mem_map.1 hu; rfl
theorem cntV_one (Z : Zt) : ∀ u ∈ cntV Z, u.oneCell' = true := by
  intro u hu; unfold cntV at hu; obtain ⟨i, _, rfl⟩ := List.mem_map.1 hu; rfl
theorem cntV_len (Z : Zt) : (cntV Z).length = Z.length := by unfold cntV; simp
theorem lie_news {D : Nat → Prop} {w w' : World} {ad : Addr} {n c : Nat} {a' : Option Addr} {c' : Nat} {Z : Zt} {r : Nat → Sr} (hT : TabD D w (some ad) n c a' n c' (Z.map (·.1)) (Z.map (·.2))) (h : Lie D w (some ad) n Z r) (k : Keeps D w w') : ∀ j u, (newsL r n)[j]? = some u → w'.cell? (ad.add j) = some u := by
  intro j u hj
  have hjn : j < n := by have := (List.getElem?_eq_some_iff.1 hj).1; rwa [newsL_len] at this
  obtain ⟨b, off, e, hb, _⟩ := hT.1.2.2.2 (by omega)
  cases e
  rw [newsL_at hjn] at hj
  cases hj
  have ea : (⟨b, off, none⟩ : Addr).add j = ⟨b, off + j, none⟩ := by unfold Addr.add; split <;> simp_all
  rw [ea, cellK k hb]
  exact h.2 b off rfl j hjn
theorem cnt_news {D : Nat → Prop} {w w' : World} {ad : Addr} {n c : Nat} {a : Option Addr} {c' : Nat} {Z : Zt} (hT : TabD D w a n c (some ad) n c' (Z.map (·.1)) (Z.map (·.2))) (k : Keeps D w w') : ∀ j u, (cntV Z)[j]? = some u → w'.cell? (ad.add j) = some u := by
  intro j u hj
  have hl : Z.length = n := by have := hT.1.1; simpa using this
  have hjn : j < Z.length := by have := (List.getElem?_eq_some_iff.1 hj).1; rwa [cntV_len] at this
  obtain ⟨b, off, e, hb, hc⟩ := hT.2.2.2.2 (by omega)
  cases e
  rw [cntV_at hjn] at hj
  cases hj
  have ea : (⟨b, off, none⟩ : Addr).add j = ⟨b, off + j, none⟩ := by unfold Addr.add; split <;> simp_all
  rw [ea, cellK k hb, hc j (by omega), zat_snd]
theorem ownsRow_form {W : World} {base : Nat} {e : TypeId} {size : Nat} {v : Value} {k : Nat} {xs : List Value} (h : W.ownsRow base e size v k xs) : ∃ a c, v = .slice a k c := by
  rcases h.2 with ⟨rfl, rfl⟩ | ⟨g, cap, _, rfl, _⟩
  · exact ⟨_, _, rfl⟩
  · exact ⟨_, _, rfl⟩
theorem own_castK {W : World} {b : Nat} {e : TypeId} {size : Nat} {v : Value} {k k' : Nat} {xs xs' : List Value} (h : W.ownsRow b e size v k xs) (hk : k = k') (hx : xs = xs') : W.ownsRow b e size v k' xs' := by
  subst hk; subst hx; exact h

theorem cell_kept1 {W W' : World} (hg : W.grownBy W' none) {b i : Nat} (h : b < W.heap.size) : W'.cell? ⟨b, i, none⟩ = W.cell? ⟨b, i, none⟩ := World.cell?_of_block (w := W) (a := ⟨b, i, none⟩) (hg.block b h (by simp))
set_option maxRecDepth 100000 in
set_option maxHeartbeats 2000000 in
theorem rcopied_any {w : World} {B : Nat} {a a' : Option Addr} {n c c' : Nat} {Z : Zt} (hT : TabD (fun b => b < B) w a n c a' n c' (Z.map (·.1)) (Z.map (·.2))) (hB : B ≤ w.heap.size) (hn : n ≤ 70) :
    Calls Try.prog 33 #[.agg #[.slice a n c, .slice a' n c']] w fun e w' => ∃ aL cL aC cC, e = .returned (.agg #[.slice aL n cL, .slice aC n cC]) ∧ OT w.heap.size B w' (.slice aL n cL) (.slice aC n cC) Z ∧ Below w.heap.size w w' := by
  obtain ⟨i0, hi, hz0, hz1, hz2⟩ := info_parts infoLab
  obtain ⟨j0, hj, jz0, jz1, jz2⟩ := info_parts infoInt
  have hl : Z.length = n := by have := hT.1.1; simpa using this
  obtain ⟨r, hr⟩ := TabD.lie hT
  have hb0 : Below w.heap.size w ((w.alloc (.cells #[.slice a n c, .slice a' n c'] 25)).alloc (.cells #[.slice none 0 0, .slice none 0 0] 25)) := ((Below.refl _ w).alloc (Nat.le_refl _) _).alloc (by simp) _
  have t0 := two_kty (Two.new w 25 (.slice a n c) (.slice a' n c')) (KTy.alloc _ _ (.cells #[.slice none 0 0, .slice none 0 0] 25))
  have t1 := Two.new (w.alloc (.cells #[.slice a n c, .slice a' n c'] 25)) 25 (.slice none 0 0) (.slice none 0 0)
  rw [World.size_alloc] at t1
  have hcn : a = none → n = 0 ∧ c = 0 := fun e => by have h1 := hT.1.2.2.1.2 e; have h2 := hT.1.2.1; omega
  have hcn' : a' = none → n = 0 ∧ c' = 0 := fun e => by have h1 := hT.2.2.2.1.2 e; have h2 := hT.2.2.1; omega
  obtain ⟨W0, hW0⟩ : ∃ W0, Hid ((w.alloc (.cells #[.slice a n c, .slice a' n c'] 25)).alloc (.cells #[.slice none 0 0, .slice none 0 0] 25) = W0) := ⟨_, rfl⟩
  have hsz : W0.heap.size = w.heap.size + 2 := by rw [← hW0.out]; simp
  have hend : Hid (∀ (vL vC : Value) (w1 w2 : World), W0.grownBy w1 none → w1.ownsRow w.heap.size 27 1 vL n (newsL r n) → w1.grownBy w2 none → w2.ownsRow w.heap.size 3 1 vC n (cntV Z) → Below w.heap.size w W0 → Two W0 (w.heap.size + 1) 25 (.slice none 0 0) (.slice none 0 0) →
      OT w.heap.size B ((w2.setCell ⟨w.heap.size + 1, 0, none⟩ vL).setCell ⟨w.heap.size + 1, 1, none⟩ vC) vL vC Z ∧ Below w.heap.size w ((w2.setCell ⟨w.heap.size + 1, 0, none⟩ vL).setCell ⟨w.heap.size + 1, 1, none⟩ vC) ∧ Two ((w2.setCell ⟨w.heap.size + 1, 0, none⟩ vL).setCell ⟨w.heap.size + 1, 1, none⟩ vC) (w.heap.size + 1) 25 vL vC ∧ Two w2 (w.heap.size + 1) 25 (.slice none 0 0) (.slice none 0 0)) := by
    intro vL vC w1 w2 g1 r1 g2 r2 hb T0
    have hg : W0.grownBy w2 none := g1.trans g2
    have T2 : Two w2 (w.heap.size + 1) 25 (.slice none 0 0) (.slice none 0 0) := T0.kept hg (by simp)
    obtain ⟨T3, k3⟩ := box_over (x := vL) (y := vC) T2
    have b2 : Below w.heap.size w w2 := hb.grown hg hb.size (fun k e => by cases e)
    have b3 := over_below (B := w.heap.size + 1) (x := vL) (y := vC) b2 (by omega)
    have r1' : w2.ownsRow w.heap.size 27 1 vL n (newsL r n) := r1.kept g2 (by cases vL.ownBlock <;> simp)
    refine ⟨⟨⟨b3.size, hB⟩, newsL r n, ?_, ?_, fun i hi => ?_⟩, b3, T3, T2⟩
    · rw [hl]; exact ownsRow_kty r1' (k3 _ (by decide))
    · rw [hl]; exact ownsRow_kty r2 (k3 _ (by decide))
    · exact ⟨_, _, _, newsL_at (by omega), (hr.1 i).later (keeps_of_below (b3.mono hB))⟩
  cases a with
  | none =>
    cases a' with
    | none =>
      obtain ⟨rfl, rfl⟩ := hcn rfl
      obtain ⟨_, rfl⟩ := hcn' rfl
      have hz : Hid (Z = []) := List.eq_nil_of_length_eq_zero hl
      go_enter Try.func33, Try.ntmps33
      go_upto_region 2 with (fail)
      rw [hW0.out] at hb0 t0 t1 ⊢
      clear hW0
      have d0 := t0.cell0
      have d1 := t0.cell1
      have hstr : Hid (∀ W, W0.grownBy W none → Two W (w.heap.size + 1) 25 (.slice none 0 0) (.slice none 0 0) ∧ W.frozen? ⟨w.heap.size + 1, 0, none⟩ = false ∧ W.frozen? ⟨w.heap.size + 1, 1, none⟩ = false ∧ W.cell? ⟨w.heap.size + 1, 0, none⟩ = some (.slice none 0 0) ∧ W.cell? ⟨w.heap.size + 1, 1, none⟩ = some (.slice none 0 0)) := fun W hg => by
        have T := t1.kept hg (by simp)
        exact ⟨T, T.frozen0 0, T.frozen0 1, T.cell0, T.cell1⟩
      go_wp2_with (first | (at_builtin; refine wpList_append_own_none rfl _ _ 22 rfl w.heap.size 27 i0 1 Try.underlying22 hi _ _ _ rfl (World.ownsRow_nil _ _ _ _) rfl ?_; have G1 : Hid (W0.grownBy W0 none) := ⟨rfl, rfl, rfl, Nat.le_refl _, fun _ _ _ => rfl⟩; have R1 : Hid (W0.ownsRow w.heap.size 27 1 (.slice none 0 0) 0 (newsL r 0)) := World.ownsRow_nil _ _ _ _; have e1 := d1) | (at_builtin; refine wpList_append_own_none rfl _ _ 23 rfl w.heap.size 3 j0 1 Try.underlying23 hj _ _ _ rfl (World.ownsRow_nil _ _ _ _) rfl ?_; have G2 : Hid (W0.grownBy W0 none) := ⟨rfl, rfl, rfl, Nat.le_refl _, fun _ _ _ => rfl⟩; have R2 : Hid (W0.ownsRow w.heap.size 3 1 (.slice none 0 0) 0 (cntV Z)) := own_castK (World.ownsRow_nil _ _ _ _) rfl (by rw [hz.out]; rfl); obtain ⟨T2, f0, f1, x0, x1⟩ := hstr.out _ (G1.out.trans G2.out)))
      obtain ⟨o1, o2, o3, _⟩ := hend.out _ _ _ _ G1.out R1.out G2.out R2.out hb0 t1
      have p0 := o3.cell0
      have p1 := o3.cell1
      refine bodyPost_ret (v := .agg #[.slice none 0 0, .slice none 0 0]) (by simp [results, Try.f33, go_sem, p0, p1]) rfl ?_
      exact ⟨_, _, _, _, rfl, o1, o2⟩
    | some ad' =>
      obtain ⟨rfl, rfl⟩ := hcn rfl
      have hz : Hid (Z = []) := List.eq_nil_of_length_eq_zero hl
      have HNC : Hid (∀ W, W0.grownBy W none → ∀ j u, (cntV Z)[j]? = some u → W.cell? (ad'.add j) = some u) := fun W hg => cnt_news hT (keeps_of_below (Below.mono (Below.grown (by rw [← hW0.out]; exact hb0) hg (by omega) (fun k e => by cases e)) hB))
      go_enter Try.func33, Try.ntmps33
      go_upto_region 2 with (fail)
      rw [hW0.out] at hb0 t0 t1 ⊢
      clear hW0
      have d0 := t0.cell0
      have d1 := t0.cell1
      have hstr : Hid (∀ W, W0.grownBy W none → Two W (w.heap.size + 1) 25 (.slice none 0 0) (.slice none 0 0) ∧ W.frozen? ⟨w.heap.size + 1, 0, none⟩ = false ∧ W.frozen? ⟨w.heap.size + 1, 1, none⟩ = false ∧ W.cell? ⟨w.heap.size + 1, 0, none⟩ = some (.slice none 0 0) ∧ W.cell? ⟨w.heap.size + 1, 1, none⟩ = some (.slice none 0 0)) := fun W hg => by
        have T := t1.kept hg (by simp)
        exact ⟨T, T.frozen0 0, T.frozen0 1, T.cell0, T.cell1⟩
      go_wp2_with (first | (at_builtin; refine wpList_append_own_none rfl _ _ 22 rfl w.heap.size 27 i0 1 Try.underlying22 hi _ _ _ rfl (World.ownsRow_nil _ _ _ _) rfl ?_; have G1 : Hid (W0.grownBy W0 none) := ⟨rfl, rfl, rfl, Nat.le_refl _, fun _ _ _ => rfl⟩; have R1 : Hid (W0.ownsRow w.heap.size 27 1 (.slice none 0 0) 0 (newsL r 0)) := World.ownsRow_nil _ _ _ _; have e1 := d1) | (at_builtin; refine wpList_append_own _ rfl _ _ 23 rfl w.heap.size 3 j0 (.int .i64 0) 1 8 Try.underlying23 hj jz0 jz1 jz2 rfl (by decide) _ _ _ rfl (World.ownsRow_nil _ _ _ _) ad' 0 c' (cntV Z) rfl (by rw [cntV_len, hl, Nat.mul_one]) (HNC.out W0 G1.out) (cntV_one _) (by unfold maxLen; omega) (by omega) (by omega) ?_; intro vC w2 hown2 hgrow2 _; have hown2 := own_castK (k' := 0) (xs' := cntV Z) hown2 (by omega) (by rw [List.nil_append]); obtain ⟨aC, cC, rfl⟩ := ownsRow_form hown2; have G2 : Hid (W0.grownBy w2 none) := hgrow2; have R2 : Hid (w2.ownsRow w.heap.size 3 1 (.slice aC 0 cC) 0 (cntV Z)) := hown2; obtain ⟨T2, f0, f1, x0, x1⟩ := hstr.out _ (G1.out.trans G2.out)))
      obtain ⟨o1, o2, o3, _⟩ := hend.out _ _ _ _ G1.out R1.out G2.out R2.out hb0 t1
      have p0 := o3.cell0
      have p1 := o3.cell1
      refine bodyPost_ret (v := .agg #[.slice none 0 0, .slice aC 0 cC]) (by simp [results, Try.f33, go_sem, p0, p1]) rfl ?_
      exact ⟨_, _, _, _, rfl, o1, o2⟩
  | some ad =>
    cases a' with
    | none =>
      obtain ⟨rfl, rfl⟩ := hcn' rfl
      have hz : Hid (Z = []) := List.eq_nil_of_length_eq_zero hl
      have HNL : Hid (∀ j u, (newsL r 0)[j]? = some u → W0.cell? (ad.add j) = some u) := lie_news hT hr (by rw [← hW0.out]; exact keeps_of_below (hb0.mono hB))
      go_enter Try.func33, Try.ntmps33
      go_upto_region 2 with (fail)
      rw [hW0.out] at hb0 t0 t1 ⊢
      clear hW0
      have d0 := t0.cell0
      have d1 := t0.cell1
      have hstr : Hid (∀ W, W0.grownBy W none → Two W (w.heap.size + 1) 25 (.slice none 0 0) (.slice none 0 0) ∧ W.frozen? ⟨w.heap.size + 1, 0, none⟩ = false ∧ W.frozen? ⟨w.heap.size + 1, 1, none⟩ = false ∧ W.cell? ⟨w.heap.size + 1, 0, none⟩ = some (.slice none 0 0) ∧ W.cell? ⟨w.heap.size + 1, 1, none⟩ = some (.slice none 0 0)) := fun W hg => by
        have T := t1.kept hg (by simp)
        exact ⟨T, T.frozen0 0, T.frozen0 1, T.cell0, T.cell1⟩
      go_wp2_with (first | (at_builtin; refine wpList_append_own _ rfl _ _ 22 rfl w.heap.size 27 i0 (.slice none 0 0) 1 24 Try.underlying22 hi hz0 hz1 hz2 rfl (by decide) _ _ _ rfl (World.ownsRow_nil _ _ _ _) ad 0 c (newsL r 0) rfl (by rw [newsL_len, Nat.mul_one]) HNL.out (newsL_one _ _) (by unfold maxLen; omega) (by omega) (by omega) ?_; intro vL w1 hown1 hgrow1 _; have hown1 := own_castK (k' := 0) (xs' := newsL r 0) hown1 (by omega) (by rw [List.nil_append]); obtain ⟨aL, cL, rfl⟩ := ownsRow_form hown1; have G1 : Hid (W0.grownBy w1 none) := hgrow1; have R1 : Hid (w1.ownsRow w.heap.size 27 1 (.slice aL 0 cL) 0 (newsL r 0)) := hown1; have e1 := (cell_kept1 hgrow1 (b := w.heap.size) (i := 1) (by omega)).trans d1; have hs1 : W0.heap.size ≤ w1.heap.size := hgrow1.size; clear hown1 hgrow1) | (at_builtin; refine wpList_append_own_none rfl _ _ 23 rfl w.heap.size 3 j0 1 Try.underlying23 hj _ _ _ rfl (World.ownsRow_nil _ _ _ _) rfl ?_; have G2 : Hid (w1.grownBy w1 none) := ⟨rfl, rfl, rfl, Nat.le_refl _, fun _ _ _ => rfl⟩; have R2 : Hid (w1.ownsRow w.heap.size 3 1 (.slice none 0 0) 0 (cntV Z)) := own_castK (World.ownsRow_nil _ _ _ _) rfl (by rw [hz.out]; rfl); obtain ⟨T2, f0, f1, x0, x1⟩ := hstr.out _ (G1.out.trans G2.out)))
      obtain ⟨o1, o2, o3, _⟩ := hend.out _ _ _ _ G1.out R1.out G2.out R2.out hb0 t1
      have p0 := o3.cell0
      have p1 := o3.cell1
      refine bodyPost_ret (v := .agg #[.slice aL 0 cL, .slice none 0 0]) (by simp [results, Try.f33, go_sem, p0, p1]) rfl ?_
      exact ⟨_, _, _, _, rfl, o1, o2⟩
    | some ad' =>
      have HNL : Hid (∀ j u, (newsL r n)[j]? = some u → W0.cell? (ad.add j) = some u) := lie_news hT hr (by rw [← hW0.out]; exact keeps_of_below (hb0.mono hB))
      have HNC : Hid (∀ W, W0.grownBy W none → ∀ j u, (cntV Z)[j]? = some u → W.cell? (ad'.add j) = some u) := fun W hg => cnt_news hT (keeps_of_below (Below.mono (Below.grown (by rw [← hW0.out]; exact hb0) hg (by omega) (fun k e => by cases e)) hB))
      go_enter Try.func33, Try.ntmps33
      go_upto_region 2 with (fail)
      rw [hW0.out] at hb0 t0 t1 ⊢
      clear hW0
      have d0 := t0.cell0
      have d1 := t0.cell1
      have hstr : Hid (∀ W, W0.grownBy W none → Two W (w.heap.size + 1) 25 (.slice none 0 0) (.slice none 0 0) ∧ W.frozen? ⟨w.heap.size + 1, 0, none⟩ = false ∧ W.frozen? ⟨w.heap.size + 1, 1, none⟩ = false ∧ W.cell? ⟨w.heap.size + 1, 0, none⟩ = some (.slice none 0 0) ∧ W.cell? ⟨w.heap.size + 1, 1, none⟩ = some (.slice none 0 0)) := fun W hg => by
        have T := t1.kept hg (by simp)
        exact ⟨T, T.frozen0 0, T.frozen0 1, T.cell0, T.cell1⟩
      go_wp2_with (first | (at_builtin; refine wpList_append_own _ rfl _ _ 22 rfl w.heap.size 27 i0 (.slice none 0 0) 1 24 Try.underlying22 hi hz0 hz1 hz2 rfl (by decide) _ _ _ rfl (World.ownsRow_nil _ _ _ _) ad n c (newsL r n) rfl (by rw [newsL_len, Nat.mul_one]) HNL.out (newsL_one _ _) (by unfold maxLen; omega) (by omega) (by omega) ?_; intro vL w1 hown1 hgrow1 _; have hown1 := own_castK (k' := n) (xs' := newsL r n) hown1 (by omega) (by rw [List.nil_append]); obtain ⟨aL, cL, rfl⟩ := ownsRow_form hown1; have G1 : Hid (W0.grownBy w1 none) := hgrow1; have R1 : Hid (w1.ownsRow w.heap.size 27 1 (.slice aL n cL) n (newsL r n)) := hown1; have e1 := (cell_kept1 hgrow1 (b := w.heap.size) (i := 1) (by omega)).trans d1; have hs1 : W0.heap.size ≤ w1.heap.size := hgrow1.size; clear hown1 hgrow1) | (at_builtin; refine wpList_append_own _ rfl _ _ 23 rfl w.heap.size 3 j0 (.int .i64 0) 1 8 Try.underlying23 hj jz0 jz1 jz2 rfl (by decide) _ _ _ rfl (World.ownsRow_nil _ _ _ _) ad' n c' (cntV Z) rfl (by rw [cntV_len, hl, Nat.mul_one]) (HNC.out w1 G1.out) (cntV_one _) (by unfold maxLen; omega) (by omega) (by omega) ?_; intro vC w2 hown2 hgrow2 _; have hown2 := own_castK (k' := n) (xs' := cntV Z) hown2 (by omega) (by rw [List.nil_append]); obtain ⟨aC, cC, rfl⟩ := ownsRow_form hown2; have G2 : Hid (w1.grownBy w2 none) := hgrow2; have R2 : Hid (w2.ownsRow w.heap.size 3 1 (.slice aC n cC) n (cntV Z)) := hown2; obtain ⟨T2, f0, f1, x0, x1⟩ := hstr.out _ (G1.out.trans G2.out)))
      obtain ⟨o1, o2, o3, _⟩ := hend.out _ _ _ _ G1.out R1.out G2.out R2.out hb0 t1
      have p0 := o3.cell0
      have p1 := o3.cell1
      refine bodyPost_ret (v := .agg #[.slice aL n cL, .slice aC n cC]) (by simp [results, Try.f33, go_sem, p0, p1]) rfl ?_
      exact ⟨_, _, _, _, rfl, o1, o2⟩
end Go.Proofs.Ytdljoapbeelgiaa
