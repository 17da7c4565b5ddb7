/-
  PROVED HERE: what Add of package intern returns when it is called (a contract over this translation). A fit table, a label of at most 65536 pairs.
-/
import Derived.Test.YtjkncajcmdlmgaaItn10
namespace Go.Proofs.Ytjkncajcmdlmgaa
open Go.ChangeShapes Go.WideShapes Go.ChangeAt Go.RowKit
set_option linter.unusedVariables false

theorem fit_few {Z : Zt} (h : FitP Z) : ∀ i, (zat Z i).1.length ≤ 16 := by
  intro i
  by_cases hi : i < Z.length
  · obtain ⟨_, _, s2, _⟩ := h.stand i hi
    unfold keepB at s2
    simp at s2
    exact s2.1
  · rw [zat_out (by omega)]; simp
theorem Kp.kty {base : Nat} {W W' : World} {kb : Nat} {Z : Zt} (h : Kp base W kb Z) (k : ∀ t, t ≠ 27 → KTy t W W') : Kp base W' kb Z := by
  obtain ⟨vL, vC, vs, h1, h2, h3, h4, h5⟩ := h
  refine ⟨vL, vC, vs, two_kty h1 (k _ (by decide)), h2, ownsRow_kty h3 (k _ (by decide)), ownsRow_kty h4 (k _ (by decide)), fun i hi => ?_⟩
  obtain ⟨a, k', c, q1, q2⟩ := h5 i hi
  exact ⟨a, k', c, q1, q2.kty (k _ (by decide))⟩
/-- The keeper's table, handed out through a result's cells. -/
theorem Kp.out {base : Nat} {w w3 : World} {kb rb : Nat} {Z : Zt} {u v : Value} {a a' : Option Addr} {n c n' c' : Nat} (h : Kp base w3 kb Z) (hTw : Two w3 kb 48 (.slice a n c) (.slice a' n' c')) (hR : Two w3 rb 27 u v) (hb : Below w.heap.size w w3) (hrb : w.heap.size ≤ rb) :
    TabN ((w3.setCell ⟨rb, 0, none⟩ (.slice a n c)).setCell ⟨rb, 1, none⟩ (.slice a' n' c')) a n c a' c' Z ∧ Two ((w3.setCell ⟨rb, 0, none⟩ (.slice a n c)).setCell ⟨rb, 1, none⟩ (.slice a' n' c')) rb 27 (.slice a n c) (.slice a' n' c') ∧
      Below w.heap.size w ((w3.setCell ⟨rb, 0, none⟩ (.slice a n c)).setCell ⟨rb, 1, none⟩ (.slice a' n' c')) := by
  have r1 := hR.set0 (.slice a n c)
  have k : ∀ t, t ≠ 27 → KTy t w3 ((w3.setCell ⟨rb, 0, none⟩ (.slice a n c)).setCell ⟨rb, 1, none⟩ (.slice a' n' c')) := fun t ht => (KTy.set hR _ ht).trans (KTy.set r1 _ ht)
  obtain ⟨a1, c1, a1', c1', hTw1, hT1⟩ := (h.kty k).tabN
  obtain ⟨e1, e2⟩ := two_inj (two_kty hTw (k _ (by decide))) hTw1
  cases e1
  cases e2
  exact ⟨hT1, r1.set1 _, (hb.setCell (p := ⟨rb, 0, none⟩) hrb _).setCell (p := ⟨rb, 1, none⟩) hrb _⟩
set_option maxRecDepth 100000 in
set_option maxHeartbeats 1000000 in
theorem tadd_any {w : World} {a a' al : Option Addr} {n c c' k cl : Nat} {Z : Zt} {L : List (Int × Int)} (hT : Tab w a n c a' c' Z) (hF : FitP Z) (hL : Lab w.heap.size w al k cl L) (hk : k ≤ 65536) :
    Calls Try.prog 6 #[.agg #[.slice a n c, .slice a' n c'], .slice al k cl] w fun e w' => ∃ a1 n1 c1 a1' c1', e = .returned (.tuple #[.agg #[.slice a1 n1 c1, .slice a1' n1 c1'], .int .i64 (addR Z L).2.1, .int .i64 (addR Z L).2.2]) ∧ TabN w' a1 n1 c1 a1' c1' (addR Z L).1 ∧ Below w.heap.size w w' := by
  have hl := hT.len
  have hn := hF.len
  have hcm := hT.2.2.2.1.1
  have hnc := hT.2.2.1
  have hzt : Z.take n = Z := by rw [← hl, List.take_length]
  have hb0 : Below w.heap.size w ((w.alloc (.cells #[.slice a n c, .slice a' n c'] 27)).alloc (.cells #[.slice none 0 0, .slice none 0 0] 27)) := ((Below.refl _ w).alloc (Nat.le_refl _) _).alloc (by simp) _
  have t0 := two_kty (Two.new w 27 (.slice a n c) (.slice a' n c')) (KTy.alloc _ _ (.cells #[.slice none 0 0, .slice none 0 0] 27))
  have t1 := Two.new (w.alloc (.cells #[.slice a n c, .slice a' n c'] 27)) 27 (.slice none 0 0) (.slice none 0 0)
  rw [World.size_alloc] at t1
  have hfew : ∀ i, (zat Z i).1.length ≤ 65536 := fun i => Nat.le_trans (fit_few hF i) (by omega)
  have HF : Hid (FitP Z) := hF
  clear hF
  obtain ⟨W0, hW0⟩ : ∃ W0, Hid ((w.alloc (.cells #[.slice a n c, .slice a' n c'] 27)).alloc (.cells #[.slice none 0 0, .slice none 0 0] 27) = W0) := ⟨_, rfl⟩
  have hsz : W0.heap.size = w.heap.size + 2 := by rw [← hW0.out]; simp
  go_enter Try.func6, Try.ntmps6
  go_wp2
  rw [hW0.out] at hb0 t0 t1 ⊢
  have d0 := t0.cell0
  have d1 := t0.cell1
  have hTW := hT.next hb0
  go_region_held3 (fun w' => w'.cell? ⟨w.heap.size, 0, none⟩ = some (.slice a n c) ∧ w'.cell? ⟨w.heap.size, 1, none⟩ = some (.slice a' n c')) (go_keep) (first | (go_at_call 11; refine (places_any _ _ _ _ _ _ (by omega)).mono ?_; rintro e w1 ⟨rfl, hb1'⟩; have hb1 : Below W0.heap.size W0 w1 := (Below.refl _ W0).drew.trans hb1'; have e0 := (hb1.cell (p := ⟨w.heap.size, 0, none⟩) t0.lt).trans d0; have e1 := (hb1.cell (p := ⟨w.heap.size, 1, none⟩) t0.lt).trans d1) | (go_at_call 10; refine (keep_any n (hTW.next hb1) (Nat.le_refl _) (by omega) hfew).mono ?_; rintro e w2 ⟨kb, rfl, hk2, hb2⟩; rw [hzt] at hk2; have f0 := (hb2.cell (p := ⟨w.heap.size, 0, none⟩) (Nat.lt_of_lt_of_le t0.lt hb1.size)).trans e0; have f1 := (hb2.cell (p := ⟨w.heap.size, 1, none⟩) (Nat.lt_of_lt_of_le t0.lt hb1.size)).trans e1))
  have hb02 : Below W0.heap.size W0 w2 := hb1.trans (hb2.mono hb1.size)
  have hbs : W0.heap.size ≤ w1.heap.size := hb1.size
  have hLw : Lab w1.heap.size w2 al k cl L := ((hL.next hb0).next hb1).later hb2
  go_wp2_with (go_at_call 12; refine (add_any hk2 HF.out hLw hk).mono ?_; rintro e w3 ⟨rfl, hk3, hb3⟩; obtain ⟨a1, c1, a1', c1', hTw, hT3⟩ := hk3.tab; have g0 := hTw.cell0; have g1 := hTw.cell1; have T1 : Two w3 (w.heap.size + 1) 27 (.slice none 0 0) (.slice none 0 0) := (hb3.block (w.heap.size + 1) (by omega)).trans ((hb02.block (w.heap.size + 1) (by omega)).trans t1); have h0 := T1.cell0; have h1 := T1.cell1; have i0 := T1.frozen0 0; have i1 := T1.frozen0 1)
  have hw3 : Below w.heap.size w w3 := (hb0.trans (hb02.mono hb0.size)).trans (hb3.mono (Nat.le_trans hb0.size hbs))
  obtain ⟨o1, o2, o3⟩ := hk3.out hTw T1 hw3 (by omega)
  have p0 := o2.cell0
  have p1 := o2.cell1
  refine bodyPost_ret (v := .tuple #[.agg #[.slice a1 (addR Z L).1.length c1, .slice a1' (addR Z L).1.length c1'], .int .i64 (addR Z L).2.1, .int .i64 (addR Z L).2.2]) (by simp [results, Try.f6, go_sem, p0, p1]) rfl ?_
  exact ⟨_, _, _, _, _, rfl, o1, o3⟩
end Go.Proofs.Ytjkncajcmdlmgaa
