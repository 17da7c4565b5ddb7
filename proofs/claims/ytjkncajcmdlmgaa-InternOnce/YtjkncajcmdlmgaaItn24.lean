/-
  PROVED HERE: what Add and Drop of package intern return when they are called, and that the table that they hand back lies in new rows (contracts over this translation). Tables that are fit, labels of at most 65536 pairs.
-/
import Derived.Test.YtjkncajcmdlmgaaItn13
import Derived.Test.YtjkncajcmdlmgaaItn23
import Derived.Deep.OwnRows
namespace Go.Proofs.Ytjkncajcmdlmgaa
open Go.ChangeShapes Go.WideShapes Go.ChangeAt Go.RowKit
set_option linter.unusedVariables false

/-- A block from B on, or one of pairs; no table's. -/
def PN (B : Nat) (w : World) (b : Nat) : Prop := ∃ cs t tg, w.heap[b]? = some (Obj.cells cs t tg) ∧ t ≠ 27 ∧ (B ≤ b ∨ t = 41)
theorem PN.lt {B : Nat} {w : World} {b : Nat} (h : PN B w b) : b < w.heap.size := by obtain ⟨cs, t, tg, e, _⟩ := h; exact (Array.getElem?_eq_some_iff.1 e).1
def TabP (B : Nat) (w : World) (a : Option Addr) (n c : Nat) (a' : Option Addr) (c' : Nat) (Z : Zt) : Prop := TabD (PN B w) w a n c a' n c' (Z.map (·.1)) (Z.map (·.2))
theorem TabP.tab {B : Nat} {w : World} {a a' : Option Addr} {n c c' : Nat} {Z : Zt} (h : TabP B w a n c a' c' Z) : Tab w a n c a' c' Z := TabD.wide h (fun b hb => hb.lt)
theorem TabP.len {B : Nat} {w : World} {a a' : Option Addr} {n c c' : Nat} {Z : Zt} (h : TabP B w a n c a' c' Z) : Z.length = n := h.tab.len
theorem TabP.mono {B B' : Nat} {w : World} {a a' : Option Addr} {n c c' : Nat} {Z : Zt} (h : TabP B w a n c a' c' Z) (hB : B' ≤ B) : TabP B' w a n c a' c' Z :=
  TabD.wide h (fun b ⟨cs, t, tg, e, ht, hb⟩ => ⟨cs, t, tg, e, ht, hb.imp (fun q => Nat.le_trans hB q) id⟩)
theorem TabP.kty {B : Nat} {w w' : World} {a a' : Option Addr} {n c c' : Nat} {Z : Zt} (h : TabP B w a n c a' c' Z) (k : ∀ t, t ≠ 27 → KTy t w w') : TabP B w' a n c a' c' Z := by
  have hs := (k 0 (by decide)).1
  have h1 : TabD (PN B w) w' a n c a' n c' (Z.map (·.1)) (Z.map (·.2)) := TabD.later h ⟨hs, fun b ⟨cs, t, tg, e, ht, _⟩ => ((k t ht).2 b cs tg e).trans e.symm⟩
  exact h1.wide (fun b ⟨cs, t, tg, e, ht, hb⟩ => ⟨cs, t, tg, (k t ht).2 b cs tg e, ht, hb⟩)
theorem TabP.next {B : Nat} {w w' : World} {a a' : Option Addr} {n c c' : Nat} {Z : Zt} (h : TabP B w a n c a' c' Z) (k : Below w.heap.size w w') : TabP B w' a n c a' c' Z := h.kty (fun t _ => KTy.below k)
/-- A store into a row that is older. -/
theorem TabP.set {B : Nat} {w : World} {a a' : Option Addr} {n c c' g i : Nat} {Z : Zt} {cs : Array Value} {t : TypeId} {tg : Nat × Nat} (h : TabP B w a n c a' c' Z) (hg : w.heap[g]? = some (Obj.cells cs t tg)) (hB : g < B) (ht : t ≠ 41) (u : Value) : TabP B (w.setCell ⟨g, i, none⟩ u) a n c a' c' Z := by
  have key : ∀ b, PN B w b → (w.setCell ⟨g, i, none⟩ u).heap[b]? = w.heap[b]? := fun b ⟨cs', t', tg', e, _, hb⟩ => by
    refine Below.heap_setCell _ _ _ _ ?_
    intro q
    have q' : b = g := q
    subst q'
    rw [hg] at e
    cases e
    rcases hb with hb | hb
    · omega
    · exact ht hb
  have h1 : TabD (PN B w) (w.setCell ⟨g, i, none⟩ u) a n c a' n c' (Z.map (·.1)) (Z.map (·.2)) := TabD.later h ⟨by simp, key⟩
  exact h1.wide (fun b hb => by have e := key b hb; obtain ⟨cs', t', tg', e', ht', hb'⟩ := hb; exact ⟨cs', t', tg', e.trans e', ht', hb'⟩)
theorem Kp.tabP {base : Nat} {W : World} {kb : Nat} {Z : Zt} (h : Kp base W kb Z) : ∃ a c a' c', Two W kb 48 (.slice a Z.length c) (.slice a' Z.length c') ∧ TabP base W a Z.length c a' c' Z := by
  obtain ⟨vL, vC, vs, h1, h2, h3, h4, h5⟩ := h
  have hl : ∃ a c, vL = .slice a Z.length c ∧ RowD (PN base W) W a Z.length c (Z.map (·.1)) := by
    have h3' := h3
    rcases h3.2 with ⟨rfl, h0⟩ | ⟨g, cap, cur, rfl, hb, hh, hnc, hm, hs, ht⟩
    · exact ⟨none, 0, by rw [h0], by simp, by omega, ⟨by omega, fun _ => rfl⟩, fun hn => absurd hn (by omega)⟩
    · refine ⟨_, _, rfl, by simp, hnc, ⟨by unfold maxLen at hm; omega, fun e => by cases e⟩, fun _ => ⟨g, 0, rfl, ⟨_, _, _, hh, by decide, .inl hb⟩, fun i hi => ?_⟩⟩
      obtain ⟨a, k, c, q1, q2⟩ := h5 i hi
      refine ⟨a, k, c, ?_, ?_⟩
      · rw [Nat.zero_add, h3'.cellAt i (by omega), q1]
      · rw [zat_fst]; exact q2.wide (fun b ⟨cs, tg, e⟩ => ⟨cs, _, tg, e, by decide, .inr rfl⟩)
  have hc : ∃ a c, vC = .slice a Z.length c ∧ IntD (PN base W) W a Z.length c (Z.map (·.2)) := by
    have h4' := h4
    rcases h4.2 with ⟨rfl, h0⟩ | ⟨g, cap, cur, rfl, hb, hh, hnc, hm, hs, ht⟩
    · exact ⟨none, 0, by rw [h0], by simp, by omega, ⟨by omega, fun _ => rfl⟩, fun hn => absurd hn (by omega)⟩
    · refine ⟨_, _, rfl, by simp, hnc, ⟨by unfold maxLen at hm; omega, fun e => by cases e⟩, fun _ => ⟨g, 0, rfl, ⟨_, _, _, hh, by decide, .inl hb⟩, fun i hi => ?_⟩⟩
      rw [Nat.zero_add, h4'.cellAt i (by omega), zat_snd, cntV_at hi]
  obtain ⟨a, c, rfl, hl⟩ := hl
  obtain ⟨a', c', rfl, hc⟩ := hc
  exact ⟨a, c, a', c', h1, hl, hc⟩
/-- The keeper's table, handed out through a result's cells. -/
theorem Kp.outP {base : Nat} {w w3 : World} {kb rb : Nat} {Z : Zt} {u v : Value} {a a' : Option Addr} {n c n' c' : Nat} (h : Kp base w3 kb Z) (hTw : Two w3 kb 48 (.slice a n c) (.slice a' n' c')) (hR : Two w3 rb 27 u v) (hb : Below w.heap.size w w3) (hrb : w.heap.size ≤ rb) :
    TabP base ((w3.setCell ⟨rb, 0, none⟩ (.slice a n c)).setCell ⟨rb, 1, none⟩ (.slice a' n' c')) a n c a' c' Z ∧ Two ((w3.setCell ⟨rb, 0, none⟩ (.slice a n c)).setCell ⟨rb, 1, none⟩ (.slice a' n' c')) rb 27 (.slice a n c) (.slice a' n' c') ∧
      Below w.heap.size w ((w3.setCell ⟨rb, 0, none⟩ (.slice a n c)).setCell ⟨rb, 1, none⟩ (.slice a' n' c')) := by
  have r1 := hR.set0 (.slice a n c)
  have k : ∀ t, t ≠ 27 → KTy t w3 ((w3.setCell ⟨rb, 0, none⟩ (.slice a n c)).setCell ⟨rb, 1, none⟩ (.slice a' n' c')) := fun t ht => (KTy.set hR _ ht).trans (KTy.set r1 _ ht)
  obtain ⟨a1, c1, a1', c1', hTw1, hT1⟩ := (h.kty k).tabP
  obtain ⟨e1, e2⟩ := two_inj (two_kty hTw (k _ (by decide))) hTw1
  cases e1
  cases e2
  exact ⟨hT1, r1.set1 _, (hb.setCell (p := ⟨rb, 0, none⟩) hrb _).setCell (p := ⟨rb, 1, none⟩) hrb _⟩
set_option maxRecDepth 100000 in
set_option maxHeartbeats 1000000 in
theorem tadd_new {w : World} {a a' al : Option Addr} {n c c' k cl : Nat} {Z : Zt} {L : List (Int × Int)} (hT : Tab w a n c a' c' Z) (hF : FitP Z) (hL : Lab w.heap.size w al k cl L) (hk : k ≤ 65536) :
    Calls Try.prog 6 #[.agg #[.slice a n c, .slice a' n c'], .slice al k cl] w fun e w' => ∃ a1 n1 c1 a1' c1', e = .returned (.tuple #[.agg #[.slice a1 n1 c1, .slice a1' n1 c1'], .int .i64 (addR Z L).2.1, .int .i64 (addR Z L).2.2]) ∧ TabP w.heap.size w' a1 n1 c1 a1' c1' (addR Z L).1 ∧ Below w.heap.size w w' := by
  have hl := hT.len
  have hn := hF.len
  have hcm := hT.2.2.2.1.1
  have hnc := hT.2.2.1
  have hzt : Z.take n = Z := by rw [← hl, List.take_length]
  have hb0 : Below w.heap.size w ((w.alloc (.cells #[.slice a n c, .slice a' n c'] 27)).alloc (.cells #[.slice none 0 0, .slice none 0 0] 27)) := ((Below.refl _ w).alloc (Nat.le_refl _) _).alloc (by simp) _
  have t0 := two_kty (Two.new w 27 (.slice a n c) (.slice a' n c')) (KTy.alloc _ _ (.cells #[.slice none 0 0, .slice none 0 0] 27))
  have t1 := Two.new (w.alloc (.cells #[.slice a n c, .slice a' n c'] 27)) 27 (.slice none 0 0) (.slice none 0 0)
  rw [World.size_alloc] at t1
  have hfew : ∀ i, (zat Z i).1.length ≤ 65536 := fun i => Nat.le_trans (fit_few hF i) (by omega)
  have HF : Hid (FitP Z) := hF
  clear hF
  obtain ⟨W0, hW0⟩ : ∃ W0, Hid ((w.alloc (.cells #[.slice a n c, .slice a' n c'] 27)).alloc (.cells #[.slice none 0 0, .slice none 0 0] 27) = W0) := ⟨_, rfl⟩
  have hsz : W0.heap.size = w.heap.size + 2 := by rw [← hW0.out]; simp
  go_enter Try.func6, Try.ntmps6
  go_wp2
  rw [hW0.out] at hb0 t0 t1 ⊢
  have d0 := t0.cell0
  have d1 := t0.cell1
  have hTW := hT.next hb0
  go_region_held3 (fun w' => w'.cell? ⟨w.heap.size, 0, none⟩ = some (.slice a n c) ∧ w'.cell? ⟨w.heap.size, 1, none⟩ = some (.slice a' n c')) (go_keep) (first | (go_at_call 11; refine (places_any _ _ _ _ _ _ (by omega)).mono ?_; rintro e w1 ⟨rfl, hb1'⟩; have hb1 : Below W0.heap.size W0 w1 := (Below.refl _ W0).drew.trans hb1'; have e0 := (hb1.cell (p := ⟨w.heap.size, 0, none⟩) t0.lt).trans d0; have e1 := (hb1.cell (p := ⟨w.heap.size, 1, none⟩) t0.lt).trans d1) | (go_at_call 10; refine (keep_any n (hTW.next hb1) (Nat.le_refl _) (by omega) hfew).mono ?_; rintro e w2 ⟨kb, rfl, hk2, hb2⟩; rw [hzt] at hk2; have f0 := (hb2.cell (p := ⟨w.heap.size, 0, none⟩) (Nat.lt_of_lt_of_le t0.lt hb1.size)).trans e0; have f1 := (hb2.cell (p := ⟨w.heap.size, 1, none⟩) (Nat.lt_of_lt_of_le t0.lt hb1.size)).trans e1))
  have hb02 : Below W0.heap.size W0 w2 := hb1.trans (hb2.mono hb1.size)
  have hbs : W0.heap.size ≤ w1.heap.size := hb1.size
  have hLw : Lab w1.heap.size w2 al k cl L := ((hL.next hb0).next hb1).later hb2
  go_wp2_with (go_at_call 12; refine (add_any hk2 HF.out hLw hk).mono ?_; rintro e w3 ⟨rfl, hk3, hb3⟩; obtain ⟨a1, c1, a1', c1', hTw, hT3⟩ := hk3.tab; have g0 := hTw.cell0; have g1 := hTw.cell1; have T1 : Two w3 (w.heap.size + 1) 27 (.slice none 0 0) (.slice none 0 0) := (hb3.block (w.heap.size + 1) (by omega)).trans ((hb02.block (w.heap.size + 1) (by omega)).trans t1); have h0 := T1.cell0; have h1 := T1.cell1; have i0 := T1.frozen0 0; have i1 := T1.frozen0 1)
  have hw3 : Below w.heap.size w w3 := (hb0.trans (hb02.mono hb0.size)).trans (hb3.mono (Nat.le_trans hb0.size hbs))
  obtain ⟨o1, o2, o3⟩ := hk3.outP hTw T1 hw3 (by omega)
  have p0 := o2.cell0
  have p1 := o2.cell1
  refine bodyPost_ret (v := .tuple #[.agg #[.slice a1 (addR Z L).1.length c1, .slice a1' (addR Z L).1.length c1'], .int .i64 (addR Z L).2.1, .int .i64 (addR Z L).2.2]) (by simp [results, Try.f6, go_sem, p0, p1]) rfl ?_
  exact ⟨_, _, _, _, _, rfl, o1.mono (by omega), o3⟩
set_option maxRecDepth 100000 in
set_option maxHeartbeats 1000000 in
theorem tdrop_new {w : World} {a a' : Option Addr} {n c c' : Nat} {Z : Zt} (x : Int) (hT : Tab w a n c a' c' Z) (hF : FitP Z) :
    Calls Try.prog 7 #[.agg #[.slice a n c, .slice a' n c'], .int .i64 x] w fun e w' => ∃ a1 n1 c1 a1' c1', e = .returned (.tuple #[.agg #[.slice a1 n1 c1, .slice a1' n1 c1'], .int .i64 (dropR Z x).2]) ∧ TabP w.heap.size w' a1 n1 c1 a1' c1' (dropR Z x).1 ∧ Below w.heap.size w w' := by
  have hl := hT.len
  have hn := hF.len
  have hcm := hT.2.2.2.1.1
  have hnc := hT.2.2.1
  have hzt : Z.take n = Z := by rw [← hl, List.take_length]
  have hb0 : Below w.heap.size w ((w.alloc (.cells #[.slice a n c, .slice a' n c'] 27)).alloc (.cells #[.slice none 0 0, .slice none 0 0] 27)) := ((Below.refl _ w).alloc (Nat.le_refl _) _).alloc (by simp) _
  have t0 := two_kty (Two.new w 27 (.slice a n c) (.slice a' n c')) (KTy.alloc _ _ (.cells #[.slice none 0 0, .slice none 0 0] 27))
  have t1 := Two.new (w.alloc (.cells #[.slice a n c, .slice a' n c'] 27)) 27 (.slice none 0 0) (.slice none 0 0)
  rw [World.size_alloc] at t1
  have hfew : ∀ i, (zat Z i).1.length ≤ 65536 := fun i => Nat.le_trans (fit_few hF i) (by omega)
  have HF : Hid (FitP Z) := hF
  clear hF
  obtain ⟨W0, hW0⟩ : ∃ W0, Hid ((w.alloc (.cells #[.slice a n c, .slice a' n c'] 27)).alloc (.cells #[.slice none 0 0, .slice none 0 0] 27) = W0) := ⟨_, rfl⟩
  have hsz : W0.heap.size = w.heap.size + 2 := by rw [← hW0.out]; simp
  go_enter Try.func7, Try.ntmps7
  go_wp2
  rw [hW0.out] at hb0 t0 t1 ⊢
  have d0 := t0.cell0
  have d1 := t0.cell1
  have hTW := hT.next hb0
  go_region_held3 (fun w' => w'.cell? ⟨w.heap.size, 0, none⟩ = some (.slice a n c) ∧ w'.cell? ⟨w.heap.size, 1, none⟩ = some (.slice a' n c')) (go_keep) (first | (go_at_call 11; refine (places_any _ _ _ _ _ _ (by omega)).mono ?_; rintro e w1 ⟨rfl, hb1'⟩; have hb1 : Below W0.heap.size W0 w1 := (Below.refl _ W0).drew.trans hb1'; have e0 := (hb1.cell (p := ⟨w.heap.size, 0, none⟩) t0.lt).trans d0; have e1 := (hb1.cell (p := ⟨w.heap.size, 1, none⟩) t0.lt).trans d1) | (go_at_call 10; refine (keep_any n (hTW.next hb1) (Nat.le_refl _) (by omega) hfew).mono ?_; rintro e w2 ⟨kb, rfl, hk2, hb2⟩; rw [hzt] at hk2; have f0 := (hb2.cell (p := ⟨w.heap.size, 0, none⟩) (Nat.lt_of_lt_of_le t0.lt hb1.size)).trans e0; have f1 := (hb2.cell (p := ⟨w.heap.size, 1, none⟩) (Nat.lt_of_lt_of_le t0.lt hb1.size)).trans e1))
  have hb02 : Below W0.heap.size W0 w2 := hb1.trans (hb2.mono hb1.size)
  have hbs : W0.heap.size ≤ w1.heap.size := hb1.size
  go_wp2_with (go_at_call 13; refine (drop_any x hk2 HF.out).mono ?_; rintro e w3 ⟨rfl, hk3, hb3⟩; obtain ⟨a1, c1, a1', c1', hTw, hT3⟩ := hk3.tab; have g0 := hTw.cell0; have g1 := hTw.cell1; have T1 : Two w3 (w.heap.size + 1) 27 (.slice none 0 0) (.slice none 0 0) := (hb3.block (w.heap.size + 1) (by omega)).trans ((hb02.block (w.heap.size + 1) (by omega)).trans t1); have h0 := T1.cell0; have h1 := T1.cell1; have i0 := T1.frozen0 0; have i1 := T1.frozen0 1)
  have hw3 : Below w.heap.size w w3 := (hb0.trans (hb02.mono hb0.size)).trans (hb3.mono (Nat.le_trans hb0.size hbs))
  obtain ⟨o1, o2, o3⟩ := hk3.outP hTw T1 hw3 (by omega)
  have p0 := o2.cell0
  have p1 := o2.cell1
  refine bodyPost_ret (v := .tuple #[.agg #[.slice a1 (dropR Z x).1.length c1, .slice a1' (dropR Z x).1.length c1'], .int .i64 (dropR Z x).2]) (by simp [results, Try.f7, go_sem, p0, p1]) rfl ?_
  exact ⟨_, _, _, _, _, rfl, o1.mono (by omega), o3⟩
end Go.Proofs.Ytjkncajcmdlmgaa
