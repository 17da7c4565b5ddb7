/-
  PROVED HERE: what it means that a keeper of package intern has a table of its own; what its lay does when it is called (a contract over this translation). Tables of at most 64 places, labels of at most 65536 pairs.
-/
import Derived.Test.YtjkncajcmdlmgaaItn7
import Derived.Test.YtjkncajcmdlmgaaLabRef1
import Derived.Deep.RegionHeld3
import Derived.Deep.AppendLies
import Derived.Deep.RegionLaw
import Derived.Deep.DeepCutAuto
import Derived.Maps.AppendAt
namespace Go.Proofs.Ytjkncajcmdlmgaa
open Go.ChangeShapes Go.WideShapes Go.ChangeAt Go.RowKit
set_option linter.unusedVariables false

theorem infoLab : (Try.prog.info? 29).map (fun i => (i.zero, i.size, i.bytes)) = some (some (.slice none 0 0), 1, 24) := by kernel_rfl
theorem infoInt : (Try.prog.info? 3).map (fun i => (i.zero, i.size, i.bytes)) = some (some (.int .i64 0), 1, 8) := by kernel_rfl
theorem ownsRowK_next {W W' : World} {b : Nat} {e : TypeId} {size : Nat} {v : Value} {k : Nat} {xs : List Value} (h : W.ownsRow b e size v k xs) (hb : Below W.heap.size W W') : W'.ownsRow b e size v k xs := by
  refine h.kept (below_grown hb) ?_
  cases ho : v.ownBlock with
  | none => exact .inl rfl
  | some a => exact .inr (by simp)
theorem cellK_new (w : World) (x : Value) (t : TypeId) : ∀ j u, [x][j]? = some u → (w.alloc (.cells #[x] t)).cell? ((⟨w.heap.size, 0, none⟩ : Addr).add j) = some u := by
  intro j u hj
  match j, hj with
  | 0, hj => simp at hj; subst hj; simp [Addr.add]
/-- The rows of type t lie as they lay. -/
def KTy (t : TypeId) (W W' : World) : Prop := W.heap.size ≤ W'.heap.size ∧ ∀ (b : Nat) (cs : Array Value) (tg : Nat × Nat), W.heap[b]? = some (Obj.cells cs t tg) → W'.heap[b]? = some (Obj.cells cs t tg)
theorem KTy.refl (t : TypeId) (W : World) : KTy t W W := ⟨Nat.le_refl _, fun _ _ _ h => h⟩
theorem KTy.trans {t : TypeId} {A B C : World} (h : KTy t A B) (k : KTy t B C) : KTy t A C := ⟨Nat.le_trans h.1 k.1, fun b cs tg e => k.2 b cs tg (h.2 b cs tg e)⟩
theorem KTy.below {t : TypeId} {W W' : World} (h : Below W.heap.size W W') : KTy t W W' := ⟨h.size, fun b cs tg e => (h.block b (Array.getElem?_eq_some_iff.1 e).1).trans e⟩
theorem KTy.alloc (t : TypeId) (W : World) (o : Obj) : KTy t W (W.alloc o) := KTy.below ((Below.refl _ W).alloc (Nat.le_refl _) o)
theorem KTy.grown {t t' : TypeId} {W W' : World} {base size n : Nat} {v : Value} {xs : List Value} (h : W.ownsRow base t' size v n xs) (hg : W.grownBy W' v.ownBlock) (ht : t ≠ t') : KTy t W W' := by
  refine ⟨hg.size, fun b cs tg e => (hg.block b (Array.getElem?_eq_some_iff.1 e).1 ?_).trans e⟩
  intro hb
  rcases h.2 with ⟨rfl, _⟩ | ⟨g, cap, cur, rfl, _, hgb, _⟩
  · cases hb
  · simp [Value.ownBlock] at hb
    subst hb
    rw [e] at hgb
    cases hgb
    exact ht rfl
theorem KTy.set {t t' : TypeId} {W : World} {b i : Nat} {cs : Array Value} {tg : Nat × Nat} (h : W.heap[b]? = some (.cells cs t' tg)) (u : Value) (ht : t ≠ t') : KTy t W (W.setCell ⟨b, i, none⟩ u) := by
  refine ⟨by simp, fun b' cs' tg' e => (Below.heap_setCell _ _ _ _ ?_).trans e⟩
  intro hb
  have hb' : b' = b := hb
  subst hb'
  rw [e] at h
  cases h
  exact ht rfl
theorem ownsRow_kty {t : TypeId} {W W' : World} {base size n : Nat} {v : Value} {xs : List Value} (h : W.ownsRow base t size v n xs) (k : KTy t W W') : W'.ownsRow base t size v n xs := by
  refine ⟨h.1, ?_⟩
  rcases h.2 with h1 | ⟨g, cap, cur, e, hb, hg, rest⟩
  · exact .inl h1
  · exact .inr ⟨g, cap, cur, e, hb, k.2 _ _ _ hg, rest⟩
theorem two_kty {t : TypeId} {W W' : World} {b : Nat} {u v : Value} (h : Two W b t u v) (k : KTy t W W') : Two W' b t u v := k.2 _ _ _ h
/-- A block of pairs. -/
def PB (W : World) (b : Nat) : Prop := ∃ cs tg, W.heap[b]? = some (Obj.cells cs 41 tg)
def LabT (W : World) (a : Option Addr) (k c : Nat) (L : List (Int × Int)) : Prop := LabD (PB W) W a k c L
theorem LabT.kty {W W' : World} {a : Option Addr} {k c : Nat} {L : List (Int × Int)} (h : LabT W a k c L) (kk : KTy 41 W W') : LabT W' a k c L := by
  have h1 : LabD (PB W) W' a k c L := LabD.later h ⟨kk.1, fun b ⟨cs, tg, e⟩ => (kk.2 b cs tg e).trans e.symm⟩
  exact h1.wide (fun b ⟨cs, tg, e⟩ => ⟨cs, tg, kk.2 b cs tg e⟩)
theorem LabT.lab {W : World} {a : Option Addr} {k c : Nat} {L : List (Int × Int)} (h : LabT W a k c L) : Lab W.heap.size W a k c L := LabD.lab h (fun b ⟨cs, tg, e⟩ => (Array.getElem?_eq_some_iff.1 e).1)
theorem OwnL.labT {base : Nat} {w : World} {ao : Option Addr} {n cap : Nat} {L : List (Int × Int)} (h : OwnL base w ao n cap L) : LabT w ao n cap L := by
  have hl := h.lab
  refine ⟨hl.1, hl.2.1, hl.2.2.1, fun hn => ?_⟩
  obtain ⟨b, off, e, hb, hc⟩ := hl.2.2.2 hn
  refine ⟨b, off, e, ?_, hc⟩
  rcases h.2.2 with ⟨e2, h0⟩ | ⟨g, cap', cur, e2, _, hg, _⟩
  · omega
  · cases e; cases e2
    exact ⟨_, _, hg⟩
theorem Two.frozen0 {W : World} {B : Nat} {t : TypeId} {u v : Value} (h : Two W B t u v) (i : Nat) : W.frozen? ⟨B, i, none⟩ = false := by simp [World.frozen?, show W.heap[B]? = _ from h]
theorem Two.set0 {W : World} {B : Nat} {t : TypeId} {u v : Value} (h : Two W B t u v) (x : Value) : Two (W.setCell ⟨B, 0, none⟩ x) B t x v := (heap_setCell_same W B 0 _ t x h).trans (by simp)
theorem Two.set1 {W : World} {B : Nat} {t : TypeId} {u v : Value} (h : Two W B t u v) (x : Value) : Two (W.setCell ⟨B, 1, none⟩ x) B t u x := (heap_setCell_same W B 1 _ t x h).trans (by simp)
def cntV (Z : Zt) : List Value := Z.map fun x => Value.int .i64 x.2
/-- The keeper at block kb has the table Z, in rows of its own (blocks from base on). -/
def Kp (base : Nat) (W : World) (kb : Nat) (Z : Zt) : Prop := ∃ vL vC vs, Two W kb 48 vL vC ∧ base ≤ kb ∧ W.ownsRow base 29 1 vL Z.length vs ∧ W.ownsRow base 3 1 vC Z.length (cntV Z) ∧
  ∀ i, i < Z.length → ∃ a k c, vs[i]? = some (.slice a k c) ∧ LabT W a k c (zat Z i).1
theorem Kp.next {base : Nat} {W W' : World} {kb : Nat} {Z : Zt} (h : Kp base W kb Z) (hb : Below W.heap.size W W') : Kp base W' kb Z := by
  obtain ⟨vL, vC, vs, h1, h2, h3, h4, h5⟩ := h
  refine ⟨vL, vC, vs, two_kty h1 (KTy.below hb), h2, ownsRow_kty h3 (KTy.below hb), ownsRow_kty h4 (KTy.below hb), fun i hi => ?_⟩
  obtain ⟨a, k, c, q1, q2⟩ := h5 i hi
  exact ⟨a, k, c, q1, q2.kty (KTy.below hb)⟩
theorem cntV_at {Z : Zt} {i : Nat} (h : i < Z.length) : (cntV Z)[i]? = some (.int .i64 (zat Z i).2) := by unfold cntV; rw [List.getElem?_map, zat_lt h]; rfl
/-- A block that is no table's. -/
def NT (w : World) (b : Nat) : Prop := ∃ cs t tg, w.heap[b]? = some (Obj.cells cs t tg) ∧ t ≠ 27
theorem NT.lt {w : World} {b : Nat} (h : NT w b) : b < w.heap.size := by obtain ⟨cs, t, tg, e, _⟩ := h; exact (Array.getElem?_eq_some_iff.1 e).1
/-- A table that lies in no block of a table's own. -/
def TabN (w : World) (a : Option Addr) (n c : Nat) (a' : Option Addr) (c' : Nat) (Z : Zt) : Prop := TabD (NT w) w a n c a' n c' (Z.map (·.1)) (Z.map (·.2))
theorem TabN.tab {w : World} {a a' : Option Addr} {n c c' : Nat} {Z : Zt} (h : TabN w a n c a' c' Z) : Tab w a n c a' c' Z := TabD.wide h (fun b hb => hb.lt)
theorem TabN.len {w : World} {a a' : Option Addr} {n c c' : Nat} {Z : Zt} (h : TabN w a n c a' c' Z) : Z.length = n := h.tab.len
theorem TabN.kty {w w' : World} {a a' : Option Addr} {n c c' : Nat} {Z : Zt} (h : TabN w a n c a' c' Z) (k : ∀ t, t ≠ 27 → KTy t w w') : TabN w' a n c a' c' Z := by
  have hs := (k 0 (by decide)).1
  have h1 : TabD (NT w) w' a n c a' n c' (Z.map (·.1)) (Z.map (·.2)) := TabD.later h ⟨hs, fun b ⟨cs, t, tg, e, ht⟩ => ((k t ht).2 b cs tg e).trans e.symm⟩
  exact h1.wide (fun b ⟨cs, t, tg, e, ht⟩ => ⟨cs, t, tg, (k t ht).2 b cs tg e, ht⟩)
theorem TabN.next {w w' : World} {a a' : Option Addr} {n c c' : Nat} {Z : Zt} (h : TabN w a n c a' c' Z) (k : Below w.heap.size w w') : TabN w' a n c a' c' Z := h.kty (fun t _ => KTy.below k)
theorem LabT.wideNT {W : World} {a : Option Addr} {k c : Nat} {L : List (Int × Int)} (h : LabT W a k c L) : LabD (NT W) W a k c L := LabD.wide h (fun b ⟨cs, tg, e⟩ => ⟨cs, _, tg, e, by decide⟩)
theorem Kp.tabN {base : Nat} {W : World} {kb : Nat} {Z : Zt} (h : Kp base W kb Z) : ∃ a c a' c', Two W kb 48 (.slice a Z.length c) (.slice a' Z.length c') ∧ TabN W a Z.length c a' c' Z := by
  obtain ⟨vL, vC, vs, h1, h2, h3, h4, h5⟩ := h
  have hl : ∃ a c, vL = .slice a Z.length c ∧ RowD (NT W) W a Z.length c (Z.map (·.1)) := by
    have h3' := h3
    rcases h3.2 with ⟨rfl, h0⟩ | ⟨g, cap, cur, rfl, hb, hh, hnc, hm, hs, ht⟩
    · exact ⟨none, 0, by rw [h0], by simp, by omega, ⟨by omega, fun _ => rfl⟩, fun hn => absurd hn (by omega)⟩
    · refine ⟨_, _, rfl, by simp, hnc, ⟨by unfold maxLen at hm; omega, fun e => by cases e⟩, fun _ => ⟨g, 0, rfl, ⟨_, _, _, hh, by decide⟩, fun i hi => ?_⟩⟩
      obtain ⟨a, k, c, q1, q2⟩ := h5 i hi
      refine ⟨a, k, c, ?_, ?_⟩
      · rw [Nat.zero_add, h3'.cellAt i (by omega), q1]
      · rw [zat_fst]; exact q2.wideNT
  have hc : ∃ a c, vC = .slice a Z.length c ∧ IntD (NT W) W a Z.length c (Z.map (·.2)) := by
    have h4' := h4
    rcases h4.2 with ⟨rfl, h0⟩ | ⟨g, cap, cur, rfl, hb, hh, hnc, hm, hs, ht⟩
    · exact ⟨none, 0, by rw [h0], by simp, by omega, ⟨by omega, fun _ => rfl⟩, fun hn => absurd hn (by omega)⟩
    · refine ⟨_, _, rfl, by simp, hnc, ⟨by unfold maxLen at hm; omega, fun e => by cases e⟩, fun _ => ⟨g, 0, rfl, ⟨_, _, _, hh, by decide⟩, fun i hi => ?_⟩⟩
      rw [Nat.zero_add, h4'.cellAt i (by omega), zat_snd, cntV_at hi]
  obtain ⟨a, c, rfl, hl⟩ := hl
  obtain ⟨a', c', rfl, hc⟩ := hc
  exact ⟨a, c, a', c', h1, hl, hc⟩
theorem Kp.tab {base : Nat} {W : World} {kb : Nat} {Z : Zt} (h : Kp base W kb Z) : ∃ a c a' c', Two W kb 48 (.slice a Z.length c) (.slice a' Z.length c') ∧ Tab W a Z.length c a' c' Z := by
  obtain ⟨a, c, a', c', h1, h2⟩ := h.tabN
  exact ⟨a, c, a', c', h1, h2.tab⟩
theorem Kp.lt {base : Nat} {W : World} {kb : Nat} {Z : Zt} (h : Kp base W kb Z) : base ≤ kb ∧ kb < W.heap.size := by
  obtain ⟨vL, vC, vs, h1, h2, _⟩ := h
  exact ⟨h2, h1.lt⟩

/-- The keeper between its two appends. -/
def Mid (base : Nat) (w wc : World) (kb : Nat) (vC : Value) (Z : Zt) (L : List (Int × Int)) : Prop := ∃ v' vs', Two wc kb 48 v' vC ∧ wc.ownsRow base 29 1 v' (Z.length + 1) vs' ∧ wc.ownsRow base 3 1 vC Z.length (cntV Z) ∧
  (∀ i, i < Z.length + 1 → ∃ a k c, vs'[i]? = some (.slice a k c) ∧ LabT wc a k c (zat (Z ++ [(L, 0)]) i).1) ∧ Below base w wc
theorem mid_of {base : Nat} {w w1 w2 : World} {kb : Nat} {Z : Zt} {L : List (Int × Int)} {vL vC : Value} {vs : List Value} {ao1 : Option Addr} {k cap1 g1 cp1 : Nat}
    (h1 : Two w kb 48 vL vC) (h2 : base ≤ kb) (h3 : w.ownsRow base 29 1 vL Z.length vs) (h4 : w.ownsRow base 3 1 vC Z.length (cntV Z)) (h5 : ∀ i, i < Z.length → ∃ a k c, vs[i]? = some (.slice a k c) ∧ LabT w a k c (zat Z i).1)
    (hb1 : Below w.heap.size w w1) (ho1 : OwnL w.heap.size w1 ao1 k cap1 L) (hown2 : w2.ownsRow base 29 1 (.slice (some ⟨g1, 0, none⟩) (Z.length + 1) cp1) (Z.length + 1) (vs ++ [.slice ao1 k cap1]))
    (hgrow2 : (w1.alloc (.cells #[.slice ao1 k cap1] 29)).grownBy w2 vL.ownBlock) :
    Mid base w (w2.setCell ⟨kb, 0, none⟩ (.slice (some ⟨g1, 0, none⟩) (Z.length + 1) cp1)) kb vC Z L := by
  have hs := h1.lt
  have hbs : base ≤ w.heap.size := by omega
  have hrow1 := ownsRowK_next h3 hb1
  have k2 : ∀ t, t ≠ 29 → KTy t w1 w2 := fun t ht => (KTy.alloc _ w1 _).trans (KTy.grown (hrow1.alloc _) hgrow2 ht)
  have T1 := two_kty h1 (KTy.below hb1)
  have T2 := two_kty T1 (k2 _ (by decide))
  have k3 : ∀ t, t ≠ 29 → t ≠ 48 → KTy t w1 (w2.setCell ⟨kb, 0, none⟩ (.slice (some ⟨g1, 0, none⟩) (Z.length + 1) cp1)) := fun t ht ht' => (k2 t ht).trans (KTy.set T2 _ ht')
  have hvl : vs.length = Z.length := by have := h3.1; omega
  refine ⟨_, _, T2.set0 _, ownsRow_kty hown2 (KTy.set T2 _ (by decide)), ownsRow_kty h4 ((KTy.below hb1).trans (k3 _ (by decide) (by decide))), fun i hi => ?_, (app_below (hb1.mono hbs) hrow1 hgrow2 (Nat.le_trans hbs hb1.size)).setCell (p := ⟨kb, 0, none⟩) h2 _⟩
  by_cases hin : i < Z.length
  · obtain ⟨a, k, c, q1, q2⟩ := h5 i hin
    refine ⟨a, k, c, by rw [List.getElem?_append_left (by omega)]; exact q1, ?_⟩
    rw [zat_app, if_neg (by omega)]
    exact (q2.kty (KTy.below hb1)).kty (k3 _ (by decide) (by decide))
  · obtain rfl : i = Z.length := by omega
    refine ⟨ao1, k, cap1, by rw [List.getElem?_append_right (by omega), hvl]; simp, ?_⟩
    rw [zat_app, if_pos rfl]
    exact ho1.labT.kty (k3 _ (by decide) (by decide))
theorem kp_of {base : Nat} {w wc w2 : World} {kb : Nat} {Z : Zt} {L : List (Int × Int)} {vC : Value} {x : Int} {v2 : Value} (h2 : base ≤ kb) (hM : Mid base w wc kb vC Z L)
    (hown2 : w2.ownsRow base 3 1 v2 (Z.length + 1) (cntV Z ++ [.int .i64 x])) (hgrow2 : (wc.alloc (.cells #[.int .i64 x] 3)).grownBy w2 vC.ownBlock) :
    Kp base (w2.setCell ⟨kb, 1, none⟩ v2) kb (Z ++ [(L, x)]) ∧ Below base w (w2.setCell ⟨kb, 1, none⟩ v2) := by
  obtain ⟨v', vs', h1, h3, h4, h5, hb⟩ := hM
  have k2 : ∀ t, t ≠ 3 → KTy t wc w2 := fun t ht => (KTy.alloc _ wc _).trans (KTy.grown (h4.alloc _) hgrow2 ht)
  have T2 := two_kty h1 (k2 _ (by decide))
  have k3 : ∀ t, t ≠ 3 → t ≠ 48 → KTy t wc (w2.setCell ⟨kb, 1, none⟩ v2) := fun t ht ht' => (k2 t ht).trans (KTy.set T2 _ ht')
  have hlt := h1.lt
  refine ⟨⟨v', v2, vs', T2.set1 _, h2, ?_, ?_, fun i hi => ?_⟩, (app_below hb h4 hgrow2 (by omega)).setCell (p := ⟨kb, 1, none⟩) h2 _⟩
  · rw [List.length_append]; exact ownsRow_kty h3 (k3 _ (by decide) (by decide))
  · rw [List.length_append]
    have e : cntV (Z ++ [(L, x)]) = cntV Z ++ [.int .i64 x] := by unfold cntV; simp
    rw [e]
    exact ownsRow_kty hown2 (KTy.set T2 _ (by decide))
  · rw [List.length_append] at hi
    obtain ⟨a, k, c, q1, q2⟩ := h5 i hi
    refine ⟨a, k, c, q1, ?_⟩
    have e : (zat (Z ++ [(L, x)]) i).1 = (zat (Z ++ [(L, 0)]) i).1 := by
      rw [zat_app, zat_app]; split <;> rfl
    rw [e]
    exact q2.kty (k3 _ (by decide) (by decide))

set_option maxRecDepth 100000 in
set_option maxHeartbeats 2000000 in
theorem lay_any {base : Nat} {w : World} {kb : Nat} {Z : Zt} {a : Option Addr} {k c : Nat} {L : List (Int × Int)} (x : Int) (hK : Kp base w kb Z) (hn : Z.length ≤ 64) (hL : Lab w.heap.size w a k c L) (hk : k ≤ 65536) :
    Calls Try.prog 17 #[.pointer (some ⟨kb, 0, none⟩), .slice a k c, .int .i64 x] w fun e w' => (∃ v, e = .returned v) ∧ Kp base w' kb (Z ++ [(L, x)]) ∧ Below base w w' := by
  obtain ⟨i0, hi, hz0, hz1, hz2⟩ := info_parts infoLab
  obtain ⟨j0, hj, jz0, jz1, jz2⟩ := info_parts infoInt
  obtain ⟨vL, vC, vs, h1, h2, h3, h4, h5⟩ := hK
  have hs := h1.lt
  have d0 := h1.cell0
  have d1 := h1.cell1
  have hbs : base ≤ w.heap.size := by omega
  go_enter Try.func17, Try.ntmps17
  go_wp2
  go_cut [0] (fun s wc => s = .pointer (some ⟨kb, 0, none⟩) ∧ Mid base w wc kb vC Z L)
  case first =>
    go_region_law (first | (go_simp; go_at_call 23; refine (icopied_any (w := w.drew) hL (by omega)).mono ?_; rintro e w1 ⟨ao1, cap1, rfl, ho1, hb1'⟩; have hb1 : Below w.heap.size w w1 := (Below.refl _ w).drew.trans hb1'; have d0' := (hb1.cell (p := ⟨kb, 0, none⟩) hs).trans d0; have d0a := cellLater d0' (.cells #[.slice ao1 k cap1] 29); have hrow1 := ownsRowK_next h3 hb1; have hw1 : base ≤ w1.heap.size := Nat.le_trans hbs hb1.size; have T1 := two_kty h1 (KTy.below hb1)) | (refine step_append_lies _ rfl _ _ 22 rfl base 29 i0 (.slice none 0 0) 1 24 Try.underlying22 hi hz0 hz1 hz2 rfl (by decide) _ _ _ rfl (hrow1.alloc _) ⟨w1.heap.size, 0, none⟩ 1 1 [.slice ao1 k cap1] rfl rfl (cellK_new _ _ _) (by simp [Value.oneCell']) (by omega) (by unfold maxLen; omega) (by omega) (Nat.le_trans hw1 (by simp)) _ rfl ?_; intro g1 cp1 w2 hown2 hgrow2 hat hlt2; have T2 := two_kty T1 ((KTy.alloc _ w1 _).trans (KTy.grown (hrow1.alloc _) hgrow2 (by decide))); have d0x := T2.cell0; have f0 := T2.frozen0 0))
    all_goals go_wp2
    all_goals go_meet
    all_goals exact ⟨rfl, mid_of h1 h2 h3 h4 h5 hb1 ho1 hown2 hgrow2⟩
  case rest =>
    obtain ⟨rfl, hM⟩ := hcut
    have HM : Hid (Mid base w wc kb vC Z L) := hM
    obtain ⟨v', vs', m1, m3, m4, m5, mb⟩ := hM
    have c1 := m1.cell1
    have hwc : base ≤ wc.heap.size := by have := m1.lt; omega
    have T1 : Hid (Two (wc.alloc (.cells #[.int .i64 x] 3)) kb 48 v' vC) := two_kty m1 (KTy.alloc _ _ _)
    have M4 : Hid (wc.ownsRow base 3 1 vC Z.length (cntV Z)) := m4
    clear m1 m3 m4 m5 mb d0 d1 h1 h3 h4 h5
    go_wp2_with (at_builtin; refine wpList_append_own _ rfl _ _ 25 rfl base 3 j0 (.int .i64 0) 1 8 Try.underlying25 hj jz0 jz1 jz2 rfl (by decide) _ _ _ rfl (M4.out.alloc _) ⟨wc.heap.size, 0, none⟩ 1 1 [.int .i64 x] rfl rfl (cellK_new _ _ _) (by simp [Value.oneCell']) (by unfold maxLen; omega) (by omega) (Nat.le_trans hwc (by simp)) ?_; intro v2 w2 hown2 hgrow2 _; obtain ⟨g2, cp2, rfl⟩ := ownsRow_two hown2; have T2 := two_kty T1.out (KTy.grown (M4.out.alloc _) hgrow2 (by decide)); have e1 := T2.cell1; have f1 := T2.frozen0 1)
    go_end0
    exact ⟨⟨_, rfl⟩, kp_of h2 HM.out hown2 hgrow2⟩
end Go.Proofs.Ytjkncajcmdlmgaa
