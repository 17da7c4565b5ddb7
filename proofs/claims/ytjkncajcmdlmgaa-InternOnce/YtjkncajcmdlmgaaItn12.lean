/-
  PROVED HERE: what shorten of package intern does when it is called (a contract over this translation). Tables of at most 64 places, labels of at most 65536 pairs.
-/
import Derived.Test.YtjkncajcmdlmgaaItn11
import Derived.ControlIn
namespace Go.Proofs.Ytjkncajcmdlmgaa
open Go.RowKit Go.Shelf
set_option linter.unusedVariables false
attribute [local go_sem] Oper.semAt_some

/-- One behind the last of some places. -/
def lastE (pre : List Nat) : Nat := match pre.getLast? with
  | none => 0
  | some x => x + 1
theorem lastE_snoc (pre : List Nat) (x : Nat) : lastE (pre ++ [x]) = x + 1 := by unfold lastE; simp
theorem lastE_askd (Z : Zt) : lastE (askd Z) = endOf Z := by
  refine (endOf_of ?_ ?_).symm
  · intro j hj hl
    rcases List.eq_nil_or_concat (askd Z) with h | ⟨pre, x, h⟩
    · cases hz : decide ((zat Z j).2 = 0) with
      | true => simpa using hz
      | false => have := askd_mem.2 ⟨hl, by simpa using hz⟩; rw [h] at this; simp at this
    · have h' : askd Z = pre ++ [x] := by simpa using h
      rw [h', lastE_snoc] at hj
      obtain ⟨_, _, _, h4⟩ := askd_split (Z := Z) (pre := pre) (x := x) (by rw [h']; exact List.prefix_refl _)
      cases hz : decide ((zat Z j).2 = 0) with
      | true => simpa using hz
      | false =>
        have hm := askd_mem.2 ⟨hl, (by simpa using hz : (zat Z j).2 ≠ 0)⟩
        rw [h'] at hm
        simp at hm
        rcases hm with hm | hm
        · have := h4 j hm; omega
        · omega
  · intro hp
    rcases List.eq_nil_or_concat (askd Z) with h | ⟨pre, x, h⟩
    · rw [h] at hp; simp [lastE] at hp
    · have h' : askd Z = pre ++ [x] := by simpa using h
      obtain ⟨_, h2, _, _⟩ := askd_split (Z := Z) (pre := pre) (x := x) (by rw [h']; exact List.prefix_refl _)
      rw [h', lastE_snoc]; exact h2
theorem KTy.put {t : TypeId} {W : World} {D : Nat} {o o' : Obj} (h : W.heap[D]? = some o) (hc : o.isCells = false) : KTy t W (W.putObj D o') := by
  refine ⟨(grownBy_putObj' W D o').size, fun b cs tg e => (World.putObj_heap_other ?_).trans e⟩
  intro hb
  subst hb
  rw [e] at h
  cases h
  cases hc
/-- A keeper takes over another's table. -/
theorem Kp.over {base : Nat} {w w3 : World} {kb kb2 : Nat} {Z : Zt} {u v a b : Value} {B : Nat} (h : Kp B w3 kb2 Z) (hTw : Two w3 kb2 48 a b) (hR : Two w3 kb 48 u v) (hb : Below base w w3) (hrb : base ≤ kb) (hB : base ≤ B) (hne : kb ≠ kb2) :
    Kp base ((w3.setCell ⟨kb, 0, none⟩ a).setCell ⟨kb, 1, none⟩ b) kb Z ∧ Below base w ((w3.setCell ⟨kb, 0, none⟩ a).setCell ⟨kb, 1, none⟩ b) := by
  have r1 := hR.set0 a
  have k : ∀ t, t ≠ 48 → KTy t w3 ((w3.setCell ⟨kb, 0, none⟩ a).setCell ⟨kb, 1, none⟩ b) := fun t ht => (KTy.set hR _ ht).trans (KTy.set r1 _ ht)
  obtain ⟨vL, vC, vs, h1, h2, h3, h4, h5⟩ := h
  obtain ⟨rfl, rfl⟩ := two_inj h1 hTw
  refine ⟨⟨vL, vC, vs, r1.set1 _, hrb, ?_, ?_, fun i hi => ?_⟩, (hb.setCell (p := ⟨kb, 0, none⟩) hrb _).setCell (p := ⟨kb, 1, none⟩) hrb _⟩
  · have := ownsRow_kty h3 (k _ (by decide))
    exact ⟨this.1, this.2.imp id (fun ⟨g, cap, cur, e1, e2, e3⟩ => ⟨g, cap, cur, e1, by omega, e3⟩)⟩
  · have := ownsRow_kty h4 (k _ (by decide))
    exact ⟨this.1, this.2.imp id (fun ⟨g, cap, cur, e1, e2, e3⟩ => ⟨g, cap, cur, e1, by omega, e3⟩)⟩
  · obtain ⟨x, y, z, q1, q2⟩ := h5 i hi
    exact ⟨x, y, z, q1, q2.kty (k _ (by decide))⟩

set_option maxRecDepth 100000 in
set_option maxHeartbeats 2000000 in
theorem shorten_any {base : Nat} {w : World} {kb : Nat} {Z : Zt} (hK : Kp base w kb Z) (hn : Z.length ≤ 64) (hs : ∀ i, (zat Z i).1.length ≤ 65536) :
    Calls Try.prog 22 #[.pointer (some ⟨kb, 0, none⟩)] w fun e w' => (∃ v, e = .returned v) ∧ Kp base w' kb (trim Z) ∧ Below base w w' := by
  have hlt := hK.lt
  have hbs : base ≤ w.heap.size := by omega
  obtain ⟨a, c, a', c', hTw, hT⟩ := hK.tab
  have d0 := hTw.cell0
  have d1 := hTw.cell1
  obtain ⟨r, hr⟩ := TabD.lie hT
  have hel := endOf_le Z
  refine (callsIn_wide (n := 5)).1 ?_
  refine callsIn_of_wp_marks Try.func22 rfl trivial ?_ rfl
  simp only [Try.ntmps22, List.size_toArray, List.length_cons, List.length_nil, Nat.reduceAdd, Nat.reduceSub, Array.replicate_succ, Array.replicate_zero, List.push_toArray, List.append_toArray, List.nil_append, List.cons_append]
  gi_wp2_with (refine ⟨trivial, ?_⟩; gi_at_call 24; refine (callsIn_wide.2 (asked_any _ _ _ _ _ _ _)).mono ?_; rintro e w' ⟨rfl, rfl⟩)
  have b1 := (Boxed.new w 3 (.int .i64 0)).alloc (.cells #[.slice a Z.length c, .slice a' Z.length c'] 27)
  have b4 := Two.new (w.alloc (.cells #[.int .i64 0] 3)) 27 (.slice a Z.length c) (.slice a' Z.length c')
  simp only [World.size_alloc] at b4
  have hB0 : Below w.heap.size w ((w.alloc (.cells #[.int .i64 0] 3)).alloc (.cells #[.slice a Z.length c, .slice a' Z.length c'] 27)) := ((Below.refl _ w).alloc (Nat.le_refl _) _).alloc (by simp) _
  have hsz : ((w.alloc (.cells #[.int .i64 0] 3)).alloc (.cells #[.slice a Z.length c, .slice a' Z.length c'] 27)).heap.size = w.heap.size + 2 := by simp
  obtain ⟨W0, hW0⟩ : ∃ W0, (w.alloc (.cells #[.int .i64 0] 3)).alloc (.cells #[.slice a Z.length c, .slice a' Z.length c'] 27) = W0 := ⟨_, rfl⟩
  rw [hW0] at b1 b4 hB0 hsz ⊢
  clear hW0
  have hT0 := (hT.later (keeps_of_below hB0)).wide (D' := fun b => b < w.heap.size ∨ b = w.heap.size + 1) (fun b hb => .inl hb)
  have hr0 : Lie (fun b => b < w.heap.size ∨ b = w.heap.size + 1) W0 a Z.length Z r := ⟨fun i => ((hr.1 i).later (keeps_of_below hB0)).wide (fun b hb => .inl hb), fun b off e i hi => by
    obtain ⟨b2, off2, e2, hb2, _⟩ := hT.1.2.2.2 (by omega)
    have := hr.2 b off e i hi
    rw [e] at e2; cases e2
    exact (hB0.cell (p := ⟨b, off + i, none⟩) hb2).trans this⟩
  have hw0 : wrap64 (((lastE [] : Nat) : Nat) : Int) = 0 := by simp [lastE, wrap64]
  refine wpIn_rangeFunc_ownH rfl (by omega) (gf := 28) (lb := #[.pointer (some ⟨w.heap.size + 1, 0, none⟩)]) rfl trivial (enters_of Try.func28 (by kernel_rfl) rfl)
    (asked_stops _ (by omega) (w.heap.size + 1) (fun b => b < w.heap.size ∨ b = w.heap.size + 1) r W0 (fun b hb => by omega) (.inr rfl) b4 hT0 hr0) keepsK_t (keepsK_b (fun b hb => by omega)) (Below.refl _ _) (fun _ => rfl)
    (fun pre W => Boxed W w.heap.size 3 (.int .i64 (wrap64 ((lastE pre : Nat) : Int))) ∧ Below w.heap.size w W)
    (fun cd pre W => False ∧ Below w.heap.size w W)
    (OwnFrom.and (Own.from (boxed_own _ _ _) _) (ownFrom_below (Nat.le_refl _) (by omega)))
    (fun cd => OwnFrom.and (ownFrom_pure _ _) (ownFrom_below (Nat.le_refl _) (by omega)))
    ⟨by rw [hw0]; exact b1, hB0⟩
    (fun x a2 W => a2 = { tmps := #[.pointer (some ⟨kb, 0, none⟩), undef, .pointer (some ⟨w.heap.size, 0, none⟩), .int .i64 (x : Nat), .pointer (some ⟨kb, 0, none⟩), .pointer (some ⟨kb, 0, none⟩), .pointer (some ⟨kb, 0, none⟩), .agg #[.slice a Z.length c, .slice a' Z.length c'], .func (.func 28) #[] #[.pointer (some ⟨w.heap.size + 1, 0, none⟩)], .int .i64 (x : Nat), .slice (r x).1 (r x).2.1 (r x).2.2, undef, undef, undef, undef, undef, undef, undef, undef, undef, undef, undef, undef], defers := [] })
    (fun x a2 _ X Y row hs hg hr => hs)
    ?assign ?body ?done ?stop
  case assign =>
    rintro l pre x W K hI hK
    dsimp only [encA]
    gi_wp2
    exact hK _ _ (KeepsFrom.refl _ _) (Keeps.refl _ _) hI (by simp)
  case body =>
    rintro l pre x a2 W hl ⟨r2, hr2⟩ ⟨dd, hB1⟩ rfl hlt2
    have c1 := dd.cell
    have f1 := dd.frozen
    have hlW : l < W.heap.size := (Array.getElem?_eq_some_iff.1 hr2).1
    have hw : Hid (((x : Nat) : Int) + 1 = ((lastE (pre ++ [x]) : Nat) : Int)) := by unfold Hid; rw [lastE_snoc]; omega
    gi_wp2
    exact ⟨(KeepsOthers.setCell _ _ _).from _, ⟨by simp, fun b hb => Below.heap_setCell _ _ _ _ (by show b ≠ w.heap.size; omega)⟩, by rw [← hw.out]; exact dd.set _, hB1.setCell (p := ⟨w.heap.size, 0, none⟩) (Nat.le_refl _) _⟩
  case done =>
    rintro D ys W hD rfl ⟨dd, hB⟩ hK'
    have he : wrap64 ((lastE (askd Z) : Nat) : Int) = ((endOf Z : Nat) : Int) := by rw [lastE_askd]; unfold wrap64; omega
    rw [he] at dd
    have c1 := dd.cell
    have e0 := (hB.cell (p := ⟨kb, 0, none⟩) hlt.2).trans d0
    have e1 := (hB.cell (p := ⟨kb, 1, none⟩) hlt.2).trans d1
    clear he d0 d1
    gi_wp2
    refine wpIn_wide.2 ?_
    refine wp_region_noPanic ?_
    go_region_law (first | (go_simp; go_at_call 10; refine (keep_any (w := W.drew) (endOf Z) (hT.next hB.drew) hel (by omega) hs).mono ?_; rintro e w2 ⟨kb2, rfl, hk2, hb2⟩; obtain ⟨a2, c2, a2', c2', hTw2, hT2⟩ := hk2.tab; have g0 := hTw2.cell0; have g1 := hTw2.cell1; have T1 : Two w2 kb 48 (.slice a Z.length c) (.slice a' Z.length c') := (hb2.block kb (Nat.lt_of_lt_of_le hlt.2 hB.size)).trans ((hB.block kb hlt.2).trans hTw); have h0 := T1.cell0; have h1 := T1.cell1; have i0 := T1.frozen0 0; have i1 := T1.frozen0 1))
    all_goals refine NoPanic.normal ?_
    all_goals
      have hDW : D < W.heap.size := (Array.getElem?_eq_some_iff.1 hK').1
      have hne : kb ≠ kb2 := by have h1 := hk2.lt.1; have h2 : W.drew.heap.size = W.heap.size := rfl; have h3 := hB.size; omega
      have hw2 : Below base w w2 := (hB.mono hbs).drew.trans (hb2.mono (Nat.le_trans hbs hB.size))
      obtain ⟨q1, q2⟩ := hk2.over hTw2 T1 hw2 hlt.1 (Nat.le_trans hbs hB.size) hne
      have hK2 : ((w2.setCell ⟨kb, 0, none⟩ (.slice a2 (Z.take (endOf Z)).length c2)).setCell ⟨kb, 1, none⟩ (.slice a2' (Z.take (endOf Z)).length c2')).heap[D]? = some (.deferred (some [])) :=
        (Below.heap_setCell _ _ _ _ (by show D ≠ kb; omega)).trans ((Below.heap_setCell _ _ _ _ (by show D ≠ kb; omega)).trans ((hb2.block D hDW).trans hK'))
      have hlen : (Z.take (endOf Z)).length = endOf Z := by rw [List.length_take]; omega
      rw [hlen] at hK2 q1 q2
      refine ⟨by simp, .inl ⟨_, _, rfl, run_takeDeferred hK2, ?_⟩⟩
      refine ⟨_, results_none rfl _ _ _, ⟨_, rfl⟩, q1.kty (fun t _ => KTy.put hK2 rfl), q2.trans (belowK_b (w := w) hbs _ D _ _ (by omega) hK2 rfl rfl)⟩
  case stop =>
    rintro D cd pre W hD hpre ⟨h, _⟩ hK
    exact h.elim
end Go.Proofs.Ytjkncajcmdlmgaa
