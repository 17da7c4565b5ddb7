/-
  PROVED HERE: what begin, add and Add of package intern do when they are called (contracts over this translation). Tables of at most 64 places, labels of at most 65536 pairs.
-/
import Derived.Test.YtjkncajcmdlmgaaItn9
namespace Go.Proofs.Ytjkncajcmdlmgaa
open Go.ChangeShapes Go.WideShapes Go.ChangeAt Go.RowKit
set_option linter.unusedVariables false

theorem two_inj {W : World} {b : Nat} {t : TypeId} {u v u' v' : Value} (h : Two W b t u v) (h' : Two W b t u' v') : u = u' ∧ v = v' := by
  have e : some (Obj.cells #[u, v] t (0, 0)) = some (Obj.cells #[u', v'] t (0, 0)) := (show W.heap[b]? = _ from h).symm.trans h'
  simp at e
  exact e
/-- A label of a keeper's is stored. -/
theorem Kp.lab1 {base : Nat} {w : World} {kb : Nat} {Z : Zt} (hK : Kp base w kb Z) {i : Nat} (hi : i < Z.length) :
    ∃ g c vC ov, Two w kb 48 (.slice (some ⟨g, 0, none⟩) Z.length c) vC ∧ w.cell? ⟨g, i, none⟩ = some ov ∧ w.frozen? ⟨g, i, none⟩ = false ∧ (Z.length ≤ c ∧ c ≤ 9223372036854775807) ∧ (base ≤ g ∧ g ≠ kb) ∧
      ∀ a k e L, LabT w a k e L → Kp base (w.setCell ⟨g, i, none⟩ (.slice a k e)) kb (Z.set i (L, (zat Z i).2)) ∧ Below base w (w.setCell ⟨g, i, none⟩ (.slice a k e)) := by
  obtain ⟨vL, vC, vs, h1, h2, h3, h4, h5⟩ := hK
  obtain ⟨g, c, rfl⟩ := ownsRow_pos (by omega) h3
  have hlt := h3.lt g rfl
  have hg : ∃ cur, w.heap[g]? = some (.cells cur 29 (0, 0)) := by
    rcases h3.2 with ⟨e, _⟩ | ⟨g', cap', cur, e, _, hgb, _⟩
    · cases e
    · cases e; exact ⟨cur, hgb⟩
  have hcap : Z.length ≤ c ∧ c ≤ 9223372036854775807 := by
    rcases h3.2 with ⟨e, _⟩ | ⟨g', cap', cur, e, _, hgb, q1, q2, _⟩
    · cases e
    · cases e; exact ⟨q1, by unfold maxLen at q2; omega⟩
  obtain ⟨cur, hg⟩ := hg
  obtain ⟨a0, k0, c0, q1, q2⟩ := h5 i hi
  have hvl : vs.length = Z.length := by have := h3.1; omega
  have hne : g ≠ kb := by
    intro e
    rw [e, show w.heap[kb]? = _ from h1] at hg
    cases hg
  refine ⟨g, c, vC, .slice a0 k0 c0, h1, ?_, h3.frozenAt i, hcap, ⟨hlt.1, hne⟩, fun a k e L hL => ⟨⟨_, vC, vs.set i (.slice a k e), two_kty h1 (KTy.set hg _ (by decide)), h2, ?_, ?_, fun j hj => ?_⟩, (Below.refl _ w).setCell (p := ⟨g, i, none⟩) hlt.1 _⟩⟩
  · rw [h3.cellAt i (by omega), q1]
  · rw [List.length_set]; exact (h3.stored i (.slice a k e)).1
  · rw [List.length_set]
    have e2 : cntV (Z.set i (L, (zat Z i).2)) = cntV Z := by
      rw [cntV_set]
      apply List.ext_getElem?
      intro j
      rw [List.getElem?_set]
      by_cases hj : i = j
      · subst hj
        rw [if_pos rfl, cntV_at hi, if_pos (by unfold cntV; simpa using hi)]
      · rw [if_neg hj]
    rw [e2]; exact ownsRow_kty h4 (KTy.set hg _ (by decide))
  · rw [List.length_set] at hj
    by_cases hji : i = j
    · subst hji
      refine ⟨a, k, e, by rw [List.getElem?_set_self (by omega)], ?_⟩
      rw [zat_set, if_pos ⟨rfl, hj⟩]
      exact hL.kty (KTy.set hg _ (by decide))
    · obtain ⟨a1, k1, c1, r1, r2⟩ := h5 j hj
      refine ⟨a1, k1, c1, by rw [List.getElem?_set_ne hji]; exact r1, ?_⟩
      rw [zat_set, if_neg (by omega)]
      exact r2.kty (KTy.set hg _ (by decide))
theorem cell_set_ne {W : World} {b i g j : Nat} {u : Value} (hne : g ≠ b) : (W.setCell ⟨g, j, none⟩ u).cell? ⟨b, i, none⟩ = W.cell? ⟨b, i, none⟩ := World.cell?_of_block (w := W) (a := ⟨b, i, none⟩) (Below.heap_setCell _ _ _ _ (fun e => hne e.symm))
theorem putAt_nil {Z : Zt} {x y : List (Int × Int) × Int} : (Z ++ [x]).set Z.length y = putAt Z Z.length y := by
  unfold putAt; rw [if_pos rfl, List.set_append_right _ _ (Nat.le_refl _)]; simp
theorem putAt_set {Z : Zt} {i : Nat} {y : List (Int × Int) × Int} (h : i < Z.length) : Z.set i y = putAt Z i y := by
  unfold putAt; rw [if_neg (by omega)]
theorem frozen_set_ne {W : World} {b i g j : Nat} {u : Value} (hne : g ≠ b) : (W.setCell ⟨g, j, none⟩ u).frozen? ⟨b, i, none⟩ = W.frozen? ⟨b, i, none⟩ := by
  have h := Below.heap_setCell W ⟨g, j, none⟩ u b (fun e => hne e.symm)
  simp only [World.frozen?, h]
/-- A label and a count of a keeper's are stored, one behind the other. -/
theorem Kp.place {base : Nat} {w : World} {kb : Nat} {Z : Zt} (hK : Kp base w kb Z) {i : Nat} (hi : i < Z.length) :
    ∃ g c g' c', Two w kb 48 (.slice (some ⟨g, 0, none⟩) Z.length c) (.slice (some ⟨g', 0, none⟩) Z.length c') ∧ ((Z.length ≤ c ∧ c ≤ 9223372036854775807) ∧ Z.length ≤ c' ∧ c' ≤ 9223372036854775807) ∧ (g ≠ kb ∧ g' ≠ kb) ∧
      ∀ w1, Below w.heap.size w w1 → ∃ ov, w1.cell? ⟨g, i, none⟩ = some ov ∧ w1.frozen? ⟨g, i, none⟩ = false ∧ (∀ u, (w1.setCell ⟨g, i, none⟩ u).cell? ⟨g', i, none⟩ = some (.int .i64 (zat Z i).2) ∧ (w1.setCell ⟨g, i, none⟩ u).frozen? ⟨g', i, none⟩ = false) ∧
        ∀ a k e L x, LabT w1 a k e L → Kp base ((w1.setCell ⟨g, i, none⟩ (.slice a k e)).setCell ⟨g', i, none⟩ (.int .i64 x)) kb (Z.set i (L, x)) ∧ Below base w ((w1.setCell ⟨g, i, none⟩ (.slice a k e)).setCell ⟨g', i, none⟩ (.int .i64 x)) := by
  have hlt := hK.lt
  obtain ⟨g, c, vC, ov, t1, _, _, b1, ⟨_, n1⟩, _⟩ := hK.lab1 hi
  obtain ⟨vL, g', c', t2, _, _, b2, _, _⟩ := hK.count hi 0
  obtain ⟨rfl, rfl⟩ := two_inj t1 t2
  have gg : ∀ {W : World} {n : Nat} {v v2 : Value} {xs ys : List Value}, W.ownsRow base 29 1 (.slice (some ⟨g, 0, none⟩) n c) n xs → W.ownsRow base 3 1 (.slice (some ⟨g', 0, none⟩) n c') n ys → g ≠ g' := by
    intro W n v v2 xs ys r1 r2 e
    subst e
    rcases r1.2 with ⟨q, _⟩ | ⟨q1, q2, q3, q, _, q5, _⟩
    · cases q
    · cases q
      rcases r2.2 with ⟨q, _⟩ | ⟨q1, q2, q3, q, _, q6, _⟩
      · cases q
      · cases q; rw [q5] at q6; cases q6
  have hgg : g ≠ g' := by
    obtain ⟨vL, vC, vs, h1, h2, h3, h4, h5⟩ := hK
    obtain ⟨rfl, rfl⟩ := two_inj h1 t1
    exact gg (v := .bool true) (v2 := .bool true) h3 h4
  have n2 : g' ≠ kb := by
    obtain ⟨vL, vC, vs, h1, h2, h3, h4, h5⟩ := hK
    obtain ⟨rfl, rfl⟩ := two_inj h1 t1
    intro e
    subst e
    rcases h4.2 with ⟨q, _⟩ | ⟨q1, q2, q3, q, _, q5, _⟩
    · cases q
    · cases q; rw [show w.heap[g']? = _ from h1] at q5; cases q5
  refine ⟨g, c, g', c', t1, ⟨b1, b2⟩, ⟨n1, n2⟩, fun w1 hb => ?_⟩
  have hK1 := hK.next hb
  obtain ⟨g2, c2, vC2, ov2, s1, s2, s3, _, _, s4⟩ := hK1.lab1 hi
  obtain ⟨e1, e2⟩ := two_inj (two_kty t1 (KTy.below hb)) s1
  cases e1
  obtain ⟨vL3, g3, c3, r1, r2, r3, _, _, _⟩ := hK1.count hi 0
  obtain ⟨e1', e2'⟩ := two_inj (two_kty t1 (KTy.below hb)) r1
  cases e2'
  refine ⟨ov2, s2, s3, fun u => ⟨(cell_set_ne hgg).trans r2, (frozen_set_ne hgg).trans r3⟩, fun a k e L x hL => ?_⟩
  obtain ⟨k1, k2⟩ := s4 a k e L hL
  obtain ⟨vL4, g4, c4, u1, u2, u3, _, u4, u5⟩ := k1.count (i := i) (by rw [List.length_set]; exact hi) x
  have hgw := (Array.getElem?_eq_some_iff.1 (show w1.heap[kb]? = _ from s1)).1
  obtain ⟨e3, e4⟩ := two_inj (W := w1.setCell ⟨g, i, none⟩ (.slice a k e)) ((Below.heap_setCell _ _ _ _ (fun q => n1 q.symm)).trans s1) u1
  rw [← e2, List.length_set] at e4
  cases e4
  have hz : (zat (Z.set i (L, (zat Z i).2)) i).1 = L := by rw [zat_set, if_pos ⟨rfl, hi⟩]
  rw [hz, List.set_set] at u4
  exact ⟨u4, ((hb.mono (by omega)).trans k2).trans u5⟩

set_option maxRecDepth 100000 in
set_option maxHeartbeats 4000000 in
theorem begin_any {base : Nat} {w : World} {kb : Nat} {Z : Zt} {a : Option Addr} {k c : Nat} {L : List (Int × Int)} (hK : Kp base w kb Z) (hn : Z.length ≤ 64) (hL : Lab base w a k c L) (hk : k ≤ 65536) :
    Calls Try.prog 20 #[.pointer (some ⟨kb, 0, none⟩), .slice a k c] w fun e w' => Below base w w' ∧
      ((free Z = 64 ∧ e = .returned (.tuple #[.int .i64 0, .int .i64 6]) ∧ Kp base w' kb Z) ∨
       (free Z ≠ 64 ∧ e = .returned (.tuple #[.int .i64 (free Z), .int .i64 0]) ∧ Kp base w' kb (putAt Z (free Z) (L, 1)))) := by
  have hfl := free_le Z
  have hbs := hK.lt
  have HK : Hid (Kp base w kb Z) := hK
  obtain ⟨a1, c1, a1', c1', hTw, hT⟩ := hK.tab
  have d1 := hTw.cell1
  clear hK hTw hT
  by_cases h64 : (64 : Int) ≤ ((free Z : Nat) : Int)
  · have h64' : free Z = 64 := by omega
    go_enter Try.func20, Try.ntmps20
    go_wp2_with (go_at_call 27; refine (free_any HK.out).mono ?_; rintro e w1 ⟨rfl, hb1⟩)
    go_ret2
    exact ⟨hb1.mono (by omega), .inl ⟨h64', rfl, HK.out.next hb1⟩⟩
  have h64' : Hid (free Z ≠ 64) := by unfold Hid; omega
  obtain ⟨i, hi⟩ : ∃ i, Hid (free Z = i) := ⟨_, rfl⟩
  rw [hi.out] at h64 h64' hfl ⊢
  by_cases hfe : i = Z.length
  · subst hfe
    have hz : Hid ((Z ++ [([], 0)]).set Z.length (L, 1) = putAt Z Z.length (L, 1)) := putAt_nil
    have hil : Z.length < (Z ++ [([], 0)]).length := by simp
    have hlen : (Z ++ [([], (0 : Int))]).length ≤ 9223372036854775807 := by simp; omega
    obtain ⟨Z', hZ'⟩ : ∃ Z' : Zt, Hid (Z ++ [(([] : List (Int × Int)), (0 : Int))] = Z') := ⟨_, rfl⟩
    rw [hZ'.out] at hil hlen hz
    have hil' : ((Z.length : Nat) : Int) < ((Z'.length : Nat) : Int) := by omega
    go_enter Try.func20, Try.ntmps20
    go_wp2_with (first | (go_at_call 27; refine (free_any HK.out).mono ?_; rintro e w1 ⟨rfl, hb1⟩; rw [hi.out]; have d1' := (hb1.cell (p := ⟨kb, 1, none⟩) hbs.2).trans d1; have K1 : Hid (Kp base w1 kb Z) := HK.out.next hb1; have HB1 : Hid (Below base w w1) := hb1.mono (by omega)) | (go_at_call 17; refine (lay_any (x := 0) K1.out hn (Lab.nil _ _) (by omega)).mono ?_; rintro e w2 ⟨⟨v, rfl⟩, hk2, hb2⟩; rw [hZ'.out] at hk2))
    have HB2 : Hid (Below base w w2) := HB1.out.trans hb2
    have hlt2 := hk2.lt
    obtain ⟨g, cg, g', cg', hTw, ⟨⟨p1, p2⟩, p3, p4⟩, ⟨n1, n2⟩, hpl⟩ := hk2.place hil
    have HPL : Hid (∀ w1, Below w2.heap.size w2 w1 → ∃ ov, w1.cell? ⟨g, Z.length, none⟩ = some ov ∧ w1.frozen? ⟨g, Z.length, none⟩ = false ∧ (∀ u, (w1.setCell ⟨g, Z.length, none⟩ u).cell? ⟨g', Z.length, none⟩ = some (.int .i64 (zat Z' Z.length).2) ∧ (w1.setCell ⟨g, Z.length, none⟩ u).frozen? ⟨g', Z.length, none⟩ = false) ∧
        ∀ a k e L x, LabT w1 a k e L → Kp base ((w1.setCell ⟨g, Z.length, none⟩ (.slice a k e)).setCell ⟨g', Z.length, none⟩ (.int .i64 x)) kb (Z'.set Z.length (L, x)) ∧ Below base w2 ((w1.setCell ⟨g, Z.length, none⟩ (.slice a k e)).setCell ⟨g', Z.length, none⟩ (.int .i64 x))) := hpl
    have c0 := hTw.cell0
    have c1 := hTw.cell1
    have hLw : Lab w2.drew.heap.size w2.drew a k c L := (hL.later HB2.out).wide (show base ≤ w2.heap.size by omega)
    clear hpl hTw hk2 d1'
    go_region_held3 (fun w' => w'.cell? ⟨kb, 0, none⟩ = some (.slice (some ⟨g, 0, none⟩) Z'.length cg) ∧ w'.cell? ⟨kb, 1, none⟩ = some (.slice (some ⟨g', 0, none⟩) Z'.length cg')) (first | go_keep | (refine ⟨?_, ?_⟩ <;> simp only [cell_set_ne n1, cell_set_ne n2] <;> assumption)) (first | (go_at_call 23; refine (icopied_any (w := w2.drew) hLw (by omega)).mono ?_; rintro e w3 ⟨ao, cap, rfl, ho, hb3'⟩; have hb3 : Below w2.heap.size w2 w3 := (Below.refl _ w2).drew.trans hb3'; obtain ⟨ov, r1, r2, r3, r4⟩ := HPL.out w3 hb3; have e0 := (hb3.cell (p := ⟨kb, 0, none⟩) hlt2.2).trans c0; have e1 := (hb3.cell (p := ⟨kb, 1, none⟩) hlt2.2).trans c1; have r5 := (r3 (.slice ao k cap)).1; have r6 := (r3 (.slice ao k cap)).2; have R4 : Hid (Kp base ((w3.setCell ⟨g, Z.length, none⟩ (.slice ao k cap)).setCell ⟨g', Z.length, none⟩ (.int .i64 1)) kb (Z'.set Z.length (L, 1)) ∧ Below base w2 ((w3.setCell ⟨g, Z.length, none⟩ (.slice ao k cap)).setCell ⟨g', Z.length, none⟩ (.int .i64 1))) := r4 ao k cap L 1 ho.labT; clear r3 r4))
    go_wp2
    go_ret2
    exact ⟨HB2.out.trans R4.out.2, .inr ⟨h64'.out, rfl, by rw [← hz.out]; exact R4.out.1⟩⟩
  · have hil : i < Z.length := by omega
    have hz : Hid (Z.set i (L, 1) = putAt Z i (L, 1)) := putAt_set hil
    have hne : (((i : Nat) : Int) == ((Z.length : Nat) : Int)) = false := by simp; omega
    have hlen : Z.length ≤ 9223372036854775807 := by omega
    have hil' : (i : Int) < ((Z.length : Nat) : Int) := by omega
    go_enter Try.func20, Try.ntmps20
    go_wp2_with (go_at_call 27; refine (free_any HK.out).mono ?_; rintro e w2 ⟨rfl, hb1⟩; rw [hi.out]; have d1' := (hb1.cell (p := ⟨kb, 1, none⟩) hbs.2).trans d1; have HB2 : Hid (Below base w w2) := hb1.mono (by omega))
    have hk2 := HK.out.next hb1
    have hlt2 := hk2.lt
    obtain ⟨g, cg, g', cg', hTw, ⟨⟨p1, p2⟩, p3, p4⟩, ⟨n1, n2⟩, hpl⟩ := hk2.place hil
    have HPL : Hid (∀ w1, Below w2.heap.size w2 w1 → ∃ ov, w1.cell? ⟨g, i, none⟩ = some ov ∧ w1.frozen? ⟨g, i, none⟩ = false ∧ (∀ u, (w1.setCell ⟨g, i, none⟩ u).cell? ⟨g', i, none⟩ = some (.int .i64 (zat Z i).2) ∧ (w1.setCell ⟨g, i, none⟩ u).frozen? ⟨g', i, none⟩ = false) ∧
        ∀ a k e L x, LabT w1 a k e L → Kp base ((w1.setCell ⟨g, i, none⟩ (.slice a k e)).setCell ⟨g', i, none⟩ (.int .i64 x)) kb (Z.set i (L, x)) ∧ Below base w2 ((w1.setCell ⟨g, i, none⟩ (.slice a k e)).setCell ⟨g', i, none⟩ (.int .i64 x))) := hpl
    have c0 := hTw.cell0
    have c1 := hTw.cell1
    have hLw : Lab w2.drew.heap.size w2.drew a k c L := (hL.later HB2.out).wide (show base ≤ w2.heap.size by omega)
    clear hpl hTw hk2 d1'
    go_region_held3 (fun w' => w'.cell? ⟨kb, 0, none⟩ = some (.slice (some ⟨g, 0, none⟩) Z.length cg) ∧ w'.cell? ⟨kb, 1, none⟩ = some (.slice (some ⟨g', 0, none⟩) Z.length cg')) (first | go_keep | (refine ⟨?_, ?_⟩ <;> simp only [cell_set_ne n1, cell_set_ne n2] <;> assumption)) (first | (go_at_call 23; refine (icopied_any (w := w2.drew) hLw (by omega)).mono ?_; rintro e w3 ⟨ao, cap, rfl, ho, hb3'⟩; have hb3 : Below w2.heap.size w2 w3 := (Below.refl _ w2).drew.trans hb3'; obtain ⟨ov, r1, r2, r3, r4⟩ := HPL.out w3 hb3; have e0 := (hb3.cell (p := ⟨kb, 0, none⟩) hlt2.2).trans c0; have e1 := (hb3.cell (p := ⟨kb, 1, none⟩) hlt2.2).trans c1; have r5 := (r3 (.slice ao k cap)).1; have r6 := (r3 (.slice ao k cap)).2; have R4 : Hid (Kp base ((w3.setCell ⟨g, i, none⟩ (.slice ao k cap)).setCell ⟨g', i, none⟩ (.int .i64 1)) kb (Z.set i (L, 1)) ∧ Below base w2 ((w3.setCell ⟨g, i, none⟩ (.slice ao k cap)).setCell ⟨g', i, none⟩ (.int .i64 1))) := r4 ao k cap L 1 ho.labT; clear r3 r4))
    go_wp2
    go_ret2
    exact ⟨HB2.out.trans R4.out.2, .inr ⟨h64'.out, rfl, by rw [← hz.out]; exact R4.out.1⟩⟩

theorem addR_arg {Z : Zt} {L : List (Int × Int)} (h : keepB L = false) : addR Z L = (Z, 0, 4) := by unfold addR; rw [if_pos h]
theorem addR_full {Z : Zt} {L : List (Int × Int)} {i : Nat} (h : keepB L = true) (hf : fnd Z L = some i) (hc : (zat Z i).2 = 1073741824) : addR Z L = (Z, 0, 13) := by unfold addR; rw [if_neg (by simp [h]), hf]; simp [hc]
theorem addR_more {Z : Zt} {L : List (Int × Int)} {i : Nat} (h : keepB L = true) (hf : fnd Z L = some i) (hc : (zat Z i).2 ≠ 1073741824) : addR Z L = (Z.set i ((zat Z i).1, (zat Z i).2 + 1), (i : Int), 0) := by unfold addR; rw [if_neg (by simp [h]), hf]; simp [hc]
theorem addR_none {Z : Zt} {L : List (Int × Int)} (h : keepB L = true) (hf : fnd Z L = none) (hc : free Z = 64) : addR Z L = (Z, 0, 6) := by unfold addR; rw [if_neg (by simp [h]), hf]; simp [hc]
theorem addR_new {Z : Zt} {L : List (Int × Int)} (h : keepB L = true) (hf : fnd Z L = none) (hc : free Z ≠ 64) : addR Z L = (putAt Z (free Z) (L, 1), (free Z : Int), 0) := by unfold addR; rw [if_neg (by simp [h]), hf]; simp [hc]
set_option maxHeartbeats 1000000 in
theorem add_any {base : Nat} {w : World} {kb : Nat} {Z : Zt} {a : Option Addr} {k c : Nat} {L : List (Int × Int)} (hK : Kp base w kb Z) (hF : FitP Z) (hL : Lab base w a k c L) (hk : k ≤ 65536) :
    Calls Try.prog 12 #[.pointer (some ⟨kb, 0, none⟩), .slice a k c] w fun e w' => e = .returned (.tuple #[.int .i64 (addR Z L).2.1, .int .i64 (addR Z L).2.2]) ∧ Kp base w' kb (addR Z L).1 ∧ Below base w w' := by
  have hlt := hK.lt
  have hbs : base ≤ w.heap.size := by omega
  have hLw : Lab w.heap.size w a k c L := hL.wide hbs
  have hn := hF.len
  have HF : Hid (FitP Z) := hF
  clear hF
  have HK : Hid (Kp base w kb Z) := hK
  cases hkp : keepB L with
  | false =>
    rw [addR_arg hkp]
    go_enter Try.func12, Try.ntmps12
    go_wp2_with (go_at_call 18; refine (mayKeep_any hLw).mono ?_; rintro e w1 ⟨rfl, hb1⟩; rw [hkp])
    go_ret2
    exact ⟨rfl, HK.out.next hb1, hb1.mono hbs⟩
  | true =>
    obtain ⟨a1, c1, a1', c1', hTw, hT⟩ := hK.tab
    have d0 := hTw.cell0
    have d1 := hTw.cell1
    clear hTw hK
    cases hf : fnd Z L with
    | some i =>
      obtain ⟨hi, ⟨h0, hlb⟩, _⟩ := fnd_some.1 hf
      obtain ⟨s0, s1, _, _⟩ := HF.out.stand i hi
      have hN : Hid (fN Z L = ((i : Nat) : Int)) := by unfold Hid fN; rw [hf]; rfl
      have hFF : Hid (fF Z L = true) := by unfold Hid fF; rw [hf]; rfl
      go_enter Try.func12, Try.ntmps12
      go_wp2_with (first | (go_at_call 18; refine (mayKeep_any hLw).mono ?_; rintro e w1 ⟨rfl, hb1⟩; rw [hkp]; have e0 := (hb1.cell (p := ⟨kb, 0, none⟩) hlt.2).trans d0; have e1 := (hb1.cell (p := ⟨kb, 1, none⟩) hlt.2).trans d1) | (go_at_call 15; refine (find_any (hT.next hb1) (hLw.next hb1)).mono ?_; rintro e w2 ⟨rfl, hb2⟩; rw [hN.out, hFF.out]; have hb12 : Below w.heap.size w w2 := hb1.trans (hb2.mono hb1.size)) | (go_at_call 19; refine (again_any (HK.out.next hb12) hi s1 s0).mono ?_; rintro e w3 ⟨hb3, ⟨q1, rfl, q2⟩ | ⟨q1, rfl, q2⟩⟩))
      · go_ret2
        rw [addR_full hkp hf q1]
        exact ⟨rfl, q2, (hb12.mono hbs).trans hb3⟩
      · go_ret2
        rw [addR_more hkp hf q1]
        exact ⟨rfl, q2, (hb12.mono hbs).trans hb3⟩
    | none =>
      have hN : Hid (fN Z L = 0) := by unfold Hid fN; rw [hf]; rfl
      have hFF : Hid (fF Z L = false) := by unfold Hid fF; rw [hf]; rfl
      go_enter Try.func12, Try.ntmps12
      go_wp2_with (first | (go_at_call 18; refine (mayKeep_any hLw).mono ?_; rintro e w1 ⟨rfl, hb1⟩; rw [hkp]; have e0 := (hb1.cell (p := ⟨kb, 0, none⟩) hlt.2).trans d0; have e1 := (hb1.cell (p := ⟨kb, 1, none⟩) hlt.2).trans d1) | (go_at_call 15; refine (find_any (hT.next hb1) (hLw.next hb1)).mono ?_; rintro e w2 ⟨rfl, hb2⟩; rw [hN.out, hFF.out]; have hb12 : Below w.heap.size w w2 := hb1.trans (hb2.mono hb1.size)) | (go_at_call 20; refine (begin_any (HK.out.next hb12) hn (hL.later (hb12.mono hbs)) hk).mono ?_; rintro e w3 ⟨hb3, ⟨q1, rfl, q2⟩ | ⟨q1, rfl, q2⟩⟩))
      · go_ret2
        rw [addR_none hkp hf q1]
        exact ⟨rfl, q2, (hb12.mono hbs).trans hb3⟩
      · go_ret2
        rw [addR_new hkp hf q1]
        exact ⟨rfl, q2, (hb12.mono hbs).trans hb3⟩
end Go.Proofs.Ytjkncajcmdlmgaa
