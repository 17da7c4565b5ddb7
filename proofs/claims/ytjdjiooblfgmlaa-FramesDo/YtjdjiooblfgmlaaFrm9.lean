/-
  PROVED HERE: what package frames' once and Fit return when they are called (contracts over this translation). No condition.
-/
import Derived.Test.YtjdjiooblfgmlaaFrmM
namespace Go.Proofs.Ytjdjiooblfgmlaa
open Go.RowKit Go.Shelf
set_option linter.unusedVariables false
attribute [local go_sem] Oper.semAt_some

namespace Frm
theorem hitK_filter {P : Fr → Bool} {L : List Fr} {k : Nat} (hk : k ≤ L.length) : (hitK P L k).map (fat L) = (L.take k).filter P := by
  induction k with
  | zero => simp [hitK]
  | succ k ih =>
    have e : L.take (k + 1) = L.take k ++ [fat L k] := by
      rw [List.take_succ_eq_append_getElem (by omega)]; unfold fat; rw [List.getD_eq_getElem?_getD, List.getElem?_eq_getElem (by omega)]; rfl
    rw [e, List.filter_append, ← ih (by omega)]
    cases hz : P (fat L k) with
    | false => rw [hitK_miss hz]; simp [hz]
    | true => rw [hitK_hit hz]; simp [hz]
theorem hits_filter (P : Fr → Bool) (L : List Fr) : (hits P L).map (fat L) = L.filter P := by
  unfold hits; rw [hitK_filter (Nat.le_refl _), List.take_length]
theorem inj_of_pw {α β : Type} {f : α → β} {l : List α} (h : l.Pairwise fun a b => f a ≠ f b) {a b : α} (ha : a ∈ l) (hb : b ∈ l) (e : f a = f b) : a = b := by
  induction l with
  | nil => cases ha
  | cons x r ih =>
    obtain ⟨h1, h2⟩ := List.pairwise_cons.1 h
    rcases List.mem_cons.1 ha with ha' | ha'
    · rcases List.mem_cons.1 hb with hb' | hb'
      · rw [ha', hb']
      · rw [ha'] at e; exact absurd e (h1 b hb')
    · rcases List.mem_cons.1 hb with hb' | hb'
      · rw [hb'] at e; exact absurd e.symm (h1 a ha')
      · exact ih h2 ha' hb'
/-- The frames at some places. -/
def frs (L : List Fr) (ks : List Nat) : List Fr := ks.map fun i => fat L (ix L i)
theorem frs_hits (P : Fr → Bool) (L : List Fr) : frs L (hits P L) = L.filter P := by
  rw [← hits_filter]
  unfold frs
  exact List.map_congr_left fun k hk => by rw [ix_lt (hits_lt hk)]
theorem once_yes {L : List Fr} (h : (frs L (hits nfB L)).Nodup) : onceB L = true := by
  unfold onceB; rw [← frs_hits]; simpa using h
theorem once_no {L : List Fr} {pre : List Nat} (hp : pre <+: hits nfB L) (h : ¬ (frs L pre).Nodup) : onceB L = false := by
  unfold onceB; rw [← frs_hits, decide_eq_false_iff_not]
  intro hn
  obtain ⟨t, ht⟩ := hp
  rw [← ht] at hn
  unfold frs at hn h
  rw [List.map_append] at hn
  exact h (List.nodup_append.1 hn).1
theorem once_iff {L : List Fr} : onceB L = true ↔ ∀ i j, i < L.length → j < L.length → nfB (fat L i) = true → fat L i = fat L j → i = j := by
  unfold onceB
  rw [← hits_filter, decide_eq_true_iff]
  unfold List.Nodup
  rw [List.pairwise_map]
  constructor
  · intro h i j hi hj hn e
    exact inj_of_pw h (hits_mem.2 ⟨hi, hn⟩) (hits_mem.2 ⟨hj, by rw [← e]; exact hn⟩) e
  · intro h
    refine List.Pairwise.imp_of_mem (fun {a b} ha hb hab => ?_) hits_sorted
    intro e
    have := h a b (hits_lt ha) (hits_lt hb) (hits_mem.1 ha).2 e
    omega
theorem poB_iff {o p : Int} {f : Fr} : poB o p f = true ↔ nfB f = true ∧ f = (o, p) := by
  obtain ⟨x, y⟩ := f
  unfold poB hdB nfB
  simp [Prod.ext_iff, and_assoc]
theorem fF_false {P : Fr → Bool} {L : List Fr} : fF P L = false ↔ ∀ i, i < L.length → P (fat L i) = false := by
  rw [← fst_none]; unfold fF; simp
/-- Frames that are fit, told by their places. -/
def Fits (L : List Fr) : Prop := L.length ≤ 4096 ∧ (∀ i, i < L.length → wrB (fat L i) = false) ∧ ∀ i j, i < L.length → j < L.length → nfB (fat L i) = true → fat L i = fat L j → i = j
theorem fit_iff {L : List Fr} : fitB L = true ↔ Fits L := by
  unfold fitB
  simp only [Bool.and_eq_true, decide_eq_true_iff, List.all_eq_true, List.mem_range]
  unfold Fits
  refine and_congr_right fun _ => ⟨fun h => ⟨fun i hi => ?_, fun i j hi hj hn e => ?_⟩, fun ⟨h1, h2⟩ i hi => ?_⟩
  · have := h i hi
    unfold okAt at this
    simp at this
    exact this.1
  · have key : ∀ i j, i < j → i < L.length → j < L.length → nfB (fat L i) = true → fat L i = fat L j → False := by
      intro i j hij hi hj hn e
      have := h j hj
      unfold okAt at this
      simp only [Bool.and_eq_true, beq_iff_eq] at this
      have h2 := this.2
      cases hf : fst (poB (fat L j).1 (fat L j).2) L with
      | none =>
        have h3 := fst_none.1 hf i hi
        have h4 : poB (fat L j).1 (fat L j).2 (fat L i) = true := poB_iff.2 ⟨hn, e⟩
        rw [h4] at h3; cases h3
      | some k =>
        rw [hf] at h2
        simp at h2
        subst h2
        have h3 := (fst_some.1 hf).2.2 i hij
        have h4 : poB (fat L k).1 (fat L k).2 (fat L i) = true := poB_iff.2 ⟨hn, e⟩
        rw [h4] at h3; cases h3
    rcases Nat.lt_trichotomy i j with hij | hij | hij
    · exact (key i j hij hi hj hn e).elim
    · exact hij
    · exact (key j i hij hj hi (by rw [← e]; exact hn) e.symm).elim
  · unfold okAt
    simp only [Bool.and_eq_true, beq_iff_eq]
    refine ⟨by rw [h1 i hi]; rfl, ?_⟩
    cases hf : fst (poB (fat L i).1 (fat L i).2) L with
    | none => rfl
    | some k =>
      obtain ⟨q1, q2, _⟩ := fst_some.1 hf
      obtain ⟨q3, q4⟩ := poB_iff.1 q2
      exact h2 k i q1 hi q3 q4
theorem fit_eq {L : List Fr} : fitB L = (decide (L.length ≤ 4096) && (!fF wrB L && onceB L)) := by
  rw [Bool.eq_iff_iff, fit_iff]
  simp only [Bool.and_eq_true, decide_eq_true_iff, Bool.not_eq_true', once_iff, fF_false]
  exact Iff.rfl
end Frm
theorem mapAt_own {β : Type} {B M : Nat} (h : M < B) (f : β → List (Frm.Fr × Nat)) : OwnFrom B (fun s W => MapAt W M (f s)) := fun s X Y row hs hg hr =>
  (hg.block M hs.lt (fun e => by have := (hr M e.symm).1; omega)).trans hs
def Frm.mp (L : List Frm.Fr) (ks : List Nat) : List (Frm.Fr × Nat) := ks.map fun i => (Frm.fat L (Frm.ix L i), Frm.ix L i)
theorem Frm.mp_keys (L : List Frm.Fr) (ks : List Nat) : (Frm.mp L ks).map (·.1) = Frm.frs L ks := by unfold Frm.mp Frm.frs; rw [List.map_map]; rfl
theorem Frm.nodup_snoc {L : List Frm.Fr} {pre : List Nat} {x : Nat} (h : (Frm.frs L pre).Nodup) (k : Frm.fat L (Frm.ix L x) ∉ Frm.frs L pre) : (Frm.frs L (pre ++ [x])).Nodup := by
  unfold Frm.frs at *
  rw [List.map_append]
  refine List.nodup_append.2 ⟨h, by simp, fun a ha b hb e => ?_⟩
  simp at hb
  subst hb
  rw [e] at ha
  exact k ha
theorem Frm.not_nodup {L : List Frm.Fr} {pre : List Nat} {x : Nat} (k : Frm.fat L (Frm.ix L x) ∈ Frm.frs L pre) : ¬ (Frm.frs L (pre ++ [x])).Nodup := by
  intro h
  unfold Frm.frs at *
  rw [List.map_append] at h
  exact (List.nodup_append.1 h).2.2 _ k _ (by simp) rfl
theorem lkp_yes {f : Frm.Fr} {l : List (Frm.Fr × Nat)} {v : Nat} (h : lkp f l = some v) : f ∈ l.map (·.1) := by
  refine Decidable.byContradiction fun k => ?_
  rw [lkp_none.2 k] at h; cases h

set_option maxRecDepth 100000 in
set_option maxHeartbeats 2000000 in
theorem once_any {w : World} {ao : Option Addr} {n cap : Nat} {L : List Frm.Fr} (hL : Lab w.heap.size w ao n cap L) :
    Calls Try.prog 27 #[.slice ao n cap] w fun e w' => e = .returned (.bool (Frm.onceB L)) ∧ Below w.heap.size w w' := by
  have hmk : ∀ W, (Instr.makeMap 64 none).run Try.prog W = .ok (.map (some W.heap.size)) (W.alloc (.map #[] 0)) := fun W => run_makeMap _ _
  refine (callsIn_wide (n := 5)).1 ?_
  refine callsIn_of_wp_marks Try.func27 rfl trivial ?_ rfl
  simp only [Try.ntmps27, List.size_toArray, List.length_cons, List.length_nil, Nat.reduceAdd, Nat.reduceSub, Array.replicate_succ, Array.replicate_zero, List.push_toArray, List.append_toArray, List.nil_append, List.cons_append]
  gi_wp2_with (refine ⟨trivial, ?_⟩; gi_at_call 34; refine (callsIn_wide.2 (those_any _ _ _ _ _ _)).mono ?_; rintro e w' ⟨rfl, rfl⟩)
  have b1 := ((((Boxed.new w 4 (.bool false)).alloc (.map #[] 0)).alloc (.cells #[.map (some (w.heap.size + 1))] 64)).alloc (.cells #[.slice ao n cap] 22)).alloc (.cells #[.func (.func 38) #[] #[]] 54)
  have bM : MapAt ((w.alloc (.cells #[.bool false] 4)).alloc (.map #[] 0)) (w.heap.size + 1) [] := by have := World.alloc_heap_new (w.alloc (.cells #[.bool false] 4)) (.map #[] 0); rw [World.size_alloc] at this; exact this
  have b2 := ((Boxed.new ((w.alloc (.cells #[.bool false] 4)).alloc (.map #[] 0)) 64 (.map (some (w.heap.size + 1)))).alloc (.cells #[.slice ao n cap] 22)).alloc (.cells #[.func (.func 38) #[] #[]] 54)
  have b3 := (Boxed.new (((w.alloc (.cells #[.bool false] 4)).alloc (.map #[] 0)).alloc (.cells #[.map (some (w.heap.size + 1))] 64)) 22 (.slice ao n cap)).alloc (.cells #[.func (.func 38) #[] #[]] 54)
  have b4 := Boxed.new ((((w.alloc (.cells #[.bool false] 4)).alloc (.map #[] 0)).alloc (.cells #[.map (some (w.heap.size + 1))] 64)).alloc (.cells #[.slice ao n cap] 22)) 54 (.func (.func 38) #[] #[])
  have bM1 := bM.next ((((Below.refl _ _).alloc (Nat.le_refl _) (.cells #[.map (some (w.heap.size + 1))] 64)).alloc (by simp) (.cells #[.slice ao n cap] 22)).alloc (by simp only [World.size_alloc]; omega) (.cells #[.func (.func 38) #[] #[]] 54))
  simp only [World.size_alloc] at b1 b2 b3 b4 bM1
  have hB0 : Below w.heap.size w (((((w.alloc (.cells #[.bool false] 4)).alloc (.map #[] 0)).alloc (.cells #[.map (some (w.heap.size + 1))] 64)).alloc (.cells #[.slice ao n cap] 22)).alloc (.cells #[.func (.func 38) #[] #[]] 54)) :=
    ((((((Below.refl _ w).alloc (Nat.le_refl _) _).alloc (by simp) _).alloc (by simp; omega) _).alloc (by simp; omega) _).alloc (by simp; omega) _)
  have hsz : (((((w.alloc (.cells #[.bool false] 4)).alloc (.map #[] 0)).alloc (.cells #[.map (some (w.heap.size + 1))] 64)).alloc (.cells #[.slice ao n cap] 22)).alloc (.cells #[.func (.func 38) #[] #[]] 54)).heap.size = w.heap.size + 5 := by simp
  obtain ⟨W0, hW0⟩ : ∃ W0, ((((w.alloc (.cells #[.bool false] 4)).alloc (.map #[] 0)).alloc (.cells #[.map (some (w.heap.size + 1))] 64)).alloc (.cells #[.slice ao n cap] 22)).alloc (.cells #[.func (.func 38) #[] #[]] 54) = W0 := ⟨_, rfl⟩
  rw [hW0] at b1 b2 b3 b4 bM1 hB0 hsz ⊢
  clear hW0
  have hL0 := (LabD.later hL (keeps_of_below hB0)).wide (D' := fun b => b < w.heap.size ∨ b = w.heap.size + 1 + 1 + 1 ∨ b = w.heap.size + 1 + 1 + 1 + 1) (fun b hb => .inl hb)
  refine wpIn_rangeFunc_ownH rfl (by omega) (gf := 39) (lb := #[.pointer (some ⟨w.heap.size + 1 + 1 + 1, 0, none⟩), .pointer (some ⟨w.heap.size + 1 + 1 + 1 + 1, 0, none⟩)]) rfl trivial (enters_of Try.func39 (by kernel_rfl) rfl)
    (those_stops _ (by omega) (w.heap.size + 1 + 1 + 1) (w.heap.size + 1 + 1 + 1 + 1) (fun b => b < w.heap.size ∨ b = w.heap.size + 1 + 1 + 1 ∨ b = w.heap.size + 1 + 1 + 1 + 1) W0 (fun b hb => by omega) (.inr (.inl rfl)) (.inr (.inr rfl)) b3.cell b4.cell hL0 (asks_once _ _)) keepsK_t (keepsK_b (fun b hb => by omega)) (Below.refl _ _) (fun _ => rfl)
    (fun pre W => ((Frm.frs L pre).Nodup ∧ Boxed W w.heap.size 4 (.bool false) ∧ Boxed W (w.heap.size + 1 + 1) 64 (.map (some (w.heap.size + 1))) ∧ MapAt W (w.heap.size + 1) (Frm.mp L pre)) ∧ (Below w.heap.size w W ∧ w.heap.size + 5 ≤ W.heap.size))
    (fun cd pre W => (cd = .ret ∧ (¬ (Frm.frs L pre).Nodup) ∧ Boxed W w.heap.size 4 (.bool false)) ∧ Below w.heap.size w W)
    (OwnFrom.and (OwnFrom.and (ownFrom_pure _ _) (OwnFrom.and (Own.from (boxed_own _ _ _) _) (OwnFrom.and (Own.from (boxed_own _ _ _) _) (mapAt_own (by omega) _)))) (OwnFrom.and (ownFrom_below (Nat.le_refl _) (by omega)) (fun _ X Y row hs hg _ => Nat.le_trans hs hg.size)))
    (fun cd => OwnFrom.and (OwnFrom.and (ownFrom_pure _ _) (OwnFrom.and (ownFrom_pure _ _) (Own.from (boxed_own _ _ _) _))) (ownFrom_below (Nat.le_refl _) (by omega)))
    ⟨⟨List.nodup_nil, b1, b2, bM1⟩, hB0, by omega⟩
    (fun x a2 W => ∃ Bx, w.heap.size + 4 < Bx ∧ Two W Bx 51 (.int .u64 (Frm.fat L (Frm.ix L x)).1) (.int .i64 (Frm.fat L (Frm.ix L x)).2) ∧ a2 = { tmps := #[.slice ao n cap, undef, .pointer (some ⟨w.heap.size, 0, none⟩), .pointer (some ⟨w.heap.size + 1 + 1, 0, none⟩), .int .i64 (Frm.ix L x : Nat), .pointer (some ⟨Bx, 0, none⟩), undef, undef, .map (some (w.heap.size + 1)), .slice ao n cap, .func (.func 39) #[] #[.pointer (some ⟨w.heap.size + 1 + 1 + 1, 0, none⟩), .pointer (some ⟨w.heap.size + 1 + 1 + 1 + 1, 0, none⟩)], .int .i64 (Frm.ix L x : Nat), .agg #[.int .u64 (Frm.fat L (Frm.ix L x)).1, .int .i64 (Frm.fat L (Frm.ix L x)).2], undef, undef, undef, undef, undef, undef, undef, undef, undef, undef], defers := [] })
    (fun x a2 _ X Y row hs hg hr => by obtain ⟨Bx, h1, h2, h3⟩ := hs; exact ⟨Bx, h1, (hg.block Bx h2.lt (fun e => by obtain ⟨_, o, ho, hc⟩ := hr Bx e.symm; rw [show X.heap[Bx]? = _ from h2] at ho; cases ho; cases hc)).trans h2, h3⟩)
    ?assign ?body ?done ?stop
  case assign =>
    rintro l pre x W K ⟨⟨hp, d1, d2, dM⟩, hBW, hWs⟩ hK
    dsimp only [encF]
    gi_wp2
    exact hK _ _ ((KeepsOthers.alloc _ _).from _) ⟨by simp, fun b hb => Below.heap_alloc W _ b (by omega)⟩ ⟨⟨hp, d1.alloc _, d2.alloc _, dM.next ((Below.refl _ W).alloc (Nat.le_refl _) _)⟩, hBW.alloc hBW.size _, by simp; omega⟩ ⟨W.heap.size, by omega, Two.new W _ _ _, rfl⟩
  case body =>
    rintro l pre x a2 W hl ⟨r2, hr2⟩ ⟨⟨hp, d1, d2, dM⟩, hBW, hWs⟩ ⟨Bx, hBx, hT, rfl⟩ hlt
    have hP : Hid ((Frm.frs L pre).Nodup) := hp
    have hS : Hid (Frm.mp L (pre ++ [x]) = Frm.mp L pre ++ [((Frm.fat L (Frm.ix L x)), Frm.ix L x)]) := by show _ = _; simp [Frm.mp]
    have hY : Hid (lkp (Frm.fat L (Frm.ix L x)) (Frm.mp L pre) = none → (Frm.frs L (pre ++ [x])).Nodup) := fun h => Frm.nodup_snoc hp (by rw [← Frm.mp_keys]; exact lkp_none.1 h)
    have hN : Hid (∀ v, lkp (Frm.fat L (Frm.ix L x)) (Frm.mp L pre) = some v → ¬ (Frm.frs L (pre ++ [x])).Nodup) := fun v h => Frm.not_nodup (by rw [← Frm.mp_keys]; exact lkp_yes h)
    clear hp
    obtain ⟨u, v, huv⟩ : ∃ u v, Hid (Frm.fat L (Frm.ix L x) = (u, v)) := ⟨_, _, rfl⟩
    obtain ⟨k, hk⟩ : ∃ k, Hid (Frm.ix L x = k) := ⟨_, rfl⟩
    have hY' : Hid (lkp (u, v) (Frm.mp L pre) = none → (Frm.frs L (pre ++ [x])).Nodup) := by have := hY.out; rw [huv.out] at this; exact this
    have hN' : Hid (∀ v', lkp (u, v) (Frm.mp L pre) = some v' → ¬ (Frm.frs L (pre ++ [x])).Nodup) := by have := hN.out; rw [huv.out] at this; exact this
    have hS' : Hid (Frm.mp L (pre ++ [x]) = Frm.mp L pre ++ [((u, v), k)]) := by have := hS.out; rw [huv.out, hk.out] at this; exact this
    rw [huv.out] at hT
    rw [huv.out, hk.out]
    clear hY hN hS
    have t0 := hT.cell0
    have t1 := hT.cell1
    have c1 := d1.cell
    have f1 := d1.frozen
    have c2 := d2.cell
    have hlk := map_get2 dM u v
    cases hq : lkp (u, v) (Frm.mp L pre) with
    | some v' =>
      have hF : Hid (¬ (Frm.frs L (pre ++ [x])).Nodup) := hN'.out v' hq
      rw [hq] at hlk
      gi_wp2
      exact ⟨(KeepsOthers.setCell _ _ _).from _, ⟨rfl, hF.out, d1.set _⟩, hBW.setCell (p := ⟨w.heap.size, 0, none⟩) (by show w.heap.size ≤ w.heap.size; omega) _⟩
    | none =>
      have hF : Hid ((Frm.frs L (pre ++ [x])).Nodup) := hY'.out hq
      rw [hq] at hlk
      have hpu := map_put dM u v k hq
      gi_wp2
      have hm2 : MapAt (W.putObj (w.heap.size + 1) (Obj.map (ents 0 (Frm.mp L pre ++ [((u, v), k)])).toArray ((Frm.mp L pre).length + 1))) (w.heap.size + 1) (Frm.mp L (pre ++ [x])) := by
        rw [hS'.out]
        have := dM.put (Frm.mp L pre ++ [((u, v), k)])
        rw [List.length_append] at this
        exact this
      exact ⟨KeepsFrom.of_grownBy (grownBy_putObj' _ _ _) (fun j e => by cases e; omega), ⟨(grownBy_putObj' _ _ _).size, fun b hb => World.putObj_heap_other (by omega)⟩, ⟨hF.out, (World.putObj_heap_other (by omega)).trans d1, (World.putObj_heap_other (by omega)).trans d2, hm2⟩, below_putObj hBW (by omega) _, Nat.le_trans hWs (grownBy_putObj' _ _ _).size⟩
  case done =>
    rintro D ys W hD rfl ⟨⟨hp, d1, d2, dM⟩, hB, _⟩ hK
    have hr : Hid (Frm.onceB L = true) := Frm.once_yes hp
    have c1 := d1.cell
    have f1 := d1.frozen
    clear hp
    gi_wp2
    have hK' := (KeepsOthers.setCell W ⟨w.heap.size, 0, none⟩ (.bool true)).same D _ hK rfl
    refine ⟨by simp, .inl ⟨_, _, rfl, run_takeDeferred hK', ?_⟩⟩
    have hc5 := cell_kept (d1.set (.bool true)).cell (grownBy_putObj' _ D (.deferred none)) (fun r e => by cases e; exact ⟨_, hK', rfl⟩)
    refine ⟨.bool true, ?_, by rw [hr.out], (hB.setCell (p := ⟨w.heap.size, 0, none⟩) (by show w.heap.size ≤ w.heap.size; omega) _).trans (belowK_b (w := w) (Nat.le_refl _) _ D _ _ (by omega) hK' rfl rfl)⟩
    simp [results, Try.f27, go_sem, hc5]
  case stop =>
    rintro D cd pre W hD hpre ⟨⟨rfl, hin, d1⟩, hB⟩ hK
    have hr : Hid (Frm.onceB L = false) := Frm.once_no hpre hin
    clear hin
    gi_wp2
    refine ⟨by simp, .inl ⟨_, _, rfl, run_takeDeferred hK, ?_⟩⟩
    have hc5 := cell_kept d1.cell (grownBy_putObj' _ D (.deferred none)) (fun r e => by cases e; exact ⟨_, hK, rfl⟩)
    refine ⟨.bool false, ?_, by rw [hr.out], hB.trans (belowK_b (w := w) (Nat.le_refl _) W D _ _ (by omega) hK rfl rfl)⟩
    simp [results, Try.f27, go_sem, hc5]
theorem fit_any {w : World} {ao : Option Addr} {n cap : Nat} {L : List Frm.Fr} (hL : Lab w.heap.size w ao n cap L) :
    Calls Try.prog 9 #[.slice ao n cap] w fun e w' => e = .returned (.bool (Frm.fitB L)) ∧ Below w.heap.size w w' := by
  have hln : Hid (L.length = n) := hL.1
  have hr : Hid (Frm.fitB L = (decide (n ≤ 4096) && (!Frm.fF Frm.wrB L && Frm.onceB L))) := by show _ = _; rw [Frm.fit_eq, hln.out]
  have hfi := first_any hL (asks_wrong _ _)
  by_cases h0 : n ≤ 4096
  · cases hw : Frm.fF Frm.wrB L with
    | true =>
      have hf : Hid (Frm.fitB L = false) := by show _ = _; rw [hr.out, hw]; simp
      rw [hw] at hfi
      go_enter Try.func9, Try.ntmps9
      go_wp2_with (go_at_call 25; refine hfi.mono ?_; rintro e w1 ⟨rfl, hb1⟩)
      go_ret
      exact ⟨by rw [hf.out]; rfl, hb1⟩
    | false =>
      have hf : Hid (Frm.fitB L = Frm.onceB L) := by show _ = _; rw [hr.out, hw]; simp [h0]
      rw [hw] at hfi
      go_enter Try.func9, Try.ntmps9
      go_wp2_with (first | (go_at_call 25; refine hfi.mono ?_; rintro e w1 ⟨rfl, hb1⟩) | (go_at_call 27; refine (once_any (hL.next hb1)).mono ?_; rintro e w2 ⟨rfl, hb2⟩))
      go_ret
      exact ⟨by rw [hf.out]; rfl, hb1.trans (hb2.mono hb1.size)⟩
  · have hf : Hid (Frm.fitB L = false) := by show _ = _; rw [hr.out]; simp [h0]
    go_enter Try.func9, Try.ntmps9
    go_wp2
    go_ret
    exact ⟨by rw [hf.out]; rfl, Below.refl _ _⟩
end Go.Proofs.Ytjdjiooblfgmlaa
