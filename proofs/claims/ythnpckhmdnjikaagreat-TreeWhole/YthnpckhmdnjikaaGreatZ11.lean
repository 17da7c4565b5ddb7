/-
 PROVED HERE: what a view's keeps returns when it is called (a contract over this translation); what a view's every returns . What is asked stands at each.
-/
import Derived.Test.YthnpckhmdnjikaaGreatZ9
import Derived.Test.YthnpckhmdnjikaaGreatZ10
namespace Go.Proofs.YthnpckhmdnjikaaGreat
set_option maxRecDepth 100000
set_option maxHeartbeats 8000000
set_option linter.unusedVariables false
open Go.Proofs.Tryz
section
open Go.RowKit Go.Shelf
attribute [local go_sem] Oper.semAt_some
theorem xpz {W W' : World} (k : Below W.heap.size W W') (B : Nat) : KeepsFrom B W W' := ⟨k.size, fun i o _ hi _ => (k.block i (Array.getElem?_eq_some_iff.1 hi).1).trans hi⟩
def plcB (D O : Lb) : Bool := leqB D (vyz (xtz O) [])
def kYz (X : List Ob) (o : Ob) : Bool := ((hitO X o.links).all fun m => plcB o.label (oat X m).label) && (decide ((hitO X o.links).length = o.links.length) && decide (0 ≤ o.quota - (pagO o + (o.links.map (qOf X)).sum)))
variable {Cf : Nat → Array Value}
theorem keeps_v {w : World} {t ke ro : Int} {ao : Option Addr} {n cap : Nat} {X : List Ob} {C : Array Value} {o : Ob} (h : ObsF (LtN w) (LtN w) w ao n cap X Cf) (hs : Srt X) (hn16 : n ≤ 4096) (hq : ∀ x ∈ X, 0 ≤ x.quota ∧ x.quota ≤ 4096) (hlb : ∀ x ∈ X, x.label.length < 1048576) (ho : ObD (LtN w) w C o) (hsm : Small o) (hoq : 0 ≤ o.quota ∧ o.quota ≤ 4096) (hol : o.label.length < 1048576) : Calls prog 83 #[.agg #[.int .i64 t, .int .u64 ke, .int .u64 ro, .slice ao n cap], .agg C] w fun e w' => e = .returned (.bool (kYz X o)) ∧ Below w.heap.size w w' := by
 have hz := ho.size
 obtain ⟨al, nl, cl, c5, hL⟩ := ho.links
 have hzv : (prog.info? 68).map (·.size) = some (#[.int .i64 t, .int .u64 ke, .int .u64 ro, .slice ao n cap] : Array Value).size := by kernel_rfl
 have hus := fun (W : World) (hk : Below w.heap.size w W) => yzz (t := t) (ke := ke) (ro := ro) (h.next hk) hs hn16 hq (ho.next hk) hsm hoq
 obtain ⟨G, hG⟩ : ∃ G : Array Value, Hid (G = #[.int .i64 t, .int .u64 ke, .int .u64 ro, .slice ao n cap]) := ⟨_, rfl⟩
 rw [← hG.out] at hzv hus
 rw [← hG.out]
 refine (callsIn_wide (n := 5)).1 ?_
 refine callsIn_of_wp_marks func83 rfl trivial ?_ rfl
 simp only [ntmps83, List.size_toArray, List.length_cons, List.length_nil, Nat.reduceAdd, Nat.reduceSub, Array.replicate_succ, Array.replicate_zero, List.push_toArray, List.append_toArray, List.nil_append, List.cons_append]
 obtain ⟨aD, nD, cD, c2, hLD⟩ := ho.label
 gi_wp2_with (first
  | (with_reducible refine xZz (fun _ => trivial) (by kernel_rfl) _ _ rfl G rfl ?_; intro B2 W2 hN2 hB2 hk)
  | (with_reducible refine xZz (fun _ => trivial) (by kernel_rfl) _ _ rfl C rfl ?_; intro B3 W3 hN3 hB3 hk3; replace hB2 := hB2.next hk3; replace hk := btz hk hk3; have hka := ((brz W3.heap.size W3).alloc (lrz _) (.cells #[.bool false] 4)).alloc (by simp) (.cells #[.int .i64 0] 3); have hR1 := (Boxed.new W3 4 (.bool false)).alloc (.cells #[.int .i64 0] 3); have hU1 := Boxed.new (W3.alloc (.cells #[.bool false] 4)) 3 (.int .i64 0); have hB2a := hB2.next hka; have hB3a := hB3.next hka; have hkw := btz hk hka)
  | (with_reducible refine qPz (fun _ => trivial) (by kernel_rfl) _ _ rfl B3 rfl C _ hB3a _ underlying43 (by kernel_rfl) (qfz hz) ?_)
  | (with_reducible refine qPz (fun _ => trivial) (by kernel_rfl) _ _ rfl B2 rfl G _ hB2a _ underlying68 (by kernel_rfl) hzv ?_)
  | (refine ⟨trivial, ?_⟩; gi_at_call 72; (with_reducible refine (callsIn_wide.2 xYz).mono ?_); rintro e w2 ⟨Bv, Bd, rfl, hBv, hBd, hvd, hv1, hd1, hb2⟩))
 have hwZ : w.heap.size ≤ W3.heap.size := hk.size
 have hsz : ((W3.alloc (.cells #[.bool false] 4)).alloc (.cells #[.int .i64 0] 3)).heap.size = W3.heap.size + 2 := by simp
 rw [show (W3.alloc (.cells #[.bool false] 4)).heap.size = W3.heap.size + 1 by simp] at hU1
 rw [hsz] at hv1 hd1 hb2
 have hU2 : Boxed w2 (W3.heap.size + 1) 3 (.int .i64 0) := (hb2.block _ (by omega)).trans hU1
 have hR2 : Boxed w2 W3.heap.size 4 (.bool false) := (hb2.block _ (by omega)).trans hR1
 have hk2 : Below w.heap.size w w2 := hkw.trans (hb2.mono (by omega))
 have hb2l : B2 < W3.heap.size := hB2.lt
 have hb3l : B3 < W3.heap.size := hB3.lt
 have hB2' : Blk w2 B2 G 68 := (hb2.block _ (by omega)).trans hB2a
 have hB3' : Blk w2 B3 C 43 := (hb2.block _ (by omega)).trans hB3a
 generalize W3.heap.size = Z at hwZ hv1 hd1 hU2 hR2 hb2l hb3l ⊢
 clear hU1 hR1 hB2a hB3a hka hkw hb2 hB2 hB3 hk hk3 hN2 hN3 hsz
 have hZ2 : Z ≤ w2.heap.size := by have := hBd.lt; omega
 have hD : ∀ b, (b < Z ∨ b = Bd ∨ b = Bv) → b < w2.heap.size := fun b hb => by
  rcases hb with q | q | q
  ·exact ltz q hZ2
  ·rw [q]; exact hBd.lt
  ·rw [q]; exact hBv.lt
 have hX2 : ObsF (fun b => b < Z ∨ b = Bd ∨ b = Bv) (fun b => b < Z ∨ b = Bd ∨ b = Bv) w2 ao n cap X Cf := (h.laterK (fun b hb => hk2.block b hb) (fun b hb => hk2.block b hb)).wide (fun b hb => .inl (ltz hb hwZ)) (fun b hb => .inl (ltz hb hwZ))
 have hL2 : CtD (fun b => b < Z ∨ b = Bd ∨ b = Bv) w2 al nl cl o.links := (hL.laterK fun b hb => hk2.block b hb).wide fun b hb => .inl (ltz hb hwZ)
 have hnl : o.links.length = nl := hL.1
 refine wpIn_rangeFunc_ownH rfl (by omega) (gf := 99) (lb := #[.pointer (some ⟨Bd, 0, none⟩), .pointer (some ⟨Bv, 0, none⟩)]) rfl trivial (enters_of func99 (by kernel_rfl) rfl)
  (xbz _ (by omega) Bd Bv (fun b => b < Z ∨ b = Bd ∨ b = Bv) hs hn16 w2 hD (.inr (.inl rfl)) (.inr (.inr rfl)) hBd c5 (by rw [← hG.out]; exact hBv) hX2 hL2) keepsK_t (keepsK_b hD) (brz _ _) (fun _ => rfl)
  (fun pre W => ((pre.all fun m => plcB o.label (oat X m).label) = true ∧ Boxed W (Z + 1) 3 (.int .i64 (pre.length : Int)) ∧ Boxed W Z 4 (.bool false)) ∧ Below Z w2 W)
  (fun cd pre W => (cd = .ret ∧ (pre.all fun m => plcB o.label (oat X m).label) = false ∧ Boxed W Z 4 (.bool false)) ∧ Below Z w2 W)
  (OwnFrom.and (OwnFrom.and (ownFrom_pure _ _) (OwnFrom.and (Own.from (boxed_own _ _ _) _) (Own.from (boxed_own _ _ _) _))) (ownFrom_below hZ2 hZ2))
  (fun cd => OwnFrom.and (OwnFrom.and (ownFrom_pure _ _) (OwnFrom.and (ownFrom_pure _ _) (Own.from (boxed_own _ _ _) _))) (ownFrom_below hZ2 hZ2))
  ⟨⟨rfl, by simpa using hU2, hR2⟩, brz _ _⟩
  (fun x a2 W => ∃ R, a2 = { tmps := #[.agg G, .agg C, .pointer (some ⟨B2, 0, none⟩), .pointer (some ⟨B3, 0, none⟩), .pointer (some ⟨Z, 0, none⟩), .pointer (some ⟨Z + 1, 0, none⟩), .pointer (some ⟨R, 0, none⟩), .agg G, .agg C, .func (.func 99) #[] #[.pointer (some ⟨Bd, 0, none⟩), .pointer (some ⟨Bv, 0, none⟩)], .agg (cfo X Cf x), undef, undef, undef, undef, undef, undef, undef, undef, undef, undef, undef, undef, undef, undef, undef, undef, undef, undef, undef], defers := [] } ∧ Blk W R (cfo X Cf x) 43 ∧ R ≠ Z ∧ R ≠ Z + 1)
  (fun x a2 s A B row ⟨R, e, hb, hn⟩ hg hr => ⟨R, e, hb.own hg (fun r q => (hr r q).2), hn⟩)
  ?assign ?body ?done ?stop
 case assign =>
  rintro l pre x W K ⟨⟨hI0, hI1, hI3⟩, hI2⟩ hK
  have hco := jfz h x
  dsimp only [encO]
  generalize cfo X Cf x = Cx at hco hK ⊢
  refine (fun (hh : ∀ T : Array Value, T = #[.agg G, .agg C, .pointer (some ⟨B2, 0, none⟩), .pointer (some ⟨B3, 0, none⟩), .pointer (some ⟨Z, 0, none⟩), .pointer (some ⟨Z + 1, 0, none⟩), undef, .agg G, .agg C, .func (.func 99) #[] #[.pointer (some ⟨Bd, 0, none⟩), .pointer (some ⟨Bv, 0, none⟩)], .agg Cx, undef, undef, undef, undef, undef, undef, undef, undef, undef, undef, undef, undef, undef, undef, undef, undef, undef, undef, undef] → Code.wpIn _ _ _ _ _ { tmps := T, defers := [] } W) => hh _ (by kernel_rfl)) ?_
  rintro T rfl
  have hsx := hco.size
  have h1x := hco.one
  clear hco
  gi_wp2_with (first
   | ((with_reducible refine wrz (fun _ => trivial) (by kernel_rfl) _ rfl zC qwz ?_); intro R W5 hN5 hR5 hk5)
   | ((with_reducible refine qOz (fun _ => trivial) (by kernel_rfl) _ _ _ rfl R rfl Cx rfl zC hR5 (qfz hsx) (qrz.trans hsx.symm) h1x ?_); intro W6 hR6 o6))
  have kb : Below W.heap.size W W6 := o6.below W.heap.size W (by have := hN5.out; omega) hk5
  have hRU : R ≠ Z ∧ R ≠ Z + 1 := by have := hN5.out; have := hI1.lt; omega
  have hDW : ∀ b, (b < Z ∨ b = Bd ∨ b = Bv) → b < W.heap.size := fun b hb => ltz (hD b hb) hI2.size
  exact hK _ _ (xpz kb _) ⟨kb.size, fun b hb => kb.block b (hDW b hb)⟩ ⟨⟨hI0, (kb.block _ hI1.lt).trans hI1, (kb.block _ hI3.lt).trans hI3⟩, hI2.trans (kb.mono (Nat.le_trans hZ2 hI2.size))⟩ ⟨R, rfl, hR6, hRU⟩
 case body =>
  rintro l pre x a2 W hl ⟨r2, hr2⟩ ⟨⟨hp, d1, d3⟩, hB1⟩ ⟨R, rfl, hR, hRU⟩ hlt
  have hco := jfz h x
  have hkW : Below w.heap.size w W := hk2.trans (hB1.mono hwZ)
  obtain ⟨aO, nO, cO, cx2, hLO⟩ := hco.label
  have hlx : (oat X x).label.length < 1048576 := by
   by_cases q : x < X.length
   ·exact hlb _ (qQz q)
   ·have : oat X x = zOb := by unfold oat; rw [List.getD_eq_getElem?_getD, List.getElem?_eq_none (by omega)]; rfl
    rw [this]; decide
  have e2 : W.cell? ⟨R, 2, none⟩ = some (.slice aO nO cO) := (hR.cell 2).trans cx2
  have hB3w : Blk W B3 C 43 := (hB1.block _ hb3l).trans hB3'
  have e3 : W.cell? ⟨B3, 2, none⟩ = some (.slice aD nD cD) := (hB3w.cell 2).trans c2
  have hpl := CkM.place_any (Lab.next hLD hkW) (Lab.next hLO hkW) (by rw [← hLD.1]; exact hol) (by rw [← hLO.1]; exact hlx)
  generalize cfo X Cf x = Cx at hR ⊢
  have hle : (hitO X o.links).length ≤ o.links.length := List.length_filterMap_le ..
  have hlen := hsm.c5
  have hw : IntKind.i64.wrap ((pre.length : Int) + 1) = ((pre ++ [x]).length : Int) := by
   rw [List.length_append, IntKind.wrap_i64]
   simp only [List.length_cons, List.length_nil]
   omega
  change Calls prog _ _ W fun e w' => e = .returned (.bool (plcB o.label (oat X x).label)) ∧ _ at hpl
  clear hle hlen hlx hLO cx2 hco hB3w
  cases hqp : plcB o.label (oat X x).label with
  | false =>
   rw [hqp] at hpl
   have hP : Hid (((pre ++ [x]).all fun m => plcB o.label (oat X m).label) = false) := by show ((pre ++ [x]).all fun m => plcB o.label (oat X m).label) = false; simp [hqp]
   clear hp hqp
   gi_wp2_with (refine ⟨trivial, ?_⟩; gi_at_call 59; refine (CallsIn.inRound l (callsIn_wide.2 hpl)).mono ?_; rintro e w' ⟨rfl, hb9⟩; have d3' : Boxed w' Z 4 (.bool false) := (hb9.block _ d3.lt).trans d3; have f3 := d3'.frozen; have g3 := d3'.cell)
   exact ⟨(xpz hb9 _).trans ((KeepsOthers.setCell _ _ _).from _), ⟨rfl, hP.out, d3'.set _⟩, (hB1.trans (hb9.mono (Nat.le_trans hZ2 hB1.size))).setCell (p := ⟨Z, 0, none⟩) (lrz _) _⟩
  | true =>
   rw [hqp] at hpl
   have hP : Hid (((pre ++ [x]).all fun m => plcB o.label (oat X m).label) = true) := by show ((pre ++ [x]).all fun m => plcB o.label (oat X m).label) = true; rw [List.all_append, hp]; simp [hqp]
   clear hp hqp
   gi_wp2_with (refine ⟨trivial, ?_⟩; gi_at_call 59; refine (CallsIn.inRound l (callsIn_wide.2 hpl)).mono ?_; rintro e w' ⟨rfl, hb9⟩; have d3' : Boxed w' Z 4 (.bool false) := (hb9.block _ d3.lt).trans d3; have d1' : Boxed w' (Z + 1) 3 (.int .i64 (pre.length : Int)) := (hb9.block _ d1.lt).trans d1; have f1 := d1'.frozen; have g1 := d1'.cell)
   have hDW : ∀ b, (b < Z ∨ b = Bd ∨ b = Bv) → b < W.heap.size := fun b hb => ltz (hD b hb) hB1.size
   exact ⟨(xpz hb9 _).trans ((KeepsOthers.setCell _ _ _).from _), ⟨by simpa using hb9.size, fun b hb => (Below.heap_setCell _ _ _ _ (by show b ≠ Z + 1; rcases hb with q | q | q <;> omega)).trans (hb9.block b (hDW b hb))⟩, ⟨hP.out, by simpa [hw] using d1'.set _, (Below.heap_setCell _ _ _ _ (by show Z ≠ Z + 1; omega)).trans d3'⟩, (hB1.trans (hb9.mono (Nat.le_trans hZ2 hB1.size))).setCell (p := ⟨Z + 1, 0, none⟩) (by show Z ≤ Z + 1; omega) _⟩
 case done =>
  rintro D ys W hD rfl ⟨⟨hp, d1, d3⟩, hB⟩ hK
  have hkW : Below w.heap.size w W := hk2.trans (hB.mono hwZ)
  have hB2w : Blk W B2 G 68 := (hB.block _ hb2l).trans hB2'
  have hB3w : Blk W B3 C 43 := (hB.block _ hb3l).trans hB3'
  have e5 : W.cell? ⟨B3, 5, none⟩ = some (.slice al nl cl) := (hB3w.cell 5).trans c5
  have g1 := d1.cell
  have g3 := d3.cell
  have f3 := d3.frozen
  have hrm := hus W hkW
  have hkb : Hid (kYz X o = (decide ((hitO X o.links).length = nl) && decide (0 ≤ o.quota - (pagO o + (o.links.map (qOf X)).sum)))) := by show kYz X o = _; unfold kYz; rw [hp, hnl, Bool.true_and]
  generalize o.quota - (pagO o + (o.links.map (qOf X)).sum) = u at hrm hkb
  generalize (hitO X o.links).length = k at d1 g1 hkb
  have hDl : D < W.heap.size := (Array.getElem?_eq_some_iff.1 hK).1
  by_cases hkn : k = nl
  ·subst hkn
   gi_wp2_with (first
    | (with_reducible refine qPz (fun _ => trivial) (by kernel_rfl) _ _ rfl B3 rfl C _ hB3w _ underlying43 (by kernel_rfl) (qfz hz) ?_)
    | (with_reducible refine qPz (fun _ => trivial) (by kernel_rfl) _ _ rfl B2 rfl G _ hB2w _ underlying68 (by kernel_rfl) hzv ?_)
    | (refine ⟨trivial, ?_⟩; gi_at_call 39; (with_reducible refine (callsIn_wide.2 hrm).mono ?_); rintro e w9 ⟨rfl, hb9⟩; have d3' : Boxed w9 Z 4 (.bool false) := (hb9.block _ d3.lt).trans d3; have f3' := d3'.frozen; have g3' := d3'.cell; replace hK := (hb9.block D hDl).trans hK))
   have hK' := (KeepsOthers.setCell w9 ⟨Z, 0, none⟩ (.bool (decide (0 ≤ u)))).same D _ hK rfl
   refine ⟨by simp, .inl ⟨_, _, rfl, run_takeDeferred hK', ?_⟩⟩
   have hc5 := cell_kept (d3'.set (.bool (decide (0 ≤ u)))).cell (grownBy_putObj' _ D (.deferred none)) (fun r e => by cases e; exact ⟨_, hK', rfl⟩)
   refine ⟨.bool (decide (0 ≤ u)), ?_, by rw [hkb.out]; rfl, ((btz hkW hb9).setCell (p := ⟨Z, 0, none⟩) (by show w.heap.size ≤ Z; omega) _).trans (belowK_b (w := w) (lrz _) _ D _ _ (by have := hk2.size; omega) hK' rfl rfl)⟩
   simp [results, Tryz.f83, go_sem, hc5]
  ·have hkf : ((k : Int) == (nl : Int)) = false := by simp; omega
   gi_wp2_with (refine ⟨trivial, ?_⟩)
   have hK' := (KeepsOthers.setCell W ⟨Z, 0, none⟩ (.bool false)).same D _ hK rfl
   refine ⟨by simp, .inl ⟨_, _, rfl, run_takeDeferred hK', ?_⟩⟩
   have hc5 := cell_kept (d3.set (.bool false)).cell (grownBy_putObj' _ D (.deferred none)) (fun r e => by cases e; exact ⟨_, hK', rfl⟩)
   refine ⟨.bool false, ?_, by rw [hkb.out]; rw [decide_eq_false hkn, Bool.false_and], ((hkW).setCell (p := ⟨Z, 0, none⟩) (by show w.heap.size ≤ Z; omega) _).trans (belowK_b (w := w) (lrz _) _ D _ _ (by have := hk2.size; omega) hK' rfl rfl)⟩
   simp [results, Tryz.f83, go_sem, hc5]
 case stop =>
  rintro D c pre W hD hpre ⟨⟨rfl, hin, d3⟩, hB⟩ hK
  have hr : Hid (kYz X o = false) := by
   show kYz X o = false
   unfold kYz
   have : ((hitO X o.links).all fun m => plcB o.label (oat X m).label) = false := by
    rw [List.all_eq_false] at hin ⊢
    obtain ⟨x, hx, hy⟩ := hin
    exact ⟨x, hpre.subset hx, hy⟩
   rw [this, Bool.false_and]
  clear hin
  gi_wp2
  refine ⟨by simp, .inl ⟨_, _, rfl, run_takeDeferred hK, ?_⟩⟩
  have hc5 := cell_kept d3.cell (grownBy_putObj' _ D (.deferred none)) (fun r e => by cases e; exact ⟨_, hK, rfl⟩)
  refine ⟨.bool false, ?_, by rw [hr.out], (hk2.trans (hB.mono hwZ)).trans (belowK_b (w := w) (lrz _) _ D _ _ (by have := hk2.size; omega) hK rfl rfl)⟩
  simp [results, Tryz.f83, go_sem, hc5]
theorem buz {w : World} {t ke ro : Int} {ao : Option Addr} {n cap : Nat} {X : List Ob} {g : Nat} {lb : Array Value} {P : Nat → Bool} (h : ObsF (LtN w) (LtN w) w ao n cap X Cf) (eg : ∀ args w, (callFunc g args).run prog w = .ok (.enter g args) w)
  (hP : ∀ j W, j < n → Below w.heap.size w W → Calls prog g (#[.agg (Cf j)] ++ lb) W fun e W' => e = .returned (.bool (P j)) ∧ Below W.heap.size W W') : Calls prog 53 #[.agg #[.int .i64 t, .int .u64 ke, .int .u64 ro, .slice ao n cap], .func (.func g) #[] lb] w fun e w' => e = .returned (.bool ((List.range n).all P)) ∧ Below w.heap.size w w' := by
 have hn : Hid (X.length = n) := h.1
 have hnc := h.2.1
 have hcm := h.2.2.1.1
 have c3 : (#[.int .i64 t, .int .u64 ke, .int .u64 ro, .slice ao n cap] : Array Value)[3]? = some (.slice ao n cap) := rfl
 generalize (#[.int .i64 t, .int .u64 ke, .int .u64 ro, .slice ao n cap] : Array Value) = G at c3 ⊢
 go_enter func53, ntmps53
 go_wp2_with (first
  | (with_reducible refine qcz rfl _ _ rfl G rfl ?_; intro B W hB hb hk; replace c3 := (hb.cell 3).trans c3))
 go_loopw [11] (fun i wr => ∃ k : Nat, k ≤ n ∧ i = .int .i64 k ∧ Hid (∀ j, j < k → P j = true) ∧ Below w.heap.size w wr) (fun i _ => n - (intOf i).toNat)
 case atStart => exact ⟨0, Nat.zero_le _, rfl, fun j hj => absurd hj (by omega), hk⟩
 case round =>
  obtain ⟨k, hk, rfl, hal, hb⟩ := hrel
  have hbs := hb.size
  by_cases hkn : k < n
  ·obtain ⟨b, off, rfl, hbb, hrr⟩ := h.2.2.2.1 (by omega)
   have hr := qpz (hrr k hkn) (hb.block b hbb)
   have hC := (h.2.2.2.2 k hkn)
   have hz := hC.size
   have h1c := hC.one
   have hPk := hP k
   have hkn' : (k : Int) < n := by omega
   clear hC hrr
   generalize Cf k = C at hr hz h1c hPk ⊢
   cases hp : P k with
   | true =>
    rw [hp] at hPk
    go_wp2_with (first
     | (with_reducible refine qtz (by kernel_rfl) 43 _ rfl b _ rfl C hr _ underlying43 (by kernel_rfl) (qfz hz) ?_)
     | ((with_reducible refine qgz rfl _ rfl zC qwz ?_); intro R W1 hB1 hR1 hk1)
     | ((with_reducible refine qbz rfl _ _ _ rfl R rfl C rfl zC hR1 (qfz hz) (qrz.trans hz.symm) h1c ?_); intro W2 hR2 o2; have k2 := o2.below wr.heap.size wr (by have := hB1.out.1; omega) hk1; have k3 := hb.trans (k2.mono hbs))
     | (with_reducible refine qmz rfl _ _ rfl R rfl _ hR2 _ underlying43 rfl (qfz hz) ?_)
     | ((with_reducible refine (hPk _ hkn k3).mono ?_); rintro e w3 ⟨rfl, hb3⟩; have k4 := btz k3 hb3))
    go_roundw
    case rel => exact ⟨k + 1, by omega, by go_num, fun j hj => (Nat.lt_or_ge j k).elim (hal.out j) (fun q => by rw [show j = k by omega]; exact hp), k4⟩
    case measure => simp [intOf]; omega
   | false =>
    rw [hp] at hPk
    go_wp2_with (first
     | (with_reducible refine qtz (by kernel_rfl) 43 _ rfl b _ rfl C hr _ underlying43 (by kernel_rfl) (qfz hz) ?_)
     | ((with_reducible refine qgz rfl _ rfl zC qwz ?_); intro R W1 hB1 hR1 hk1)
     | ((with_reducible refine qbz rfl _ _ _ rfl R rfl C rfl zC hR1 (qfz hz) (qrz.trans hz.symm) h1c ?_); intro W2 hR2 o2; have k2 := o2.below wr.heap.size wr (by have := hB1.out.1; omega) hk1; have k3 := hb.trans (k2.mono hbs))
     | (with_reducible refine qmz rfl _ _ rfl R rfl _ hR2 _ underlying43 rfl (qfz hz) ?_)
     | ((with_reducible refine (hPk _ hkn k3).mono ?_); rintro e w3 ⟨rfl, hb3⟩; have k4 := btz k3 hb3))
    go_ret
    exact ⟨by rw [List.all_eq_false.2 ⟨k, List.mem_range.2 hkn, by rw [hp]; decide⟩]; rfl, k4⟩
  ·obtain rfl : k = n := by omega
   go_wp2
   go_ret
   exact ⟨by rw [List.all_eq_true.2 fun j hj => hal.out j (List.mem_range.1 hj)]; rfl, hb⟩
end
end Go.Proofs.YthnpckhmdnjikaaGreat
