/-
 PROVED HERE: what slices.AppendSeq and slices.Collect of a view's above return when they are called (contracts over this tr. What is asked stands at each.
-/
import Derived.Test.YtnhjfjhbmekamaaGreatZ26
import Derived.Test.YtnhjfjhbmekamaaGreatZ28
import Derived.Test.YtnhjfjhbmekamaaGreatZ33
namespace Go.Proofs.YtnhjfjhbmekamaaGreat
set_option maxRecDepth 100000
set_option maxHeartbeats 8000000
open Go.RowKit Go.Shelf
set_option linter.unusedVariables false
attribute [local go_sem] Oper.semAt_some

theorem app_back {W w1 : World} {s r B : Nat} {t e : TypeId} {size : Nat} {v v' : Value} {k m : Nat} {xs ys : List Value} {tmp : Obj} (hv : Boxed W B t v) (hte : t ≠ e) (hrow : W.ownsRow r e size v k xs) (hs : s ≤ W.heap.size) (hsr : s ≤ r) (hB : s ≤ B)
  (hown' : w1.ownsRow r e size v' m ys) (hgrow : (W.alloc tmp).grownBy w1 v.ownBlock) :
  Boxed w1 B t v ∧ Boxed (w1.setCell ⟨B, 0, none⟩ v') B t v' ∧ (w1.setCell ⟨B, 0, none⟩ v').ownsRow r e size v' m ys ∧ KeepsOthers W (w1.setCell ⟨B, 0, none⟩ v') ∧ Below s W (w1.setCell ⟨B, 0, none⟩ v') ∧
  (∀ B' t' u, Boxed W B' t' u → t' ≠ e → B' ≠ B → Boxed (w1.setCell ⟨B, 0, none⟩ v') B' t' u) ∧ (∀ b, b < W.heap.size → b < r → b ≠ B → (w1.setCell ⟨B, 0, none⟩ v').heap[b]? = W.heap[b]?) ∧
  (∀ b C t', W.heap[b]? = some (.cells C t') → t' ≠ e → b ≠ B → (w1.setCell ⟨B, 0, none⟩ v').heap[b]? = some (.cells C t')) := by
 obtain ⟨h1, h2, _, h4, h5⟩ := hv.appended hte (own_base hsr hrow) hs hB (own_base hsr hown') hgrow
 refine ⟨h1, h2, hown'.kept (grownBy_setCell' w1 B v') (.inr (h1.not_row hte hown').symm), h4, h5, ?_, ?_, ?_⟩
 ·intro B' t' u hu ht hne
  exact ((hu.alloc tmp).kept hgrow (hu.not_row ht hrow)).other hne _
 ·intro b hbW hbr hne
  rw [Below.heap_setCell w1 ⟨B, 0, none⟩ _ b hne]
  refine (hgrow.block b (by simp; omega) (fun e' => ?_)).trans (Below.heap_alloc W tmp b hbW)
  have := (hrow.lt b e'.symm).1
  omega
 ·intro b C t' hc ht hne
  have hbW : b < W.heap.size := (Array.getElem?_eq_some_iff.1 hc).1
  rw [Below.heap_setCell w1 ⟨B, 0, none⟩ _ b hne]
  exact ((hgrow.block b (by simp; omega) (not_row hc ht hrow)).trans (Below.heap_alloc W tmp b hbW)).trans hc
theorem stay_row {β : Type} {B U base : Nat} {t tb e : TypeId} {size : Nat} (hU : U < B) (hte : t ≠ e) (f : β → Nat) (g : β → List Value) : StayT B t (fun s W => ∃ v, Boxed W U tb v ∧ W.ownsRow base e size v (f s) (g s) ∧ True) := by
 rintro s A A' row ⟨v, h1, h2, h3⟩ hg hr
 refine ⟨v, (hg.block U h1.lt (fun q => by have := (hr U q.symm).1; omega)).trans h1, ?_, trivial⟩
 refine ⟨h2.1, ?_⟩
 rcases h2.2 with q | ⟨r, c, cur, q1, q2, q3, q4⟩
 ·exact .inl q
 ·refine .inr ⟨r, c, cur, q1, q2, (hg.block r (Array.getElem?_eq_some_iff.1 q3).1 (fun q => ?_)).trans q3, q4⟩
  obtain ⟨_, C, hC⟩ := hr r q.symm
  rw [q3] at hC
  cases hC
  exact hte rfl
theorem appendSeq_v {w : World} {t ke ro i : Int} {ao : Option Addr} {n cap M Bh Bi Bv : Nat} {f : Int → Int × Int} (hn16 : n ≤ 4096) (hM : MapF w M f) (hBh : Boxed w Bh 71 (.map (some M))) (hBi : Boxed w Bi 22 (.int .u64 i)) (hBv : Blk w Bv #[.int .i64 t, .int .u64 ke, .int .u64 ro, .slice ao n cap] 70) :
  Calls Tryz.prog 88 #[.slice none 0 0, .func (.func 89) #[] #[.pointer (some ⟨Bh, 0, none⟩), .pointer (some ⟨Bi, 0, none⟩), .pointer (some ⟨Bv, 0, none⟩)]] w fun e w' => ∃ v, e = .returned v ∧ w'.ownsRow w.heap.size 22 1 v (upsF f n (f i)).length (wordsC (upsF f n (f i))) ∧ Below w.heap.size w w' := by
 obtain ⟨i0, hi, hz0, hz1, hz2⟩ := info_parts infoW
 refine (callsIn_wide (n := 5)).1 ?_
 refine callsIn_of_wp_marks Tryz.func88 rfl trivial ?_ rfl
 simp only [Tryz.ntmps88, List.size_toArray, List.length_cons, List.length_nil, Nat.reduceAdd, Nat.reduceSub, Array.replicate_succ, Array.replicate_zero, List.push_toArray, List.append_toArray, List.nil_append, List.cons_append]
 gi_wp2
 have hka := (Below.refl w.heap.size w).alloc (Nat.le_refl _) (.cells #[.slice none 0 0] 28)
 have hU := Boxed.new w 28 (.slice none 0 0)
 have hsz : (w.alloc (.cells #[.slice none 0 0] 28)).heap.size = w.heap.size + 1 := by simp
 generalize w.alloc (.cells #[.slice none 0 0] 28) = w2 at hka hU hsz ⊢
 have hM2 : MapF w2 M f := hM.block (hka.block _ hM.lt)
 have hBh2 : Boxed w2 Bh 71 (.map (some M)) := (hka.block _ hBh.lt).trans hBh
 have hBi2 : Boxed w2 Bi 22 (.int .u64 i) := (hka.block _ hBi.lt).trans hBi
 have hBv2 := hBv.next hka
 have hD : ∀ b, b < w.heap.size → b < w2.heap.size := fun b hb => by omega
 have hul := ups_len f n (f i)
 refine wpIn_rangeT rfl (by omega) (gf := 89) (lb := #[.pointer (some ⟨Bh, 0, none⟩), .pointer (some ⟨Bi, 0, none⟩), .pointer (some ⟨Bv, 0, none⟩)]) rfl trivial (enters_of Tryz.func89 (by kernel_rfl) rfl)
  (above1_T _ (by omega) Bh Bi Bv M (fun b => b < w.heap.size) hn16 w2 hD hBh.lt hBi.lt hBv.lt hM.lt hBh2 hBi2 hBv2 hM2) hD (Below.refl _ _) (fun _ => rfl)
  (fun pre W => (∃ v, Boxed W w.heap.size 28 v ∧ W.ownsRow w2.heap.size 22 1 v pre.length (pre.map (Value.int .u64)) ∧ True) ∧ Below w.heap.size w W)
  (OwnFrom.and (Own.from (holdsRow_own w2.heap.size w.heap.size 28 22 1 (fun (pre : List Int) => pre.length) (fun (pre : List Int) => pre.map (Value.int .u64)) (fun _ _ => True)) _) (ownFrom_below (Nat.le_refl _) (by omega)))
  (StayT.and (stay_row (by omega) (by decide) (fun (pre : List Int) => pre.length) (fun (pre : List Int) => pre.map (Value.int .u64))) (stay_below (by omega) (Nat.le_refl _)))
  ⟨⟨_, hU, World.ownsRow_nil _ _ _ _, trivial⟩, hka⟩
  (fun x => { tmps := #[.slice none 0 0, .func (.func 89) #[] #[.pointer (some ⟨Bh, 0, none⟩), .pointer (some ⟨Bi, 0, none⟩), .pointer (some ⟨Bv, 0, none⟩)], .pointer (some ⟨w.heap.size, 0, none⟩), undef, .slice none 0 0, .int .u64 x, .func (.func 89) #[] #[.pointer (some ⟨Bh, 0, none⟩), .pointer (some ⟨Bi, 0, none⟩), .pointer (some ⟨Bv, 0, none⟩)], .int .u64 x, undef, undef, undef, undef, undef], defers := [] })
  ?assign ?body ?done
 case assign =>
  intro l x W K hK
  refine (fun (hh : ∀ T : Array Value, T = #[.slice none 0 0, .func (.func 89) #[] #[.pointer (some ⟨Bh, 0, none⟩), .pointer (some ⟨Bi, 0, none⟩), .pointer (some ⟨Bv, 0, none⟩)], .pointer (some ⟨w.heap.size, 0, none⟩), undef, .slice none 0 0, undef, .func (.func 89) #[] #[.pointer (some ⟨Bh, 0, none⟩), .pointer (some ⟨Bi, 0, none⟩), .pointer (some ⟨Bv, 0, none⟩)], .int .u64 x, undef, undef, undef, undef, undef] → Code.wpIn _ _ _ _ _ { tmps := T, defers := [] } W) => hh _ (by kernel_rfl)) ?_
  rintro T rfl
  gi_wp2
  exact hK
 case body =>
  rintro l pre x W hl ⟨⟨v, bO1, hrow, _⟩, hB⟩ hlt
  have cO := bO1.cell
  gi_wp2_with (gi_at_builtin; refine wpListIn_append_own _ rfl _ _ 28 rfl w2.heap.size 22 i0 (.int .u64 0) 1 8 Tryz.underlying28 hi hz0 hz1 hz2 rfl (by decide) _ _ _ rfl (hrow.alloc _) ⟨W.heap.size, 0, none⟩ 1 1 [.int .u64 x] rfl rfl (cell_one_new _ _ _) (by simp [Value.oneCell']) (by unfold maxLen; omega) (by omega) (by have := bO1.lt; simp; omega) ?_; intro v' w3 hown' hgrow _; obtain ⟨g', cap', rfl⟩ := ownsRow_two hown'; obtain ⟨hv1, hv2, hr2, hk2, hb2, ho2, hd2, hy2⟩ := app_back (s := w.heap.size) bO1 (by decide) hrow hB.size (by omega) (Nat.le_refl _) hown' hgrow; have hc1 := hv1.cell; have hf1 := hv1.frozen)
  exact ⟨hk2.from _, ⟨⟨hb2.size, fun b hb => hd2 b (Nat.lt_of_lt_of_le hb hB.size) (by omega) (by omega)⟩, fun b C hb hc => hy2 b C _ hc (by decide) (by omega)⟩, ⟨_, hv2, by simpa [hsz] using hr2⟩, hB.trans hb2⟩
 case done =>
  rintro Dd ys W hD2 rfl ⟨⟨v, bO1, hrow, _⟩, hB⟩ hK
  have cO := bO1.cell
  obtain ⟨aoL, capL, rfl, _⟩ := own_ct (L := upsF f n (f i)) hrow
  gi_wp2
  refine ⟨by simp, .inl ⟨_, _, rfl, run_takeDeferred hK, ?_⟩⟩
  exact ⟨_, results_tmp rfl _ _ _, _, rfl, own_base (by omega) (ownsRow_putObj hrow _ hK rfl), hB.trans (belowK_b (w := w) (Nat.le_refl _) W Dd _ _ (by omega) hK rfl rfl)⟩
theorem collect_v {w : World} {t ke ro i : Int} {ao : Option Addr} {n cap M Bh Bi Bv : Nat} {f : Int → Int × Int} (hn16 : n ≤ 4096) (hM : MapF w M f) (hBh : Boxed w Bh 71 (.map (some M))) (hBi : Boxed w Bi 22 (.int .u64 i)) (hBv : Blk w Bv #[.int .i64 t, .int .u64 ke, .int .u64 ro, .slice ao n cap] 70) :
  Calls Tryz.prog 57 #[.func (.func 89) #[] #[.pointer (some ⟨Bh, 0, none⟩), .pointer (some ⟨Bi, 0, none⟩), .pointer (some ⟨Bv, 0, none⟩)]] w fun e w' => ∃ v, e = .returned v ∧ w'.ownsRow w.heap.size 22 1 v (upsF f n (f i)).length (wordsC (upsF f n (f i))) ∧ Below w.heap.size w w' := by
 have hap := appendSeq_v hn16 hM hBh hBi hBv
 generalize upsF f n (f i) = L at hap ⊢
 go_enter Tryz.func57, Tryz.ntmps57
 go_wp2_with (go_at_call 88; (with_reducible refine hap.mono ?_); rintro e w1 ⟨v, rfl, hown, hb1⟩)
 go_ret
 exact ⟨v, rfl, hown, hb1⟩
end Go.Proofs.YtnhjfjhbmekamaaGreat
namespace Go.Proofs.YtnhjfjhbmekamaaGreat
set_option maxRecDepth 100000
set_option maxHeartbeats 8000000
open Go.RowKit Go.Shelf
set_option linter.unusedVariables false
attribute [local go_sem] Oper.semAt_some

theorem tabove_v {w : World} {t ke ro i : Int} {ao : Option Addr} {n cap : Nat} {X : List Ob} {Cf : Nat → Array Value} (h : ObsF (LtN w) (LtN w) w ao n cap X Cf) (hs : Srt X) (hn16 : n ≤ 4096) (hll : ∀ x ∈ X, x.links.length < 4294967296) : Calls Tryz.prog 21 #[.agg #[.int .i64 t, .int .u64 ke, .int .u64 ro, .slice ao n cap], .int .u64 i] w fun e w' => ∃ v, e = .returned v ∧ w'.ownsRow w.heap.size 22 1 v (upsF (hldF X) X.length (hldF X i)).length (wordsC (upsF (hldF X) X.length (hldF X i))) ∧ Below w.heap.size w w' := by
 have hmx : Tryz.prog.follows .mixedOrders = true := by kernel_rfl
 have hn : X.length = n := h.1
 have hzw : (Tryz.prog.info? 25).map (·.size) = some (#[.int .i64 t, .int .u64 ke, .int .u64 ro, .slice ao n cap] : Array Value).size := by kernel_rfl
 have hzv : (Tryz.prog.info? 70).map (·.size) = some (#[.int .i64 t, .int .u64 ke, .int .u64 ro, .slice ao n cap] : Array Value).size := by kernel_rfl
 have hbt : Tryz.prog.built 70 [(0, .agg #[.int .i64 t, .int .u64 ke, .int .u64 ro, .slice ao n cap])] = some #[.int .i64 t, .int .u64 ke, .int .u64 ro, .slice ao n cap] := by kernel_rfl
 have hz4 : (#[.int .i64 0, .int .u64 0, .int .u64 0, .slice none 0 0] : Array Value).size = (#[.int .i64 t, .int .u64 ke, .int .u64 ro, .slice ao n cap] : Array Value).size := rfl
 have h14 : (#[.int .i64 t, .int .u64 ke, .int .u64 ro, .slice ao n cap] : Array Value).all (·.oneCell') = true := by simp [Value.oneCell']
 have hho := fun (W : World) (hk : Below w.heap.size w W) => holdings_v (t := t) (ke := ke) (ro := ro) (h.next hk) hs hn16 hll
 rw [hn]
 obtain ⟨G, hG⟩ : ∃ G : Array Value, Hid (G = #[.int .i64 t, .int .u64 ke, .int .u64 ro, .slice ao n cap]) := ⟨_, rfl⟩
 rw [← hG.out] at hzw hzv hbt hz4 h14 hho
 rw [← hG.out]
 go_enter Tryz.func21, Tryz.ntmps21
 go_wp2_with (first
  | (with_reducible refine wpList_box rfl 25 _ rfl G rfl ?_; intro B2 W2 hN2 hB2 hk)
  | (with_reducible refine wpList_loadb (by kernel_rfl) 25 _ rfl B2 rfl G hB2 _ Tryz.underlying25 (by kernel_rfl) hzw ?_)
  | ((with_reducible refine wpList_buildw (by kernel_rfl) _ [(0, .tmp 6)] rfl G ?hf ?_); (case hf => exact hbt))
  | ((with_reducible refine wpList_alloc rfl 70 rfl #[.int .i64 0, .int .u64 0, .int .u64 0, .slice none 0 0] Tryz.zeroValue70 ?_); intro B5 W3 hN3 hR3 hk3)
  | ((with_reducible refine wpList_store_blk rfl _ _ _ rfl B5 rfl G rfl _ hR3 hzv hz4 h14 ?_); intro W5 hB5 o4; replace hk := o4.below w.heap.size w (by have := hN3.out; have := hk.size; omega) (hk.trans (hk3.mono hk.size))))
 clear hN2 hN3 hR3 hk3 o4
 refine PgM.region_out (S := fun W => Below W5.heap.size W5 W) hmx ((Below.refl _ _).drew) (fun hS => ?_)
 generalize W5.drew = v5 at hS ⊢
 refine wpAnyH_sym (by kernel_rfl) (fun _ _ _ _ _ h => h) hS [(0, some (.agg G)), (1, none), (2, some (.agg G))] (l' := #[true, true, true, false, false, false, false]) (a' := { tmps := #[.agg G, .int .u64 i, .pointer (some ⟨B2, 0, none⟩), undef, .slice none 0 0, .pointer (some ⟨B5, 0, none⟩), .agg G, .agg G, .agg G, .int .u64 i, .agg G, ud, ud, undef], defers := [] }) (obs := [.load 70 B5 0 (.agg G), .load 70 B5 0 (.agg G)]) (n := 4) (by kernel_rfl) (by kernel_rfl) ⟨ob_loadb (fun _ h => hB5.next h) Tryz.underlying70 (by kernel_rfl) hzv, ob_loadb (fun _ h => hB5.next h) Tryz.underlying70 (by kernel_rfl) hzv, trivial⟩ ?_
 refine wpAnyH_callL (i := 3) (fuel := 3) (f := 37) (vs := [.agg G]) (d := some 11) (by kernel_rfl) (by kernel_rfl) (by kernel_rfl) Tryz.call37 (hho _ (hk.trans (hS.mono hk.size))) ?_
 rintro e v6 ⟨M, rfl, hM, hwM, hb⟩
 have hS6 : Below W5.heap.size W5 v6 := hS.trans (hb.mono hS.size)
 refine ⟨_, rfl, hS6, ?_⟩
 refine wpAnyH_callL (i := 4) (fuel := 2) (f := 58) (vs := [.agg G, .int .u64 i, .map (some M)]) (d := some 12) (by kernel_rfl) (by kernel_rfl) (by kernel_rfl) Tryz.call58 (above_any) ?_
 rintro e v7 ⟨Bv, Bi, Bh, rfl, hBv, hBi, hBh, hge, hb⟩
 have hS7 : Below W5.heap.size W5 v7 := hS6.trans (hb.mono hS6.size)
 refine ⟨_, rfl, hS7, ?_⟩
 have hM7 := hM.block (hb.block _ hM.lt)
 have hBv7 : Blk v7 Bv #[.int .i64 t, .int .u64 ke, .int .u64 ro, .slice ao n cap] 70 := by rw [← hG.out]; exact hBv
 refine wpAnyH_callL (i := 5) (fuel := 1) (f := 57) (vs := [.func (.func 89) #[] #[.pointer (some ⟨Bh, 0, none⟩), .pointer (some ⟨Bi, 0, none⟩), .pointer (some ⟨Bv, 0, none⟩)]]) (d := some 13) (by kernel_rfl) (by kernel_rfl) (by kernel_rfl) Tryz.call57 (collect_v hn16 hM7 hBh hBi hBv7) ?_
 rintro e v8 ⟨V, rfl, hown, hb⟩
 have hS8 : Below W5.heap.size W5 v8 := hS7.trans (hb.mono hS7.size)
 refine ⟨_, rfl, hS8, ?_⟩
 refine wpAnyH_sym (by kernel_rfl) (fun _ _ _ _ _ h => h) hS8 [(6, none)] (l' := #[true, true, true, true, true, true, true]) (a' := { tmps := #[.agg G, .int .u64 i, .pointer (some ⟨B2, 0, none⟩), undef, V, .pointer (some ⟨B5, 0, none⟩), .agg G, .agg G, .agg G, .int .u64 i, .agg G, .map (some M), .func (.func 89) #[] #[.pointer (some ⟨Bh, 0, none⟩), .pointer (some ⟨Bi, 0, none⟩), .pointer (some ⟨Bv, 0, none⟩)], V], defers := [] }) (obs := []) (n := 0) (by kernel_rfl) (by kernel_rfl) trivial ?_
 refine wpAnyH_done (by kernel_rfl) ?_ _
 go_wp2
 go_ret
 exact ⟨V, rfl, own_base (Nat.le_trans hk.size hS7.size) hown, hk.trans (hS8.mono hk.size)⟩
end Go.Proofs.YtnhjfjhbmekamaaGreat
