/-
 PROVED HERE: what a view's holdings returns when it is called (a contract over this translation); what a view's above hands. What is asked stands at each.
-/
import Derived.Test.YtklnneiblmakmaaGreatZ27
import Derived.Test.YtklnneiblmakmaaGreatZ33
import Derived.Test.YtklnneiblmakmaaGreatZ34
namespace Go.Proofs.YtklnneiblmakmaaGreat
set_option maxRecDepth 100000
set_option maxHeartbeats 8000000
set_option linter.unusedVariables false
open Go.Proofs.Tryz
section
open Go.RowKit Go.Shelf
attribute [local go_sem] Oper.semAt_some
theorem yQz {w : World} {t ke ro : Int} {ao : Option Addr} {n cap : Nat} {X : List Ob} {Cf : Nat → Array Value} (h : ObsF (LtN w) (LtN w) w ao n cap X Cf) (hs : Srt X) (hn16 : n ≤ 4096) (hll : ∀ x ∈ X, x.links.length < 4294967296) : Calls prog 64 #[.agg #[.int .i64 t, .int .u64 ke, .int .u64 ro, .slice ao n cap]] w fun e w' => ∃ M, e = .returned (.map (some M)) ∧ MapF w' M (hldF X) ∧ w.heap.size ≤ M ∧ Below w.heap.size w w' := by
 have hn : Hid (X.length = n) := h.1
 have hnc := h.2.1
 have hcm := h.2.2.1.1
 have hzv : (prog.info? 74).map (·.size) = some (#[.int .i64 t, .int .u64 ke, .int .u64 ro, .slice ao n cap] : Array Value).size := by kernel_rfl
 have c3 : (#[.int .i64 t, .int .u64 ke, .int .u64 ro, .slice ao n cap] : Array Value)[3]? = some (.slice ao n cap) := rfl
 obtain ⟨G, hG⟩ : ∃ G : Array Value, Hid (G = #[.int .i64 t, .int .u64 ke, .int .u64 ro, .slice ao n cap]) := ⟨_, rfl⟩
 rw [← hG.out] at hzv c3
 rw [← hG.out]
 refine (callsIn_wide (n := 5)).1 ?_
 refine callsIn_of_wp_marks func64 rfl trivial ?_ rfl
 simp only [ntmps64, List.size_toArray, List.length_cons, List.length_nil, Nat.reduceAdd, Nat.reduceSub, Array.replicate_succ, Array.replicate_zero, List.push_toArray, List.append_toArray, List.nil_append, List.cons_append]
 gi_wp2_with (first
  | (with_reducible refine xFz (fun _ => trivial) (by kernel_rfl) _ _ rfl G rfl ?_; intro B2 W2 hN2 hB2 hk)
  | (with_reducible refine inL_make (fun _ => trivial) (by kernel_rfl) _ rfl ?_; intro M W3 hN3 hM hk3; replace hB2 := hB2.next hk3; replace hk := btz hk hk3; have hka := (Below.refl W3.heap.size W3).alloc (Nat.le_refl _) (.cells #[.map (some M)] 96); have hU := Boxed.new W3 96 (.map (some M)); replace hB2 := hB2.next hka; have g3 := (hB2.cell 3).trans c3))
 have hwM : w.heap.size ≤ M := by have := hN3.out; have := hN2.out; omega
 have hMU : M < W3.heap.size := hM.lt
 have hb2l : B2 < W3.heap.size ∧ B2 ≠ M := by have := hN3.out; have := hN2.out; omega
 have hM0 := hM.next hka
 have hk0 := btz hk hka
 have hsz : (W3.alloc (.cells #[.map (some M)] 96)).heap.size = W3.heap.size + 1 := by simp
 generalize W3.alloc (.cells #[.map (some M)] 96) = W0 at hU hB2 hM0 hk0 hsz ⊢
 generalize W3.heap.size = U at hU hMU hb2l hsz ⊢
 clear hN2 hN3 hk hk3 hka hM g3
 refine wpIn_loop (fun a wr => ∃ (k : Nat) (u5 u14 u15 u16 u17 u18 u19 u39 : Value) (Ds : List Nat), a = { tmps := #[.agg G, .pointer (some ⟨B2, 0, none⟩), .map none, .pointer (some ⟨U, 0, none⟩), undef, u5, undef, undef, .map (some M), .pointer (some ⟨B2, 0, none⟩), .pointer (some ⟨B2, 3, none⟩), .slice ao n cap, .int .i64 n, .int .i64 k, u14, u15, u16, u17, u18, u19, undef, undef, undef, undef, undef, undef, undef, undef, undef, undef, undef, undef, undef, undef, undef, undef, undef, undef, undef, u39, undef], defers := mks Ds } ∧ k ≤ n ∧ Hid (MapF wr M ((X.take k).foldl (stpD X) fun _ => (0, 0))) ∧ Below w.heap.size w wr ∧ Boxed wr U 96 (.map (some M)) ∧ Blk wr B2 G 74 ∧ Hid (Ds.Nodup ∧ ∀ D ∈ Ds, U < D ∧ wr.heap[D]? = some (.deferred (some [])))) (fun a _ => n - (intOf (a.tmps.getD 13 undef)).toNat) ⟨0, undef, undef, undef, undef, undef, undef, undef, undef, [], rfl, Nat.zero_le _, hM0, hk0, hU, hB2, List.nodup_nil, fun D hD => absurd hD (List.not_mem_nil)⟩ ?_
 rintro a wr ⟨k, u5, u14, u15, u16, u17, u18, u19, u39, Ds, rfl, hkn0, hMk, hbw, hUw, hBw, hDs⟩
 clear hM0 hk0 hU hB2 hsz
 have cU := hUw.cell
 by_cases hkn : k < n
 ·obtain ⟨b, off, rfl, hbb, hrr⟩ := h.2.2.2.1 (by omega)
  have hr := qtz (hrr k hkn) (hbw.block b hbb)
  have hC := (h.2.2.2.2 k hkn)
  have hz := hC.size
  have h1c := hC.one
  have hkn' : (k : Int) < n := by omega
  clear hrr
  gi_wp2_with (first
   | (with_reducible refine j1z (fun _ => trivial) (by kernel_rfl) 43 _ rfl b _ rfl (Cf k) hr _ underlying43 (by kernel_rfl) (qfz hz) ?_)
   | ((with_reducible refine wjz (fun _ => trivial) (by kernel_rfl) _ rfl zC qqz ?_); intro R W5 hN5 hR5 hk5)
   | ((with_reducible refine qKz (fun _ => trivial) (by kernel_rfl) _ _ _ rfl R rfl (Cf k) rfl zC hR5 (qfz hz) (qmz.trans hz.symm) h1c ?_); intro W6 hR6 o6; have k6 := o6.below wr.heap.size wr (by have := hN5.out.1; omega) hk5; have hB6 := hBw.next k6)
   | (with_reducible refine qLz (fun _ => trivial) (by kernel_rfl) _ _ rfl R rfl (Cf k) _ hR6 _ underlying43 (by kernel_rfl) (qfz hz) ?_)
   | (with_reducible refine qLz (fun _ => trivial) (by kernel_rfl) _ _ rfl B2 rfl G _ hB6 _ underlying74 (by kernel_rfl) hzv ?_)
   | (refine ⟨trivial, ?_⟩; gi_at_call 80; (with_reducible refine (callsIn_wide.2 xEz).mono ?_); rintro e w2 ⟨Bv, Bd, rfl, hBv, hBd, hvd, hv1, hd1, hb2⟩))
  have hMw6 := (hMk.out.next k6).next hb2
  have hwr6 : wr.heap.size ≤ W6.heap.size := k6.size
  have hUl := hUw.lt
  have hUW2 : Boxed w2 U 96 (.map (some M)) := (hb2.block _ (by omega)).trans ((k6.block _ hUl).trans hUw)
  have hBW2 : Blk w2 B2 G 74 := hB6.next hb2
  have hRW2 : Blk w2 R (Cf k) 43 := hR6.next hb2
  have hk2 : Below w.heap.size w w2 := (btz hbw k6).trans (hb2.mono (Nat.le_trans hbw.size hwr6))
  have hM2l : M < w2.heap.size := hMw6.lt
  have hDs2 : ∀ D ∈ Ds, (U < D ∧ w2.heap[D]? = some (.deferred (some []))) ∧ D < w2.heap.size := fun D hD => by
   obtain ⟨q1, q2⟩ := hDs.out.2 D hD
   have ql := (Array.getElem?_eq_some_iff.1 q2).1
   exact ⟨⟨q1, (hb2.block D (by omega)).trans ((k6.block D ql).trans q2)⟩, by have := hb2.size; omega⟩
  have hnd : Hid Ds.Nodup := hDs.out.1
  have hRM : R ≠ M := by have := hN5.out.1; omega
  have hdM : Bd ≠ M := by omega
  have hvM : Bv ≠ M := by omega
  obtain ⟨fk, hfk⟩ : ∃ fk, Hid ((X.take k).foldl (stpD X) (fun _ => (0, 0)) = fk) := ⟨_, rfl⟩
  rw [hfk.out] at hMw6
  have hfb : Hid (∀ i, 0 ≤ (fk i).1 ∧ (fk i).1 ≤ 17596481011712) := by
   show ∀ i, 0 ≤ (fk i).1 ∧ (fk i).1 ≤ 17596481011712
   intro i
   have h1 := hld_le (X := X) (X.take k) (fun _ => (0, 0)) 0 (fun x hx => hll x (List.mem_of_mem_take hx)) (fun _ => ⟨Int.le_refl _, Int.le_refl _⟩) i
   have h2 : (X.take k).length ≤ k := List.length_take_le ..
   rw [hfk.out] at h1
   omega
  have hc0 := hC.id
  obtain ⟨d, hd⟩ : ∃ d, Hid ((oat X k).id = d) := ⟨_, rfl⟩
  rw [hd.out] at hc0
  clear hMk hk5 hR5 o6 hR6 hB6 hBw k6 hr hDs hUw cU hN5 hb2
  have hD : ∀ b, (b ≠ M ∧ b < w2.heap.size) → b < w2.heap.size := fun b hb => hb.2
  have hDw : ∀ b, b < w.heap.size → (b ≠ M ∧ b < w2.heap.size) := fun b hb => ⟨by omega, by have := hk2.size; omega⟩
  have hX2 : ObsF (fun b => b ≠ M ∧ b < w2.heap.size) (fun b => b ≠ M ∧ b < w2.heap.size) w2 _ n cap X Cf := (h.laterK (fun b hb => hk2.block b hb) (fun b hb => hk2.block b hb)).wide (fun b hb => hDw b hb) (fun b hb => hDw b hb)
  obtain ⟨al, nl, cl, c5, hL⟩ := hC.links
  have hL2 : CtD (fun b => b ≠ M ∧ b < w2.heap.size) w2 al nl cl (oat X k).links := (hL.laterK fun b hb => hk2.block b hb).wide fun b hb => hDw b hb
  refine wpIn_rangeFunc_ownH rfl (by omega) (gf := 111) (lb := #[.pointer (some ⟨Bd, 0, none⟩), .pointer (some ⟨Bv, 0, none⟩)]) rfl trivial (enters_of func111 (by kernel_rfl) rfl)
   (w1z _ (by omega) Bd Bv (fun b => b ≠ M ∧ b < w2.heap.size) hs hn16 w2 hD ⟨hdM, hBd.lt⟩ ⟨hvM, hBv.lt⟩ hBd c5 (by rw [← hG.out]; exact hBv) hX2 hL2) keepsK_t (keepsK_b hD) (Below.refl _ _) (fun _ => rfl)
   (fun pre W => MapF W M ((pre.map fun m => (oat X m).id).foldl (stpH d) fk) ∧ Below w.heap.size w2 W ∧ Keeps (fun b => b ≠ M ∧ b < w2.heap.size) w2 W)
   (fun cd pre W => False ∧ Below w.heap.size w2 W)
   (OwnFrom.and (vzz hM2l _) (OwnFrom.and (ownFrom_below hk2.size hk2.size) (kCz hD (Nat.le_refl _))))
   (fun cd => OwnFrom.and (ownFrom_pure _ _) (ownFrom_below hk2.size hk2.size))
   ⟨hMw6, Below.refl _ _, Keeps.refl _ _⟩
   (fun x a2 W => ∃ R', a2 = { tmps := #[.agg G, .pointer (some ⟨B2, 0, none⟩), .map none, .pointer (some ⟨U, 0, none⟩), undef, .pointer (some ⟨R, 0, none⟩), .pointer (some ⟨R', 0, none⟩), undef, .map (some M), .pointer (some ⟨B2, 0, none⟩), .pointer (some ⟨B2, 3, none⟩), .slice (some ⟨b, off, none⟩) n cap, .int .i64 n, .int .i64 k, .bool true, .pointer (some ⟨b, off + k * 51, none⟩), .agg (Cf k), .agg G, .agg (Cf k), .func (.func 111) #[] #[.pointer (some ⟨Bd, 0, none⟩), .pointer (some ⟨Bv, 0, none⟩)], .agg (cfo X Cf x), undef, undef, undef, undef, undef, undef, undef, undef, undef, undef, undef, undef, undef, undef, undef, undef, undef, undef, u39, undef], defers := [] } ∧ Blk W R' (cfo X Cf x) 43 ∧ R' ≠ M)
   (fun x a2 s A B row ⟨R', e, hb, hn⟩ hg hr => ⟨R', e, hb.own hg (fun r q => (hr r q).2), hn⟩)
   ?assign ?body ?done ?stop
  case assign =>
   rintro l pre x W K ⟨hI1, hI2, hI3⟩ hK
   have hco := kTz h x
   dsimp only [encO]
   generalize cfo X Cf x = Cx at hco hK ⊢
   refine (fun (hh : ∀ T : Array Value, T = #[.agg G, .pointer (some ⟨B2, 0, none⟩), .map none, .pointer (some ⟨U, 0, none⟩), undef, .pointer (some ⟨R, 0, none⟩), undef, undef, .map (some M), .pointer (some ⟨B2, 0, none⟩), .pointer (some ⟨B2, 3, none⟩), .slice (some ⟨b, off, none⟩) n cap, .int .i64 n, .int .i64 k, .bool true, .pointer (some ⟨b, off + k * 51, none⟩), .agg (Cf k), .agg G, .agg (Cf k), .func (.func 111) #[] #[.pointer (some ⟨Bd, 0, none⟩), .pointer (some ⟨Bv, 0, none⟩)], .agg Cx, undef, undef, undef, undef, undef, undef, undef, undef, undef, undef, undef, undef, undef, undef, undef, undef, undef, undef, u39, undef] → Code.wpIn _ _ _ _ _ { tmps := T, defers := [] } W) => hh _ (by kernel_rfl)) ?_
   rintro T rfl
   have hsx := hco.size
   have h1x := hco.one
   clear hco
   gi_wp2_with (first
    | ((with_reducible refine wjz (fun _ => trivial) (by kernel_rfl) _ rfl zC qqz ?_); intro R' W5 hN5 hR5 hk5)
    | ((with_reducible refine qKz (fun _ => trivial) (by kernel_rfl) _ _ _ rfl R' rfl Cx rfl zC hR5 (qfz hsx) (qmz.trans hsx.symm) h1x ?_); intro W6 hR6 o6))
   have kb : Below W.heap.size W W6 := o6.below W.heap.size W (by have := hN5.out; omega) hk5
   have hRM' : R' ≠ M := by have := hN5.out; have := hI1.lt; omega
   exact hK _ _ (xbz kb _) ⟨kb.size, fun b hb => kb.block b (Nat.lt_of_lt_of_le hb.2 hI3.1)⟩ ⟨hI1.next kb, hI2.trans (kb.mono (Nat.le_trans hk2.size hI2.size)), hI3.trans ⟨kb.size, fun b hb => kb.block b (Nat.lt_of_lt_of_le hb.2 hI3.1)⟩⟩ ⟨R', rfl, hR6, hRM'⟩
  case body =>
   rintro l pre x a2 W hl ⟨r2, hr2⟩ ⟨hMp, hI2, hI3⟩ ⟨R', rfl, hR', hRM'⟩ hlt
   have hci := (kTz h x).id
   obtain ⟨i, hi⟩ : ∃ i, Hid ((oat X x).id = i) := ⟨_, rfl⟩
   rw [hi.out] at hci
   have ci : W.cell? ⟨R', 0, none⟩ = some (.int .u64 i) := (hR'.cell 0).trans hci
   generalize cfo X Cf x = Cx at hR' ⊢
   have hUW : Boxed W U 96 (.map (some M)) := (hI3.2 U ⟨by omega, hUW2.lt⟩).trans hUW2
   have cUW := hUW.cell
   have hRw : Blk W R (Cf k) 43 := (hI3.2 R ⟨hRM, hRW2.lt⟩).trans hRW2
   have cd : W.cell? ⟨R, 0, none⟩ = some (.int .u64 d) := (hRw.cell 0).trans hc0
   have hcb := ucz (d := d) (pre.map fun m => (oat X m).id) fk hfb.out i
   obtain ⟨f, hfo⟩ : ∃ f, Hid (f = (pre.map fun m => (oat X m).id).foldl (stpH d) fk) := ⟨_, rfl⟩
   rw [← hfo.out] at hMp hcb
   have hle : (hitO X (oat X k).links).length ≤ (oat X k).links.length := List.length_filterMap_le ..
   have hlk := hll _ (qXz (show k < X.length by rw [hn.out]; exact hkn))
   rw [List.length_map] at hcb
   obtain ⟨c, hc⟩ : ∃ c, Hid ((f i).1 = c) := ⟨_, rfl⟩
   obtain ⟨g, hg⟩ : ∃ g, Hid ((f i).2 = g) := ⟨_, rfl⟩
   rw [hc.out] at hcb
   have hwr : IntKind.i64.wrap (c + 1) = c + 1 := by rw [IntKind.wrap_i64]; omega
   clear hcb hle hlk hlt
   have hfi : f i = (c, g) := Prod.ext hc.out hg.out
   by_cases hc0' : c = 0
   ·subst hc0'
    gi_wp2_with (first
     | (with_reducible refine xcz (fun _ => trivial) (by kernel_rfl) _ _ rfl M rfl i rfl f hMp ?_; rw [hc.out, hg.out])
     | ((with_reducible refine wjz (fun _ => trivial) (by kernel_rfl) _ rfl #[.int .i64 0, .int .u64 0] Tryz.zeroValue126 ?_); intro R7 W7 hN7 hR7 hk7)
     | ((with_reducible refine qKz (fun _ => trivial) (by kernel_rfl) _ _ _ rfl R7 rfl #[.int .i64 0, .int .u64 g] rfl _ hR7 (by kernel_rfl) (xoz _ _ _ _) (x9z _ _ _ _) ?_); intro W8 hR8 o8; have k8 := o8.below W.heap.size W (by have := hN7.out.1; omega) hk7; have z8 : W8.cell? ⟨R7, 0, none⟩ = some (.int .i64 0) := hR8.cell 0; have y8 : W8.cell? ⟨R, 0, none⟩ = some (.int .u64 d) := (k8.cell (p := ⟨R, 0, none⟩) hRw.lt).trans cd)
     | ((with_reducible refine wDz (fun _ => trivial) (by kernel_rfl) _ _ _ rfl R7 1 rfl (.int .u64 d) rfl (kvz _ _) _ _ hR8 (by kernel_rfl) (two_lt1 _ _) (k7z _ _) ?_); intro W9 hR9 o9; have k9 := o9.below W.heap.size W (by have := hN7.out.1; omega) k8; replace hR9 : Blk W9 R7 #[.int .i64 0, .int .u64 d] 126 := hR9; have z9 : W9.cell? ⟨R7, 0, none⟩ = some (.int .i64 0) := hR9.cell 0)
     | ((with_reducible refine wDz (fun _ => trivial) (by kernel_rfl) _ _ _ rfl R7 0 rfl (.int .i64 1) rfl (kvz _ _) _ _ hR9 (by kernel_rfl) (y8z _ _) (k7z _ _) ?_); intro W10 hR10 o10; have k10 := o10.below W.heap.size W (by have := hN7.out.1; omega) k9; (try rw [hwr] at hR10); replace hR10 : Blk W10 R7 #[.int .i64 1, .int .u64 d] 126 := hR10; have cu10 : W10.cell? ⟨U, 0, none⟩ = some (.map (some M)) := (k10.cell (p := ⟨U, 0, none⟩) hUW.lt).trans cUW; have ci10 : W10.cell? ⟨R', 0, none⟩ = some (.int .u64 i) := (k10.cell (p := ⟨R', 0, none⟩) hR'.lt).trans ci)
     | (with_reducible refine qLz (fun _ => trivial) (by kernel_rfl) _ _ rfl R7 rfl _ _ hR10 _ underlying126 (by kernel_rfl) (by kernel_rfl) ?_)
     | ((with_reducible refine u9z (fun _ => trivial) (by kernel_rfl) _ _ _ rfl M rfl i rfl (1, d) rfl f (hMp.next k10) ?_); intro ob hMq))
    have hme : (fun j => if j = i then (1, d) else f j) = ((pre ++ [x]).map fun m => (oat X m).id).foldl (stpH d) fk := by
     rw [List.map_append, List.foldl_append, ← hfo.out]
     show _ = stpH d f (oat X x).id
     rw [hi.out]
     funext j
     unfold stpH
     rw [hc.out, hg.out]
     rfl
    rw [hme] at hMq
    exact ⟨(xbz k10 _).trans (KeepsFrom.of_grownBy (grownBy_putObj' _ M ob) (fun j e => by cases e; exact hM2l)), ⟨by simpa [World.putObj] using k10.size, fun b' hb' => (World.putObj_heap_other hb'.1).trans (k10.block b' (Nat.lt_of_lt_of_le hb'.2 hI3.1))⟩, hMq, hI2.trans ((k10.mono (Nat.le_trans hk2.size hI2.size)).trans ⟨rfl, rfl, rfl, by simp [World.putObj], fun q hq => World.putObj_heap_other (by omega)⟩), hI3.trans ⟨by simpa [World.putObj] using k10.size, fun b' hb' => (World.putObj_heap_other hb'.1).trans (k10.block b' (Nat.lt_of_lt_of_le hb'.2 hI3.1))⟩⟩
   ·have hcb' : (c == 0) = false := by simpa using hc0'
    gi_wp2_with (first
     | (with_reducible refine xcz (fun _ => trivial) (by kernel_rfl) _ _ rfl M rfl i rfl f hMp ?_; rw [hc.out, hg.out])
     | ((with_reducible refine wjz (fun _ => trivial) (by kernel_rfl) _ rfl #[.int .i64 0, .int .u64 0] Tryz.zeroValue126 ?_); intro R7 W7 hN7 hR7 hk7)
     | ((with_reducible refine qKz (fun _ => trivial) (by kernel_rfl) _ _ _ rfl R7 rfl #[.int .i64 c, .int .u64 g] rfl _ hR7 (by kernel_rfl) (xoz _ _ _ _) (x9z _ _ _ _) ?_); intro W8 hR8 o8; have k8 := o8.below W.heap.size W (by have := hN7.out.1; omega) hk7; have z8 : W8.cell? ⟨R7, 0, none⟩ = some (.int .i64 c) := hR8.cell 0; have y8 : W8.cell? ⟨R, 0, none⟩ = some (.int .u64 d) := (k8.cell (p := ⟨R, 0, none⟩) hRw.lt).trans cd)
     | ((with_reducible refine wDz (fun _ => trivial) (by kernel_rfl) _ _ _ rfl R7 0 rfl (.int .i64 (c + 1)) rfl (kvz _ _) _ _ hR8 (by kernel_rfl) (y8z _ _) (k7z _ _) ?_); intro W10 hR10 o10; have k10 := o10.below W.heap.size W (by have := hN7.out.1; omega) k8; (try rw [hwr] at hR10); replace hR10 : Blk W10 R7 #[.int .i64 (c + 1), .int .u64 g] 126 := hR10; have cu10 : W10.cell? ⟨U, 0, none⟩ = some (.map (some M)) := (k10.cell (p := ⟨U, 0, none⟩) hUW.lt).trans cUW; have ci10 : W10.cell? ⟨R', 0, none⟩ = some (.int .u64 i) := (k10.cell (p := ⟨R', 0, none⟩) hR'.lt).trans ci)
     | (with_reducible refine qLz (fun _ => trivial) (by kernel_rfl) _ _ rfl R7 rfl _ _ hR10 _ underlying126 (by kernel_rfl) (by kernel_rfl) ?_)
     | ((with_reducible refine u9z (fun _ => trivial) (by kernel_rfl) _ _ _ rfl M rfl i rfl (c + 1, g) rfl f (hMp.next k10) ?_); intro ob hMq))
    have hme : (fun j => if j = i then (c + 1, g) else f j) = ((pre ++ [x]).map fun m => (oat X m).id).foldl (stpH d) fk := by
     rw [List.map_append, List.foldl_append, ← hfo.out]
     show _ = stpH d f (oat X x).id
     rw [hi.out]
     funext j
     unfold stpH
     rw [hc.out, hg.out, if_neg hc0']
    rw [hme] at hMq
    exact ⟨(xbz k10 _).trans (KeepsFrom.of_grownBy (grownBy_putObj' _ M ob) (fun j e => by cases e; exact hM2l)), ⟨by simpa [World.putObj] using k10.size, fun b' hb' => (World.putObj_heap_other hb'.1).trans (k10.block b' (Nat.lt_of_lt_of_le hb'.2 hI3.1))⟩, hMq, hI2.trans ((k10.mono (Nat.le_trans hk2.size hI2.size)).trans ⟨rfl, rfl, rfl, by simp [World.putObj], fun q hq => World.putObj_heap_other (by omega)⟩), hI3.trans ⟨by simpa [World.putObj] using k10.size, fun b' hb' => (World.putObj_heap_other hb'.1).trans (k10.block b' (Nat.lt_of_lt_of_le hb'.2 hI3.1))⟩⟩
  case done =>
   rintro D ys W hD' rfl ⟨hI1, hI2, hI3⟩ hK
   gi_wp2
   refine ⟨⟨k + 1, _, _, _, _, _, _, _, _, D :: Ds, rfl, by omega, ?_, hk2.trans hI2, (hI3.2 U ⟨by omega, hUW2.lt⟩).trans hUW2, (hI3.2 B2 ⟨hb2l.2, hBW2.lt⟩).trans hBW2, ?_⟩, ?_⟩
   ·show MapF W M ((X.take (k + 1)).foldl (stpD X) fun _ => (0, 0))
    rw [hld_succ (by rw [hn.out]; exact hkn), hfk.out]
    unfold stpD
    rw [hd.out]
    exact hI1
   ·refine ⟨List.nodup_cons.2 ⟨fun e => by have := (hDs2 D e).2; omega, hnd.out⟩, fun E hE => ?_⟩
    rcases List.mem_cons.1 hE with q | q
    ·rw [q]; exact ⟨by have := hUW2.lt; omega, hK⟩
    ·obtain ⟨⟨q1, q2⟩, q3⟩ := hDs2 E q
     exact ⟨q1, (hI3.2 E ⟨by omega, q3⟩).trans q2⟩
   ·simp [intOf]; omega
  case stop =>
   rintro D cd pre W hD hpre ⟨h, _⟩ hK
   exact h.elim
 ·obtain rfl : k = n := by omega
  gi_wp2
  refine kOz (B := w.heap.size) Ds wr hDs.out.1 (fun D hD => ⟨by have := (hDs.out.2 D hD).1; omega, (hDs.out.2 D hD).2⟩) fun W' k1 k2 => ?_
  refine ⟨.map (some M), ?_, M, rfl, ?_, hwM, hbw.trans k1⟩
  ·simp [results, Tryz.f64, go_sem]
  ·have hMk' := hMk.out
   rw [List.take_of_length_le (by rw [hn.out]; exact Nat.le_refl _)] at hMk'
   exact hMk'.block (k2 M (fun e => by have := (hDs.out.2 M e).1; omega))
end
section
open Go.RowKit Go.Shelf
attribute [local go_sem] Oper.semAt_some
def upsF (f : Int → Int × Int) : Nat → Int × Int → List Int
 | 0, _ => []
 | n + 1, p => if p.1 = 0 then [] else p.2 :: upsF f n (f p.2)
theorem Oth.grown {B : Nat} {w W : World} (h : Oth B w W) : w.grownBy W (some B) :=
 have b := h.below B w (Nat.le_refl _) (Below.refl _ _)
 ⟨b.os, b.tape, b.output, b.size, fun k _ hk => h.block k (fun e => hk (by rw [e]))⟩
theorem above1_T (N : Nat) (hN : 1 ≤ N) (Bh Bi Bv M : Nat) (D : Nat → Prop) {t ke ro i : Int} {ao : Option Addr} {n cap : Nat} {f : Int → Int × Int} (hn16 : n ≤ 4096) (w : World) (hD : ∀ b, D b → b < w.heap.size) (hDh : D Bh) (hDi : D Bi) (hDv : D Bv) (hDM : D M)
  (hBh : Boxed w Bh 96 (.map (some M))) (hBi : Boxed w Bi 22 (.int .u64 i)) (hBv : Blk w Bv #[.int .i64 t, .int .u64 ke, .int .u64 ro, .slice ao n cap] 74) (hM : MapF w M f) :
  SeqT Fence.wide N prog 154 #[.pointer (some ⟨Bh, 0, none⟩), .pointer (some ⟨Bi, 0, none⟩), .pointer (some ⟨Bv, 0, none⟩)] (fun x => #[.int .u64 x]) D 126 (fun xs => xs = upsF f n (f i)) n w := by
 intro l J W hW hJ hY h0
 have c3 : (#[.int .i64 t, .int .u64 ke, .int .u64 ro, .slice ao n cap] : Array Value)[3]? = some (.slice ao n cap) := rfl
 have hDW : ∀ b, D b → b < W.heap.size := fun b hb => Nat.lt_of_lt_of_le (hD b hb) hW.size
 have hHW : Boxed W Bh 96 (.map (some M)) := (hW.block _ (hD _ hDh)).trans hBh
 have hIW : Boxed W Bi 22 (.int .u64 i) := (hW.block _ (hD _ hDi)).trans hBi
 have hVW : Blk W Bv _ 74 := (hW.block _ (hD _ hDv)).trans hBv
 have hMW : MapF W M f := hM.block (hW.block _ (hD _ hDM))
 have cH := hHW.cell
 have cI := hIW.cell
 have cV := (hVW.cell 3).trans c3
 refine callsIn_of_wp func154 rfl trivial ?_ rfl
 simp only [ntmps154, List.size_toArray, List.length_cons, List.length_nil, Nat.reduceAdd, Nat.reduceSub, Array.replicate_succ, Array.replicate_zero, List.push_toArray, List.append_toArray, List.nil_append, List.cons_append]
 gi_wp2_with (first
  | (with_reducible refine xcz (fun _ => trivial) (by kernel_rfl) _ _ rfl M rfl i rfl f hMW ?_)
  | ((with_reducible refine wjz (fun _ => trivial) (by kernel_rfl) _ rfl #[.int .i64 0, .int .u64 0] Tryz.zeroValue126 ?_); intro R W7 hN7 hR7 hk7)
  | ((with_reducible refine qKz (fun _ => trivial) (by kernel_rfl) _ _ _ rfl R rfl #[.int .i64 (f i).1, .int .u64 (f i).2] rfl _ hR7 (by kernel_rfl) (xoz _ _ _ _) (x9z _ _ _ _) ?_); intro W8 hR8 o8; have k8 := o8.below W.heap.size W (by have := hN7.out.1; omega) hk7; have cV8 : W8.cell? ⟨Bv, 3, none⟩ = some (.slice ao n cap) := (k8.cell (p := ⟨Bv, 3, none⟩) hVW.lt).trans cV))
 have hRW : W.heap.size ≤ R := by have := hN7.out.1; omega
 have hJ8 := hJ [] W W8 none h0 (below_grown k8) (fun r e => by cases e)
 have hK8 : Keeps D W W8 := ⟨k8.size, fun b hb => k8.block b (hDW b hb)⟩
 clear hN7 hR7 hk7 o8 cV8
 gi_loopw [13] (fun j wr => ∃ (k : Nat) (pre : List Int) (c g : Int), k ≤ n ∧ j = .int .i64 k ∧ J pre wr ∧ Keeps D W wr ∧ Blk wr R #[.int .i64 c, .int .u64 g] 126 ∧ Hid (pre ++ upsF f (n - k) (c, g) = upsF f n (f i)) ∧ Hid (pre.length ≤ k)) (fun j _ => n - (intOf j).toNat)
 case atStart => exact ⟨0, [], (f i).1, (f i).2, Nat.zero_le _, rfl, hJ8, hK8, hR8, rfl, Nat.le_refl _⟩
 case round =>
  obtain ⟨k, pre, c, g, hk, rfl, hJk, hkp, hRk, heq, hpl⟩ := hrel
  have z0 : wr.cell? ⟨R, 0, none⟩ = some (.int .i64 c) := hRk.cell 0
  have z1 : wr.cell? ⟨R, 1, none⟩ = some (.int .u64 g) := hRk.cell 1
  clear hJ8 hK8 hR8
  by_cases hkn : k < n
  ·have hkn' : (k : Int) < n := by omega
   have hnk : Hid (n - k = (n - (k + 1)) + 1) := by show n - k = (n - (k + 1)) + 1; omega
   by_cases hc0 : c = 0
   ·subst hc0
    have hxs : Hid (pre = upsF f n (f i)) := by
     show pre = upsF f n (f i)
     rw [← heq.out, hnk.out]
     simp [upsF]
    gi_wp2
    refine ⟨fun f e => (by cases e), ?_⟩
    gi_wp2
    refine bodyPost_ret (results_none rfl _ _ _) rfl ?_
    exact ⟨⟨_, rfl⟩, _, hxs.out, hJk⟩
   ·have hcb : (c == 0) = false := by simpa using hc0
    have hup : Hid (upsF f (n - k) (c, g) = g :: upsF f (n - (k + 1)) (f g)) := by
     show upsF f (n - k) (c, g) = _
     rw [hnk.out]
     simp [upsF, hc0]
    gi_wp2
    obtain ⟨fn, tmps, assign, body, hyy, hR⟩ := hY pre g wr hJk (Nat.lt_of_le_of_lt hpl.out hkn)
    rw [hyy]
    gi_wp2
    refine hR.mono ?_
    rintro e W3 ⟨rfl, hJ3, hk3⟩
    have hR3 : Blk W3 R #[.int .i64 c, .int .u64 g] 126 := hk3.2 R _ hRW hRk
    have hkp3 := hkp.trans hk3.1
    have hH3 : Boxed W3 Bh 96 (.map (some M)) := (hkp3.2 _ hDh).trans hHW
    have hM3 : MapF W3 M f := hMW.block (hkp3.2 _ hDM)
    have cH3 := hH3.cell
    have y1 : W3.cell? ⟨R, 1, none⟩ = some (.int .u64 g) := hR3.cell 1
    clear hR z0 z1 hyy
    gi_wp2_with (first
     | (with_reducible refine xcz (fun _ => trivial) (by kernel_rfl) _ _ rfl M rfl g rfl f hM3 ?_)
     | ((with_reducible refine qKz (fun _ => trivial) (by kernel_rfl) _ _ _ rfl R rfl #[.int .i64 (f g).1, .int .u64 (f g).2] rfl _ hR3 (by kernel_rfl) (xoz _ _ _ _) (x9z _ _ _ _) ?_); intro W4 hR4 o4))
    go_roundw
    case rel => exact ⟨k + 1, pre ++ [g], (f g).1, (f g).2, by omega, by go_num, hJ _ W3 W4 (some R) hJ3 o4.grown (fun r e => by cases e; exact ⟨hRW, _, hR3⟩), hkp3.trans ⟨Nat.le_of_eq o4.size.symm, fun b hb => o4.block b (by have := hDW b hb; omega)⟩, hR4, (by show (pre ++ [g]) ++ upsF f (n - (k + 1)) (f g) = _; rw [← heq.out, hup.out]; simp), (by show (pre ++ [g]).length ≤ k + 1; rw [List.length_append]; have := hpl.out; simp; omega)⟩
    case measure => simp [intOf]; omega
  ·obtain rfl : k = n := by omega
   have hxs : Hid (pre = upsF f k (f i)) := by
    show pre = upsF f k (f i)
    rw [← heq.out, Nat.sub_self]
    simp [upsF]
   gi_wp2
   go_end0
   exact ⟨⟨_, rfl⟩, _, hxs.out, hJk⟩
end
section
open Go.RowKit Go.Shelf
attribute [local go_sem] Oper.semAt_some
theorem gGz {w : World} {G : Array Value} {i : Int} {M : Nat} : Calls prog 121 #[.agg G, .int .u64 i, .map (some M)] w fun e w' => ∃ Bv Bi Bh, e = .returned (.func (.func 154) #[] #[.pointer (some ⟨Bh, 0, none⟩), .pointer (some ⟨Bi, 0, none⟩), .pointer (some ⟨Bv, 0, none⟩)]) ∧ Blk w' Bv G 74 ∧ Boxed w' Bi 22 (.int .u64 i) ∧ Boxed w' Bh 96 (.map (some M)) ∧ (w.heap.size ≤ Bv ∧ w.heap.size ≤ Bi ∧ w.heap.size ≤ Bh) ∧ Below w.heap.size w w' := by
 go_enter func121, ntmps121
 go_wp2_with (first
  | (with_reducible refine qdz rfl 74 _ rfl G rfl ?_; intro Bv W hB hb hk))
 have k1 := (Below.refl W.heap.size W).alloc (Nat.le_refl _) (.cells #[.int .u64 i] 22)
 have k2 := k1.alloc (by simp) (.cells #[.map (some M)] 96)
 have b1 := (Boxed.new W 22 (.int .u64 i)).alloc (.cells #[.map (some M)] 96)
 have b2 := Boxed.new (W.alloc (.cells #[.int .u64 i] 22)) 96 (.map (some M))
 rw [World.size_alloc] at b2
 go_ret
 refine ⟨Bv, W.heap.size, _, rfl, hb.next k2, b1, b2, ⟨?_, hk.size, ?_⟩, btz hk k2⟩
 ·have := hB.out; omega
 ·have := hk.size; simp; omega
theorem ytz {β : Type} {B U : Nat} {t t' : TypeId} (hU : U < B) (f : β → Value) : StayT B t (fun s W => Boxed W U t' (f s)) := fun s A A' row hs hg hr =>
 (hg.block U hs.lt (fun e => by have := (hr U e.symm).1; omega)).trans hs
theorem yuz {β : Type} {B n0 : Nat} {t : TypeId} {w0 : World} (hB : n0 ≤ B) (hn : n0 ≤ w0.heap.size) : StayT B t (fun (_ : β) W => Below n0 w0 W) := fun s A A' row hs hg hr =>
 hs.trans ⟨hg.os, hg.tape, hg.output, hg.size, fun k hk => hg.block k (Nat.lt_of_lt_of_le hk (Nat.le_trans hn hs.size)) (fun e => by have := (hr k e.symm).1; omega)⟩
theorem StayT.and {β : Type} {B : Nat} {t : TypeId} {I I' : β → World → Prop} (h : StayT B t I) (h' : StayT B t I') : StayT B t (fun s W => I s W ∧ I' s W) := fun s A A' row hs hg hr => ⟨h s A A' row hs.1 hg hr, h' s A A' row hs.2 hg hr⟩
def topF (f : Int → Int × Int) (n : Nat) (i : Int) : Int := (upsF f n (f i)).getLast?.getD i
theorem guz {w : World} {t ke ro i : Int} {ao : Option Addr} {n cap M : Nat} {f : Int → Int × Int} (hn16 : n ≤ 4096) (hM : MapF w M f) : Calls prog 98 #[.agg #[.int .i64 t, .int .u64 ke, .int .u64 ro, .slice ao n cap], .int .u64 i, .map (some M)] w fun e w' => e = .returned (.bool (topF f n i == ro)) ∧ Below w.heap.size w w' := by
 have hzv : (prog.info? 74).map (·.size) = some (#[.int .i64 t, .int .u64 ke, .int .u64 ro, .slice ao n cap] : Array Value).size := by kernel_rfl
 have g2 : (#[.int .i64 t, .int .u64 ke, .int .u64 ro, .slice ao n cap] : Array Value)[2]? = some (.int .u64 ro) := rfl
 obtain ⟨G, hG⟩ : ∃ G : Array Value, Hid (G = #[.int .i64 t, .int .u64 ke, .int .u64 ro, .slice ao n cap]) := ⟨_, rfl⟩
 rw [← hG.out] at hzv g2
 rw [← hG.out]
 refine (callsIn_wide (n := 5)).1 ?_
 refine callsIn_of_wp_marks func98 rfl trivial ?_ rfl
 simp only [ntmps98, List.size_toArray, List.length_cons, List.length_nil, Nat.reduceAdd, Nat.reduceSub, Array.replicate_succ, Array.replicate_zero, List.push_toArray, List.append_toArray, List.nil_append, List.cons_append]
 gi_wp2_with (first
  | (with_reducible refine xFz (fun _ => trivial) (by kernel_rfl) _ _ rfl G rfl ?_; intro B3 W3 hN3 hB3 hk; have hka := (Below.refl W3.heap.size W3).alloc (Nat.le_refl _) (.cells #[.int .u64 i] 22); have hU := Boxed.new W3 22 (.int .u64 i); have hB3a := hB3.next hka)
  | (with_reducible refine qLz (fun _ => trivial) (by kernel_rfl) _ _ rfl B3 rfl G _ hB3a _ underlying74 (by kernel_rfl) hzv ?_)
  | (refine ⟨trivial, ?_⟩; gi_at_call 121; (with_reducible refine (callsIn_wide.2 gGz).mono ?_); rintro e w2 ⟨Bv, Bi, Bh, rfl, hBv, hBi, hBh, ⟨hv1, hi1, hh1⟩, hb2⟩))
 have hwU : w.heap.size ≤ W3.heap.size := hk.size
 have hsz : (W3.alloc (.cells #[.int .u64 i] 22)).heap.size = W3.heap.size + 1 := by simp
 rw [hsz] at hv1 hi1 hh1 hb2
 have hU2 : Boxed w2 W3.heap.size 22 (.int .u64 i) := (hb2.block _ (by omega)).trans hU
 have hb3l : B3 < W3.heap.size := hB3.lt
 have hB32 : Blk w2 B3 G 74 := (hb2.block _ (by omega)).trans hB3a
 have hk2 : Below w.heap.size w w2 := (btz hk hka).trans (hb2.mono (by omega))
 have hMl := hM.lt
 have hM2 : MapF w2 M f := hM.block (hk2.block _ hMl)
 generalize W3.heap.size = U at hwU hv1 hi1 hh1 hU2 hb3l ⊢
 clear hU hB3a hka hb2 hB3 hk hN3 hsz
 have hU2l := hU2.lt
 have hD : ∀ b, (b < U ∨ b = Bh ∨ b = Bi ∨ b = Bv) → b < w2.heap.size := fun b hb => by
  rcases hb with q | q | q | q
  ·omega
  ·rw [q]; exact hBh.lt
  ·rw [q]; exact hBi.lt
  ·rw [q]; exact hBv.lt
 refine vfz rfl (by omega) (gf := 154) (lb := #[.pointer (some ⟨Bh, 0, none⟩), .pointer (some ⟨Bi, 0, none⟩), .pointer (some ⟨Bv, 0, none⟩)]) rfl trivial (enters_of func154 (by kernel_rfl) rfl)
  (above1_T _ (by omega) Bh Bi Bv M (fun b => b < U ∨ b = Bh ∨ b = Bi ∨ b = Bv) hn16 w2 hD (.inr (.inl rfl)) (.inr (.inr (.inl rfl))) (.inr (.inr (.inr rfl))) (.inl (by omega)) hBh hBi (by rw [← hG.out]; exact hBv) hM2) hD (Below.refl _ _) (fun _ => rfl)
  (fun pre W => Boxed W U 22 (.int .u64 (pre.getLast?.getD i)) ∧ Below U w2 W)
  (OwnFrom.and (Own.from (boxed_own _ _ _) _) (ownFrom_below (by omega) (by omega)))
  (StayT.and (ytz hU2l _) (yuz (by omega) (by omega)))
  ⟨hU2, Below.refl _ _⟩
  (fun x => { tmps := #[.agg G, .int .u64 i, .map (some M), .pointer (some ⟨B3, 0, none⟩), undef, undef, .bool false, .pointer (some ⟨U, 0, none⟩), .int .u64 x, .int .u64 i, .agg G, .int .u64 i, .map (some M), .func (.func 154) #[] #[.pointer (some ⟨Bh, 0, none⟩), .pointer (some ⟨Bi, 0, none⟩), .pointer (some ⟨Bv, 0, none⟩)], .int .u64 x, undef, undef, undef, undef, undef, undef], defers := [] })
  ?assign ?body ?done
 case assign =>
  intro l x W K hK
  refine (fun (hh : ∀ T : Array Value, T = #[.agg G, .int .u64 i, .map (some M), .pointer (some ⟨B3, 0, none⟩), undef, undef, .bool false, .pointer (some ⟨U, 0, none⟩), undef, .int .u64 i, .agg G, .int .u64 i, .map (some M), .func (.func 154) #[] #[.pointer (some ⟨Bh, 0, none⟩), .pointer (some ⟨Bi, 0, none⟩), .pointer (some ⟨Bv, 0, none⟩)], .int .u64 x, undef, undef, undef, undef, undef, undef] → Code.wpIn _ _ _ _ _ { tmps := T, defers := [] } W) => hh _ (by kernel_rfl)) ?_
  rintro T rfl
  gi_wp2
  exact hK
 case body =>
  rintro l pre x W hl ⟨d1, hB1⟩ hlt
  have c1 := d1.cell
  have f1 := d1.frozen
  gi_wp2
  exact ⟨(KeepsOthers.setCell _ _ _).from _, ⟨⟨by simp, fun b hb => Below.heap_setCell _ _ _ _ (by show b ≠ U; rcases hb with q | q | q | q <;> omega)⟩, fun b C hb hc => (Below.heap_setCell _ _ _ _ (by show b ≠ U; omega)).trans hc⟩, by simpa using d1.set _, hB1.setCell (p := ⟨U, 0, none⟩) (Nat.le_refl _) _⟩
 case done =>
  rintro D ys W hD' rfl ⟨d1, hB⟩ hK
  have c1 := d1.cell
  have hB3w : Blk W B3 G 74 := (hB.block _ hb3l).trans hB32
  have c2 := (hB3w.cell 2).trans g2
  gi_wp2
  refine ⟨by simp, .inl ⟨_, _, rfl, run_takeDeferred hK, ?_⟩⟩
  refine ⟨.bool (topF f n i == ro), ?_, rfl, (hk2.trans (hB.mono hwU)).trans (belowK_b (w := w) (Nat.le_refl _) _ D _ _ (by have := hk2.size; omega) hK rfl rfl)⟩
  simp [results, Tryz.f98, go_sem, topF]
end
section
open Go.RowKit Go.Shelf
attribute [local go_sem] Oper.semAt_some
theorem wsz {ops : Array Oper} {rest : List Oper} {op : Oper} {a : Act} {Q : Exit → Act → World → Prop} {w : World} (hw : Region.wanted op (yielded ops a.tmps) = true) (x y : Operand) (ho : op.op = .lookup 96 x y false) (M : Nat) (hx : a.eval x = .map (some M)) (k : Int) (hy : a.eval y = .int .u64 k) (f : Int → Int × Int) (hm : MapF w M f)
  (h : wpList prog ops Q rest (a.put op.dst (.agg #[.int .i64 (f k).1, .int .u64 (f k).2])) w) : wpList prog ops Q (op :: rest) a w := by
 refine qZz hw ?_ h
 unfold execOp
 simp [ho, hx, hy, uUz hm k]
 rfl
def whoB (key : Nat) (X : List Ob) (ro : Int) (f : Int → Int × Int) (o : Ob) : Bool := kDz X o && (uYz ro o (f o.id).1 && (if o.kind = 2 then topF f X.length o.id == ro else if o.kind = 4 then ownO key X o else true))
theorem whole_v {w : World} {t ro : Int} {key M : Nat} {ao : Option Addr} {n cap : Nat} {X : List Ob} {Cf : Nat → Array Value} {C : Array Value} {o : Ob} {f : Int → Int × Int} (h : ObsF (LtN w) (LtN w) w ao n cap X Cf) (hs : Srt X) (hn16 : n ≤ 4096) (hq : ∀ x ∈ X, 0 ≤ x.quota ∧ x.quota ≤ 4096) (hlb : ∀ x ∈ X, x.label.length < 1048576) (hw : ∀ x ∈ X, WdO x) (ho : ObD (LtN w) w C o) (hsm : Small o) (hoq : 0 ≤ o.quota ∧ o.quota ≤ 4096) (hol : o.label.length < 1048576) (hwo : WdO o) (hM : MapF w M f) : Calls prog 68 #[.agg #[.int .i64 t, .int .u64 (key : Int), .int .u64 ro, .slice ao n cap], .agg C, .map (some M)] w fun e w' => e = .returned (.bool (whoB key X ro f o)) ∧ Below w.heap.size w w' := by
 have hn : Hid (X.length = n) := h.1
 have hz := ho.size
 have c0 := ho.id
 have c1 := ho.kind
 have hzv : (prog.info? 74).map (·.size) = some (#[.int .i64 t, .int .u64 (key : Int), .int .u64 ro, .slice ao n cap] : Array Value).size := by kernel_rfl
 have hke := fun (W : World) (hk : Below w.heap.size w W) => keeps_v (t := t) (ke := (key : Int)) (ro := ro) (h.next hk) hs hn16 hq hlb (ho.next hk) hsm hoq hol
 have hli := fun (W : World) (hk : Below w.heap.size w W) => lies_v (t := t) (ke := (key : Int)) (ro := ro) (ao := ao) (n := n) (cap := cap) (c := (f o.id).1) (f := (f o.id).2) (ho.next hk)
 have hup := fun (W : World) (hk : Below w.heap.size w W) => guz (t := t) (ke := (key : Int)) (ro := ro) (i := o.id) (ao := ao) (cap := cap) hn16 (hM.next hk)
 have how := fun (W : World) (hk : Below w.heap.size w W) => jOz (t := t) (ro := ro) (key := key) (h.next hk) hw (ho.next hk) hwo
 have hr : Hid (whoB key X ro f o = (kDz X o && (uYz ro o (f o.id).1 && (if o.kind = 2 then topF f n o.id == ro else if o.kind = 4 then ownO key X o else true)))) := by show whoB key X ro f o = _; unfold whoB; rw [hn.out]
 rw [hr.out]
 obtain ⟨G, hG⟩ : ∃ G : Array Value, Hid (G = #[.int .i64 t, .int .u64 (key : Int), .int .u64 ro, .slice ao n cap]) := ⟨_, rfl⟩
 rw [← hG.out] at hzv hke hli hup how
 rw [← hG.out]
 clear hr
 generalize kDz X o = bk at hke ⊢
 generalize uYz ro o (f o.id).1 = bl at hli ⊢
 generalize (topF f n o.id == ro) = bu at hup ⊢
 generalize ownO key X o = bo at how ⊢
 generalize o.kind = kd at c1 ⊢
 cases bk with
 | false =>
  go_enter func68, ntmps68
  go_wp2_with (first
   | (with_reducible refine qdz rfl 74 _ rfl G rfl ?_; intro B3 W3 hN3 hB3 hk)
   | (with_reducible refine qdz rfl 43 _ rfl C rfl ?_; intro B4 W4 hN4 hB4 hk4; replace hB3 := hB3.next hk4; replace hk := btz hk hk4; have d0 := (hB4.cell 0).trans c0; have d1 := (hB4.cell 1).trans c1)
   | (with_reducible refine qez (by with_unfolding_all rfl) _ _ rfl B4 rfl C hB4 _ underlying43 (by kernel_rfl) (qfz hz) ?_)
   | (with_reducible refine qez (by with_unfolding_all rfl) _ _ rfl B3 rfl G hB3 _ underlying74 (by kernel_rfl) hzv ?_)
   | (go_at_call 96; (with_reducible refine (hke _ hk).mono ?_); rintro e w1 ⟨rfl, hb1⟩; replace hB3 := hB3.next hb1; replace hB4 := hB4.next hb1; replace hk := btz hk hb1; replace d0 := (hB4.cell 0).trans c0; replace d1 := (hB4.cell 1).trans c1))
  all_goals (go_ret; exact ⟨rfl, hk⟩)
 | true =>
  cases bl with
  | false =>
   go_enter func68, ntmps68
   go_wp2_with (first
    | (with_reducible refine qdz rfl 74 _ rfl G rfl ?_; intro B3 W3 hN3 hB3 hk)
    | (with_reducible refine qdz rfl 43 _ rfl C rfl ?_; intro B4 W4 hN4 hB4 hk4; replace hB3 := hB3.next hk4; replace hk := btz hk hk4; have d0 := (hB4.cell 0).trans c0; have d1 := (hB4.cell 1).trans c1)
    | (with_reducible refine qez (by with_unfolding_all rfl) _ _ rfl B4 rfl C hB4 _ underlying43 (by kernel_rfl) (qfz hz) ?_)
    | (with_reducible refine qez (by with_unfolding_all rfl) _ _ rfl B3 rfl G hB3 _ underlying74 (by kernel_rfl) hzv ?_)
    | (go_at_call 96; (with_reducible refine (hke _ hk).mono ?_); rintro e w1 ⟨rfl, hb1⟩; replace hB3 := hB3.next hb1; replace hB4 := hB4.next hb1; replace hk := btz hk hb1; replace d0 := (hB4.cell 0).trans c0; replace d1 := (hB4.cell 1).trans c1)
    | (with_reducible refine wsz (by with_unfolding_all rfl) _ _ rfl M rfl o.id rfl f (hM.next hk) ?_)
    | (go_at_call 97; (with_reducible refine (hli _ hk).mono ?_); rintro e w2 ⟨rfl, hb2⟩; replace hB3 := hB3.next hb2; replace hB4 := hB4.next hb2; replace hk := btz hk hb2; replace d0 := (hB4.cell 0).trans c0; replace d1 := (hB4.cell 1).trans c1))
   all_goals (go_ret; exact ⟨rfl, hk⟩)
  | true =>
   rw [Bool.true_and, Bool.true_and]
   by_cases h2 : kd = 2
   ·subst h2
    rw [if_pos rfl]
    go_enter func68, ntmps68
    go_wp2_with (first
     | (with_reducible refine qdz rfl 74 _ rfl G rfl ?_; intro B3 W3 hN3 hB3 hk)
     | (with_reducible refine qdz rfl 43 _ rfl C rfl ?_; intro B4 W4 hN4 hB4 hk4; replace hB3 := hB3.next hk4; replace hk := btz hk hk4; have d0 := (hB4.cell 0).trans c0; have d1 := (hB4.cell 1).trans c1)
     | (with_reducible refine qez (by with_unfolding_all rfl) _ _ rfl B4 rfl C hB4 _ underlying43 (by kernel_rfl) (qfz hz) ?_)
     | (with_reducible refine qez (by with_unfolding_all rfl) _ _ rfl B3 rfl G hB3 _ underlying74 (by kernel_rfl) hzv ?_)
     | (go_at_call 96; (with_reducible refine (hke _ hk).mono ?_); rintro e w1 ⟨rfl, hb1⟩; replace hB3 := hB3.next hb1; replace hB4 := hB4.next hb1; replace hk := btz hk hb1; replace d0 := (hB4.cell 0).trans c0; replace d1 := (hB4.cell 1).trans c1)
     | (with_reducible refine wsz (by with_unfolding_all rfl) _ _ rfl M rfl o.id rfl f (hM.next hk) ?_)
     | (go_at_call 97; (with_reducible refine (hli _ hk).mono ?_); rintro e w2 ⟨rfl, hb2⟩; replace hB3 := hB3.next hb2; replace hB4 := hB4.next hb2; replace hk := btz hk hb2; replace d0 := (hB4.cell 0).trans c0; replace d1 := (hB4.cell 1).trans c1)
     | (go_at_call 98; (with_reducible refine (hup _ hk).mono ?_); rintro e w3 ⟨rfl, hb3⟩; replace hk := btz hk hb3))
    all_goals (go_ret; exact ⟨rfl, hk⟩)
   ·have h2b : (kd == 2) = false := by simpa using h2
    rw [if_neg h2]
    by_cases h4 : kd = 4
    ·subst h4
     rw [if_pos rfl]
     go_enter func68, ntmps68
     go_wp2_with (first
      | (with_reducible refine qdz rfl 74 _ rfl G rfl ?_; intro B3 W3 hN3 hB3 hk)
      | (with_reducible refine qdz rfl 43 _ rfl C rfl ?_; intro B4 W4 hN4 hB4 hk4; replace hB3 := hB3.next hk4; replace hk := btz hk hk4; have d0 := (hB4.cell 0).trans c0; have d1 := (hB4.cell 1).trans c1)
      | (with_reducible refine qez (by with_unfolding_all rfl) _ _ rfl B4 rfl C hB4 _ underlying43 (by kernel_rfl) (qfz hz) ?_)
      | (with_reducible refine qez (by with_unfolding_all rfl) _ _ rfl B3 rfl G hB3 _ underlying74 (by kernel_rfl) hzv ?_)
      | (go_at_call 96; (with_reducible refine (hke _ hk).mono ?_); rintro e w1 ⟨rfl, hb1⟩; replace hB3 := hB3.next hb1; replace hB4 := hB4.next hb1; replace hk := btz hk hb1; replace d0 := (hB4.cell 0).trans c0; replace d1 := (hB4.cell 1).trans c1)
      | (with_reducible refine wsz (by with_unfolding_all rfl) _ _ rfl M rfl o.id rfl f (hM.next hk) ?_)
      | (go_at_call 97; (with_reducible refine (hli _ hk).mono ?_); rintro e w2 ⟨rfl, hb2⟩; replace hB3 := hB3.next hb2; replace hB4 := hB4.next hb2; replace hk := btz hk hb2; replace d0 := (hB4.cell 0).trans c0; replace d1 := (hB4.cell 1).trans c1)
      | (go_at_call 99; (with_reducible refine (how _ hk).mono ?_); rintro e w3 ⟨rfl, hb3⟩; replace hk := btz hk hb3))
     all_goals (go_ret; exact ⟨rfl, hk⟩)
    ·have h4b : (kd == 4) = false := by simpa using h4
     rw [if_neg h4]
     go_enter func68, ntmps68
     go_wp2_with (first
      | (with_reducible refine qdz rfl 74 _ rfl G rfl ?_; intro B3 W3 hN3 hB3 hk)
      | (with_reducible refine qdz rfl 43 _ rfl C rfl ?_; intro B4 W4 hN4 hB4 hk4; replace hB3 := hB3.next hk4; replace hk := btz hk hk4; have d0 := (hB4.cell 0).trans c0; have d1 := (hB4.cell 1).trans c1)
      | (with_reducible refine qez (by with_unfolding_all rfl) _ _ rfl B4 rfl C hB4 _ underlying43 (by kernel_rfl) (qfz hz) ?_)
      | (with_reducible refine qez (by with_unfolding_all rfl) _ _ rfl B3 rfl G hB3 _ underlying74 (by kernel_rfl) hzv ?_)
      | (go_at_call 96; (with_reducible refine (hke _ hk).mono ?_); rintro e w1 ⟨rfl, hb1⟩; replace hB3 := hB3.next hb1; replace hB4 := hB4.next hb1; replace hk := btz hk hb1; replace d0 := (hB4.cell 0).trans c0; replace d1 := (hB4.cell 1).trans c1)
      | (with_reducible refine wsz (by with_unfolding_all rfl) _ _ rfl M rfl o.id rfl f (hM.next hk) ?_)
      | (go_at_call 97; (with_reducible refine (hli _ hk).mono ?_); rintro e w2 ⟨rfl, hb2⟩; replace hB3 := hB3.next hb2; replace hB4 := hB4.next hb2; replace hk := btz hk hb2; replace d0 := (hB4.cell 0).trans c0; replace d1 := (hB4.cell 1).trans c1))
     all_goals (go_ret; exact ⟨rfl, hk⟩)
end
section
open Go.RowKit Go.Shelf
attribute [local go_sem] Oper.semAt_some
theorem fit1_v {w : World} {t ro : Int} {key M Bv Bh : Nat} {ao : Option Addr} {n cap : Nat} {X : List Ob} {Cf : Nat → Array Value} {C : Array Value} {o : Ob} {f : Int → Int × Int} (h : ObsF (LtN w) (LtN w) w ao n cap X Cf) (hs : Srt X) (hn16 : n ≤ 4096) (hq : ∀ x ∈ X, 0 ≤ x.quota ∧ x.quota ≤ 4096) (hlb : ∀ x ∈ X, x.label.length < 1048576) (hw : ∀ x ∈ X, WdO x) (ho : ObD (LtN w) w C o) (hsm : Small o) (hoq : 0 ≤ o.quota ∧ o.quota ≤ 4096) (hol : o.label.length < 1048576) (hwo : WdO o) (hM : MapF w M f)
  (hBv : Blk w Bv #[.int .i64 t, .int .u64 (key : Int), .int .u64 ro, .slice ao n cap] 74) (hBh : Boxed w Bh 96 (.map (some M))) : Calls prog 67 #[.agg C, .pointer (some ⟨Bv, 0, none⟩), .pointer (some ⟨Bh, 0, none⟩)] w fun e w' => e = .returned (.bool (whoB key X ro f o)) ∧ Below w.heap.size w w' := by
 have hz := ho.size
 have hzv : (prog.info? 74).map (·.size) = some (#[.int .i64 t, .int .u64 (key : Int), .int .u64 ro, .slice ao n cap] : Array Value).size := by kernel_rfl
 have hwh := fun (W : World) (hk : Below w.heap.size w W) => whole_v (t := t) (ro := ro) (key := key) (h.next hk) hs hn16 hq hlb hw (ho.next hk) hsm hoq hol hwo (hM.next hk)
 obtain ⟨G, hG⟩ : ∃ G : Array Value, Hid (G = #[.int .i64 t, .int .u64 (key : Int), .int .u64 ro, .slice ao n cap]) := ⟨_, rfl⟩
 rw [← hG.out] at hzv hwh hBv
 generalize whoB key X ro f o = b at hwh ⊢
 go_enter func67, ntmps67
 go_wp2_with (first
  | (with_reducible refine qdz rfl 43 _ rfl C rfl ?_; intro B4 W4 hN4 hB4 hk; have hv4 := hBv.next hk; have ch := (hk.cell (p := ⟨Bh, 0, none⟩) hBh.lt).trans hBh.cell)
  | (with_reducible refine qez (by kernel_rfl) _ _ rfl B4 rfl C hB4 _ underlying43 (by kernel_rfl) (qfz hz) ?_)
  | (with_reducible refine qez (by kernel_rfl) _ _ rfl Bv rfl G hv4 _ underlying74 (by kernel_rfl) hzv ?_)
  | (go_at_call 68; (with_reducible refine (hwh _ hk).mono ?_); rintro e w1 ⟨rfl, hb1⟩; replace hk := btz hk hb1))
 go_ret
 exact ⟨rfl, hk⟩
end
section
open Go.RowKit Go.Shelf
attribute [local go_sem] Oper.semAt_some
def fitT (t : Int) (key : Nat) (ro : Int) (X : List Ob) : Bool := fitW ⟨t, key, ro, X⟩ && (rotB X ro && (List.range X.length).all fun j => whoB key X ro (hldF X) (oat X j))
theorem voz {x : Ob} (h : q3z x = true) : (0 ≤ x.quota ∧ x.quota ≤ 4096) ∧ x.label.length < 1048576 := by
 unfold q3z comB qSz at h
 simp only [Bool.and_eq_true, decide_eq_true_eq] at h
 omega
theorem fit_v0 {w : World} {t ke ro : Int} {ao : Option Addr} {n cap : Nat} {X : List Ob} (h : Obs w ao n cap X) : Calls prog 63 #[.agg #[.int .i64 t, .int .u64 ke, .int .u64 ro, .slice ao n cap]] w fun e w' => e = .returned (.bool (fitW ⟨t, ke, ro, X⟩)) ∧ Below w.heap.size w w' :=
 (fit_w (t := t) (ke := ke) (ro := ro) h).on (fun w' hq hb => ⟨by rw [hq.out], hb⟩) (fun w' hq hb => ⟨by rw [Bool.eq_false_iff.2 hq.out], hb⟩)
theorem tfit_v {w : World} {t ro : Int} {key : Nat} {ao : Option Addr} {n cap : Nat} {X : List Ob} {Cf : Nat → Array Value} (h : ObsF (LtN w) (LtN w) w ao n cap X Cf) (hsm : fitW ⟨t, key, ro, X⟩ = true → wbz X) (hw : ∀ x ∈ X, WdO x) : Calls prog 35 #[.agg #[.int .i64 t, .int .u64 (key : Int), .int .u64 ro, .slice ao n cap]] w fun e w' => e = .returned (.bool (fitT t key ro X)) ∧ Below w.heap.size w w' := by
 have hn : Hid (X.length = n) := h.1
 have hzw : (prog.info? 25).map (·.size) = some (#[.int .i64 t, .int .u64 (key : Int), .int .u64 ro, .slice ao n cap] : Array Value).size := by kernel_rfl
 have hzv : (prog.info? 74).map (·.size) = some (#[.int .i64 t, .int .u64 (key : Int), .int .u64 ro, .slice ao n cap] : Array Value).size := by kernel_rfl
 have hbt : prog.built 74 [(0, .agg #[.int .i64 t, .int .u64 (key : Int), .int .u64 ro, .slice ao n cap])] = some #[.int .i64 t, .int .u64 (key : Int), .int .u64 ro, .slice ao n cap] := by kernel_rfl
 have hz4 : (#[.int .i64 0, .int .u64 0, .int .u64 0, .slice none 0 0] : Array Value).size = (#[.int .i64 t, .int .u64 (key : Int), .int .u64 ro, .slice ao n cap] : Array Value).size := rfl
 have h14 : (#[.int .i64 t, .int .u64 (key : Int), .int .u64 ro, .slice ao n cap] : Array Value).all (·.oneCell') = true := by simp [Value.oneCell']
 have hfit := fun (W : World) (hk : Below w.heap.size w W) => fit_v0 (t := t) (ke := (key : Int)) (ro := ro) (ObsF.obs (h.next hk))
 have hr : Hid (fitT t key ro X = (fitW ⟨t, key, ro, X⟩ && (rotB X ro && (List.range n).all fun j => whoB key X ro (hldF X) (oat X j)))) := by show fitT t key ro X = _; unfold fitT; rw [hn.out]
 rw [hr.out]
 obtain ⟨G, hG⟩ : ∃ G : Array Value, Hid (G = #[.int .i64 t, .int .u64 (key : Int), .int .u64 ro, .slice ao n cap]) := ⟨_, rfl⟩
 rw [← hG.out] at hzw hzv hbt hz4 h14 hfit
 cases hf : fitW ⟨t, key, ro, X⟩ with
 | false =>
  rw [hf] at hfit
  rw [← hG.out, Bool.false_and]
  go_enter func35, ntmps35
  go_wp2_with (first
   | (with_reducible refine qdz rfl 25 _ rfl G rfl ?_; intro B1 W1 hN1 hB1 hk)
   | (with_reducible refine qez (by with_unfolding_all rfl) _ _ rfl B1 rfl G hB1 _ underlying25 (by kernel_rfl) hzw ?_)
   | (go_at_call 63; (with_reducible refine (hfit _ hk).mono ?_); rintro e w2 ⟨rfl, hb2⟩; replace hB1 := hB1.next hb2; replace hk := btz hk hb2))
  all_goals (go_ret; exact ⟨rfl, hk⟩)
 | true =>
  replace hsm := hsm hf
  obtain ⟨_, _, hlen, hids, hsnd⟩ := waz.1 hf
  have hs := x1z.1 hids
  have hn16 : n ≤ 4096 := by rw [← hn.out]; omega
  have hmem : ∀ x ∈ X, q3z x = true := fun x hx => by
   obtain ⟨i, hi, e⟩ := List.getElem_of_mem hx
   have := hsnd i hi
   rwa [show oat X i = x by unfold oat; rw [List.getD_eq_getElem?_getD, List.getElem?_eq_getElem hi]; exact e] at this
  have hq : ∀ x ∈ X, 0 ≤ x.quota ∧ x.quota ≤ 4096 := fun x hx => (voz (hmem x hx)).1
  have hlb : ∀ x ∈ X, x.label.length < 1048576 := fun x hx => (voz (hmem x hx)).2
  have hll : ∀ x ∈ X, x.links.length < 4294967296 := fun x hx => (hsm x hx).c5
  have hho := fun (W : World) (hk : Below w.heap.size w W) => yQz (t := t) (ke := (key : Int)) (ro := ro) (h.next hk) hs hn16 hll
  have hro := fun (W : World) (hk : Below w.heap.size w W) => rooted_v (t := t) (ke := (key : Int)) (ro := ro) (h.next hk) hs hn16
  rw [hf] at hfit
  rw [Bool.true_and]
  rw [← hG.out] at hho hro
  rw [← hG.out]
  clear hmem hsnd hids hlen hf
  cases hrb : rotB X ro with
  | false =>
   rw [hrb] at hro
   rw [Bool.false_and]
   go_enter func35, ntmps35
   go_wp2_with (first
    | (with_reducible refine qdz rfl 25 _ rfl G rfl ?_; intro B1 W1 hN1 hB1 hk)
    | (with_reducible refine qez (by with_unfolding_all rfl) _ _ rfl B1 rfl G hB1 _ underlying25 (by kernel_rfl) hzw ?_)
    | (go_at_call 63; (with_reducible refine (hfit _ hk).mono ?_); rintro e w2 ⟨rfl, hb2⟩; replace hB1 := hB1.next hb2; replace hk := btz hk hb2)
    | ((with_reducible refine qpz (by kernel_rfl) _ [(0, .tmp 8)] rfl G ?hf ?_); (case hf => exact hbt))
    | ((with_reducible refine qcz rfl 74 rfl #[.int .i64 0, .int .u64 0, .int .u64 0, .slice none 0 0] Tryz.zeroValue74 ?_); intro B3 W3 hN3 hR3 hk3)
    | ((with_reducible refine qaz rfl _ _ _ rfl B3 rfl G rfl _ hR3 hzv hz4 h14 ?_); intro W4 hB3 o4; have hw3 : w.heap.size ≤ B3 := (by have := hN3.out; have := hk.size; omega); replace hk := o4.below w.heap.size w hw3 (btz hk hk3))
    | (with_reducible refine qez (by with_unfolding_all rfl) _ _ rfl B3 rfl G hB3 _ underlying74 (by kernel_rfl) hzv ?_)
    | (go_at_call 64; (with_reducible refine (hho _ hk).mono ?_); rintro e w5 ⟨M, rfl, hM, hwM, hb5⟩; replace hB3 := hB3.next hb5; replace hk := btz hk hb5; have hka := (Below.refl w5.heap.size w5).alloc (Nat.le_refl _) (.cells #[.map (some M)] 96); have hU := Boxed.new w5 96 (.map (some M)); replace hB3 := hB3.next hka; replace hM := hM.next hka; replace hk := btz hk hka)
    | (go_at_call 65; (with_reducible refine (hro _ hk).mono ?_); rintro e w6 ⟨rfl, hb6⟩; replace hB3 := hB3.next hb6; replace hM := hM.next hb6; replace hU : Boxed w6 w5.heap.size 96 (.map (some M)) := (hb6.block _ hU.lt).trans hU; replace hk := btz hk hb6))
   all_goals (go_ret; exact ⟨rfl, hk⟩)
  | true =>
   rw [hrb] at hro
   rw [Bool.true_and]
   go_enter func35, ntmps35
   go_wp2_with (first
    | (with_reducible refine qdz rfl 25 _ rfl G rfl ?_; intro B1 W1 hN1 hB1 hk)
    | (with_reducible refine qez (by with_unfolding_all rfl) _ _ rfl B1 rfl G hB1 _ underlying25 (by kernel_rfl) hzw ?_)
    | (go_at_call 63; (with_reducible refine (hfit _ hk).mono ?_); rintro e w2 ⟨rfl, hb2⟩; replace hB1 := hB1.next hb2; replace hk := btz hk hb2)
    | ((with_reducible refine qpz (by kernel_rfl) _ [(0, .tmp 8)] rfl G ?hf ?_); (case hf => exact hbt))
    | ((with_reducible refine qcz rfl 74 rfl #[.int .i64 0, .int .u64 0, .int .u64 0, .slice none 0 0] Tryz.zeroValue74 ?_); intro B3 W3 hN3 hR3 hk3)
    | ((with_reducible refine qaz rfl _ _ _ rfl B3 rfl G rfl _ hR3 hzv hz4 h14 ?_); intro W4 hB3 o4; have hw3 : w.heap.size ≤ B3 := (by have := hN3.out; have := hk.size; omega); replace hk := o4.below w.heap.size w hw3 (btz hk hk3))
    | (with_reducible refine qez (by with_unfolding_all rfl) _ _ rfl B3 rfl G hB3 _ underlying74 (by kernel_rfl) hzv ?_)
    | (go_at_call 64; (with_reducible refine (hho _ hk).mono ?_); rintro e w5 ⟨M, rfl, hM, hwM, hb5⟩; replace hB3 := hB3.next hb5; replace hk := btz hk hb5; have hka := (Below.refl w5.heap.size w5).alloc (Nat.le_refl _) (.cells #[.map (some M)] 96); have hU := Boxed.new w5 96 (.map (some M)); replace hB3 := hB3.next hka; replace hM := hM.next hka; replace hk := btz hk hka)
    | (go_at_call 65; (with_reducible refine (hro _ hk).mono ?_); rintro e w6 ⟨rfl, hb6⟩; replace hB3 := hB3.next hb6; replace hM := hM.next hb6; replace hU : Boxed w6 w5.heap.size 96 (.map (some M)) := (hb6.block _ hU.lt).trans hU; replace hk := btz hk hb6))
   have hm := fun (j : Nat) (hj : j < n) => qXz (l := X) (show j < X.length by rw [hn.out]; exact hj)
   have hV6 : Blk w6 B3 #[.int .i64 t, .int .u64 (key : Int), .int .u64 ro, .slice ao n cap] 74 := (by rw [← hG.out]; exact hB3)
   have hP := fun (j : Nat) (W : World) (hj : j < n) (q : Below w6.heap.size w6 W) => fit1_v (t := t) (key := key) (ro := ro) (h.next (btz hk q)) hs hn16 hq hlb hw ((h.2.2.2.2 j hj).next (btz hk q)) (hsm _ (hm j hj)) (hq _ (hm j hj)) (hlb _ (hm j hj)) (hw _ (hm j hj)) (hM.next q) (hV6.next q) (Bh := w5.heap.size) ((q.block _ hU.lt).trans hU)
   have hcall := gpz (t := t) (ke := (key : Int)) (ro := ro) (g := 67) (lb := #[.pointer (some ⟨B3, 0, none⟩), .pointer (some ⟨w5.heap.size, 0, none⟩)]) (P := fun j => whoB key X ro (hldF X) (oat X j)) (h.next hk) (enters_of func67 (by kernel_rfl) rfl) (fun j W hj q => hP j W hj q)
   rw [← hG.out] at hcall
   refine hcall.mono ?_
   rintro e w7 ⟨rfl, hb7⟩
   replace hk := btz hk hb7
   go_wp2
   go_ret
   exact ⟨rfl, hk⟩
end
end Go.Proofs.YtklnneiblmakmaaGreat
