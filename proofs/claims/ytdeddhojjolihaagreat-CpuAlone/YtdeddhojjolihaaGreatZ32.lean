/-
 PROVED HERE: what mem's Walk, Load and Store return when they are called (contracts over this translation); plain facts on . What is asked stands at each.
-/
import Derived.Test.YtdeddhojjolihaaGreatZ17
import Derived.Test.YtdeddhojjolihaaGreatZ27
import Derived.Test.YtdeddhojjolihaaGreatZ31
namespace Go.Proofs.YtdeddhojjolihaaGreat
set_option maxRecDepth 100000
set_option maxHeartbeats 8000000
set_option linter.unusedVariables false
open Go.Proofs.Tryz
section
open Go.RowKit Go.Shelf
attribute [local go_sem] Oper.semAt_some
variable {C : Array Value} {w : World}
theorem jVz {fn : Func} {p u : Tmp} (h : fn.results = #[.cell p 25, .tmp u]) {tmps : Array Value} {B : Nat} {v : Value} (hp : tmps.getD p undef = .pointer (some ⟨B, 0, none⟩)) (hu : tmps.getD u undef = v) (hB : Blk w B C 25) (hs : C.size = 4) : (results fn tmps).run prog w = .ok (.tuple #[.agg C, v]) w :=
 uvz h hB underlying25 rfl (by rw [hs]; kernel_rfl) hp hu
variable {X : List Ob} {ao : Option Addr} {n cap : Nat} {D0 : Nat → Prop}
theorem uNz {w W V : World} {R : Nat} (h : ObsD (New w W) D0 W ao n cap X) (hD : ∀ b, D0 b → b < W.heap.size ∧ b ≠ R) (hR : R < w.heap.size) (q : Oth R W V) : Obs V ao n cap X :=
 (h.laterK (fun b hb => q.block b (hD b hb).2) (fun b hb => q.block b (by have := hb.1; omega))).wide (fun b hb => by have := (hD b hb).1; have := q.size; show b < V.heap.size; omega) (fun b hb => by have := hb.2; have := q.size; show b < V.heap.size; omega)
variable {x : Ob} {a : Int}
theorem wk_kind (hsd : ∀ y ∈ X, qQz y = true) : (wkO X x a).kind = 1 → wkO X x a = sgO (wkO X x a).id (wkO X x a).label (wkO X x a).quota (wkO X x a).fixed (wkO X x a).data := fun k => by
 by_cases h : (fnd X (mpM X x a).seg).isSome = true
 ·exact sg_of (hsd _ (kIz h).1) k
 ·have q : fnd X (mpM X x a).seg = none := by simpa using h
  have : wkO X x a = zOb := by unfold wkO fO; rw [q]; rfl
  rw [this] at k; exact absurd k (by decide)
theorem fO_small (h : wfz X) (i : Int) : Small (fO X i) := by
 unfold fO
 cases q : fnd X i with
 | none => exact small_z
 | some z => exact h z (xIz q).2
theorem vjz (hsd : ∀ y ∈ X, qQz y = true) (ha : 0 ≤ a) (h : wkE X x a = 0) : mpA X x a < 18446744073709551616 := by
 obtain ⟨h1, _⟩ := xwz h
 obtain ⟨h2, h3⟩ := xBz h1
 have := (xHz hsd h2 h3 ha).2.2.2.2.2
 omega
variable {t ke ro : Int}
theorem load_n (h : Mw w ao n cap X C x) (ha : 0 ≤ a ∧ a ≤ 18446744073709551615) (hE : wkE X x a ≠ 0) : Calls prog 104 #[.agg #[.int .i64 t, .int .u64 ke, .int .u64 ro, .slice ao n cap], .agg C, .int .u64 a] w fun e w' => e = .returned (.tuple #[.int .u64 0, .bool false]) ∧ Below w.heap.size w w' := by
 have hz := h.thr.size
 have hzg : (prog.info? 25).map (·.size) = some (#[.int .i64 t, .int .u64 ke, .int .u64 ro, .slice ao n cap] : Array Value).size := by kernel_rfl
 have hfd := fun (W : World) (hk : Below w.heap.size w W) => vaz (t := t) (ke := ke) (ro := ro) (h.next hk) ha
 unfold PlO at hfd
 have HE : Hid (wkE X x a ≠ 0) := hE
 clear hE
 generalize wkE X x a = ek at hfd HE ⊢
 have hb0 : (ek != 0) = true := by simpa using HE.out
 generalize resO ek (wkO X x a) = y at hfd ⊢
 generalize (if ek = 0 then (mpM X x a).wr else false) = wb at hfd ⊢
 generalize (if ek = 0 then mpA X x a else 0) = A at hfd ⊢
 obtain ⟨D, hD⟩ : ∃ D : Array Value, D = #[.int .i64 t, .int .u64 ke, .int .u64 ro, .slice ao n cap] := ⟨_, rfl⟩
 rw [← hD] at hfd hzg
 rw [← hD]
 clear hD
 go_enter func104, ntmps104
 go_wp2_with (first
  | go_skip
  | (with_reducible refine qdz rfl 25 _ rfl D rfl ?_; intro B V1 hNB hB hk)
  | (with_reducible refine qdz rfl 50 _ rfl C rfl ?_; intro T V2 hNT hT hk2; replace hB := hB.next hk2; replace hk := btz hk hk2; clear hk2)
  | (with_reducible refine qez (by kernel_rfl) 25 _ rfl B rfl D hB _ underlying25 (by kernel_rfl) hzg ?_)
  | (with_reducible refine qez (by kernel_rfl) 50 _ rfl T rfl C hT _ underlying50 (by kernel_rfl) (qhz hz) ?_)
  | (go_at_call 122; (with_reducible refine (hfd _ hk).mono ?_); rintro e w9 ⟨F, CF1, rfl, pF, oF1, hb1⟩)
  | ((with_reducible refine qcz rfl 162 rfl zPl kUz ?_); have hx := oF1; intro P1 U1 hN21 hPa1 hka1; clear hx)
  | ((with_reducible refine qbz rfl _ _ _ rfl P1 rfl F rfl zPl hPa1 (wvz pF.size) (wbz.trans pF.size.symm) pF.one ?_); intro X1 hP1 q1; obtain ⟨hbz, oG1⟩ := yGz hb1 oF1 hN21 hka1 q1; have zF := pF.size; have nwP : Hid (w.heap.size ≤ P1 ∧ _ ≤ P1) := (by have h1 := hN21.out.1; have h2 := hb1.size; have h3 := hk.size; exact ⟨by omega, Nat.le_trans h2 (Nat.le_of_eq h1)⟩); clear oF1 hb1 hN21 hka1 q1 hPa1; have nw1 : Hid (w.heap.size ≤ _) := hk.size; replace hB := hB.next hbz; replace hT := hT.next hbz; replace hk := btz hk hbz; clear hbz; skip)
  | (with_reducible refine qez (by kernel_rfl) 162 _ rfl P1 rfl F hP1 _ underlying162 (by kernel_rfl) (wvz zF) ?_))
 exact bodyPost_ret (results_tmp2 results104 _ _ _) rfl ⟨rfl, hk⟩
theorem load_y (h : Mw w ao n cap X C x) (ha : 0 ≤ a ∧ a ≤ 18446744073709551615) (hE : wkE X x a = 0) : Calls prog 104 #[.agg #[.int .i64 t, .int .u64 ke, .int .u64 ro, .slice ao n cap], .agg C, .int .u64 a] w fun e w' => e = .returned (.tuple #[.int .u64 (gtV (wkO X x a) (mpA X x a)), .bool true]) ∧ Below w.heap.size w w' := by
 have hz := h.thr.size
 have hzg : (prog.info? 25).map (·.size) = some (#[.int .i64 t, .int .u64 ke, .int .u64 ro, .slice ao n cap] : Array Value).size := by kernel_rfl
 have hfd := fun (W : World) (hk : Below w.heap.size w W) => vaz (t := t) (ke := ke) (ro := ro) (h.next hk) ha
 unfold PlO at hfd
 simp only [hE, if_pos] at hfd
 have hA := vjz h.snd ha.1 hE
 have hwl := (xwz hE).2.2.2.2.2.2.2
 have hres : resO 0 (wkO X x a) = wkO X x a := rfl
 rw [hres] at hfd
 clear hE hres
 generalize wkO X x a = y at hfd hwl ⊢
 generalize (mpM X x a).wr = wb at hfd ⊢
 generalize mpA X x a = A at hfd hA hwl ⊢
 have hwo := fun (W : World) (F Cy : Array Value) (hF : PlD F Cy A wb) (hy : ObD (LtN W) W Cy y) => yZz hF hy hA
 rw [hwl] at hwo
 obtain ⟨gv, hgv⟩ : ∃ gv, Hid (gtV y A = gv) := ⟨_, rfl⟩
 simp only [hgv.out] at hwo ⊢
 clear hwl hA
 obtain ⟨D, hD⟩ : ∃ D : Array Value, D = #[.int .i64 t, .int .u64 ke, .int .u64 ro, .slice ao n cap] := ⟨_, rfl⟩
 rw [← hD] at hfd hzg
 rw [← hD]
 clear hD
 go_enter func104, ntmps104
 go_wp2_with (first
  | go_skip
  | (with_reducible refine qdz rfl 25 _ rfl D rfl ?_; intro B V1 hNB hB hk)
  | (with_reducible refine qdz rfl 50 _ rfl C rfl ?_; intro T V2 hNT hT hk2; replace hB := hB.next hk2; replace hk := btz hk hk2; clear hk2)
  | (with_reducible refine qez (by kernel_rfl) 25 _ rfl B rfl D hB _ underlying25 (by kernel_rfl) hzg ?_)
  | (with_reducible refine qez (by kernel_rfl) 50 _ rfl T rfl C hT _ underlying50 (by kernel_rfl) (qhz hz) ?_)
  | (go_at_call 122; (with_reducible refine (hfd _ hk).mono ?_); rintro e w9 ⟨F, CF1, rfl, pF, oF1, hb1⟩)
  | ((with_reducible refine qcz rfl 162 rfl zPl kUz ?_); have hx := oF1; intro P1 U1 hN21 hPa1 hka1; clear hx)
  | ((with_reducible refine qbz rfl _ _ _ rfl P1 rfl F rfl zPl hPa1 (wvz pF.size) (wbz.trans pF.size.symm) pF.one ?_); intro X1 hP1 q1; obtain ⟨hbz, oG1⟩ := yGz hb1 oF1 hN21 hka1 q1; have zF := pF.size; have nwP : Hid (w.heap.size ≤ P1 ∧ _ ≤ P1) := (by have h1 := hN21.out.1; have h2 := hb1.size; have h3 := hk.size; exact ⟨by omega, Nat.le_trans h2 (Nat.le_of_eq h1)⟩); clear oF1 hb1 hN21 hka1 q1 hPa1; have nw1 : Hid (w.heap.size ≤ _) := hk.size; replace hB := hB.next hbz; replace hT := hT.next hbz; replace hk := btz hk hbz; clear hbz; skip)
  | (with_reducible refine qez (by kernel_rfl) 162 _ rfl P1 rfl F hP1 _ underlying162 (by kernel_rfl) (wvz zF) ?_)
  | (go_at_call 123; (with_reducible refine (hwo _ F CF1 pF oG1.lt).mono ?_); rintro e w3 ⟨rfl, hb7⟩; replace hB := hB.next hb7; replace hT := hT.next hb7; replace hP1 := hP1.next hb7; replace oG1 := oG1.next hb7; replace hk := btz hk hb7; clear hb7; skip))
 exact bodyPost_ret (results_tmp2 results104 _ _ _) rfl ⟨rfl, hk⟩
theorem load_v (h : Mw w ao n cap X C x) (ha : 0 ≤ a ∧ a ≤ 18446744073709551615) : Calls prog 104 #[.agg #[.int .i64 t, .int .u64 ke, .int .u64 ro, .slice ao n cap], .agg C, .int .u64 a] w fun e w' => e = .returned (.tuple #[.int .u64 (ldV X x a), .bool (decide (wkE X x a = 0))]) ∧ Below w.heap.size w w' := by
 unfold ldV
 by_cases hE : wkE X x a = 0
 ·rw [if_pos hE, decide_eq_true hE]; exact load_y h ha hE
 ·rw [if_neg hE, decide_eq_false hE]; exact load_n h ha hE
theorem jqz {w0 w W V : World} {R : Nat} {D0 D1 : Nat → Prop} (h : ObsD (New w W) D1 W ao n cap X) (hD : ∀ b, D1 b → (D0 b ∨ New w0 W b) ∧ b ≠ R) (hR : R < w.heap.size) (hw : w0.heap.size ≤ w.heap.size) (q : Oth R W V) : ObsD (New w0 V) (fun b => D0 b ∨ New w0 V b) V ao n cap X :=
 (h.laterK (fun b hb => q.block b (hD b hb).2) (fun b hb => q.block b (by have := hb.1; omega))).wide (fun b hb => (hD b hb).1.imp id fun k => ⟨k.1, by rw [q.size]; exact k.2⟩) (fun b hb => ⟨Nat.le_trans hw hb.1, by rw [q.size]; exact hb.2⟩)
theorem kqz {a v : Int} (h : Mw w ao n cap X C x) (ha : 0 ≤ a ∧ a ≤ 18446744073709551615) (hn : n < 1024) (hD : ∀ b, D0 b → b < w.heap.size) (h0 : ObsD (LtN w) D0 w ao n cap X) (hid : ∀ y ∈ X, y.id ≠ 0) (hcase : (wkE X x a ≠ 0) ∨ (wkE X x a = 0) ∧ (((mpM X x a).wr && leqB x.label (wkO X x a).label) = false)) : Calls prog 105 #[.agg #[.int .i64 t, .int .u64 ke, .int .u64 ro, .slice ao n cap], .agg C, .int .u64 a, .int .u64 v] w fun e w' => ∃ ao2 n2 cap2, e = .returned (.tuple #[.agg #[.int .i64 t, .int .u64 ke, .int .u64 ro, .slice ao2 n2 cap2], .bool false]) ∧ ObsD (New w w') (fun b => D0 b ∨ New w w' b) w' ao2 n2 cap2 X ∧ Below w.heap.size w w' := by
 have hz := h.thr.size
 have hzg : (prog.info? 25).map (·.size) = some (#[.int .i64 t, .int .u64 ke, .int .u64 ro, .slice ao n cap] : Array Value).size := by kernel_rfl
 have hz2 : ∀ v, (prog.info? 25).map (·.size) = some (#[.int .i64 t, .int .u64 ke, .int .u64 ro, v] : Array Value).size := fun _ => by kernel_rfl
 have hs2 : ∀ v, zW.size = (#[.int .i64 t, .int .u64 ke, .int .u64 ro, v] : Array Value).size := fun _ => rfl
 have h12 : ∀ ao n cap, (#[.int .i64 t, .int .u64 ke, .int .u64 ro, .slice ao n cap] : Array Value).all (·.oneCell') = true := fun _ _ _ => by kernel_rfl
 rcases hcase with hE | ⟨hE, hT⟩
 case' inl =>
  have hfd := fun (W : World) (hk : Below w.heap.size w W) => vaz (t := t) (ke := ke) (ro := ro) (h.next hk) ha
  have hdr := fun (W : World) (hk : Below w.heap.size w W) => glz (t := t) (ke := ke) (ro := ro) (i := 0) (D0 := D0) (fun b hb => Nat.lt_of_lt_of_le (hD b hb) hk.size) (wJz h0 hD hk) h.srt hn h.sml
  rw [jAz h.srt (xnz.2 hid)] at hdr
  unfold PlO at hfd
  have HE : Hid (wkE X x a ≠ 0) := hE
  clear hE
  generalize wkE X x a = ek at hfd HE ⊢
  have hb0 : (ek != 0) = true := by simpa using HE.out
  generalize resO ek (wkO X x a) = y at hfd ⊢
  generalize (if ek = 0 then (mpM X x a).wr else false) = wb at hfd ⊢
  generalize (if ek = 0 then mpA X x a else 0) = A at hfd ⊢
  obtain ⟨D, hD⟩ : ∃ D : Array Value, D = #[.int .i64 t, .int .u64 ke, .int .u64 ro, .slice ao n cap] := ⟨_, rfl⟩
  rw [← hD] at hfd hzg hdr
  rw [← hD]
  clear hD
 case' inr =>
  have hfd := fun (W : World) (hk : Below w.heap.size w W) => vaz (t := t) (ke := ke) (ro := ro) (h.next hk) ha
  have hdr := fun (W : World) (hk : Below w.heap.size w W) => glz (t := t) (ke := ke) (ro := ro) (i := 0) (D0 := D0) (fun b hb => Nat.lt_of_lt_of_le (hD b hb) hk.size) (wJz h0 hD hk) h.srt hn h.sml
  rw [jAz h.srt (xnz.2 hid)] at hdr
  unfold PlO at hfd
  simp only [hE, if_pos] at hfd
  have hA := vjz h.snd ha.1 hE
  have hwl := (xwz hE).2.2.2.2.2.2.2
  have hres : resO 0 (wkO X x a) = wkO X x a := rfl
  rw [hres] at hfd
  have hlx := h.lab
  have hta := fun (W : World) (F Cy : Array Value) (hk : Below w.heap.size w W) (hF : PlD F Cy (mpA X x a) (mpM X x a).wr) (hy : ObD (LtN W) W Cy (wkO X x a)) => y7z hF hy (h.next hk).thr hlx
  rw [hT] at hta
  clear hE hres hT hwl hA
  generalize wkO X x a = y at hfd hta ⊢
  generalize (mpM X x a).wr = wb at hfd hta ⊢
  generalize mpA X x a = A at hfd hta ⊢
  obtain ⟨D, hD⟩ : ∃ D : Array Value, D = #[.int .i64 t, .int .u64 ke, .int .u64 ro, .slice ao n cap] := ⟨_, rfl⟩
  rw [← hD] at hfd hzg hdr
  rw [← hD]
  clear hD
 all_goals go_enter func105, ntmps105
 all_goals go_wp2_with (first
  | go_skip
  | (with_reducible refine qdz rfl 25 _ rfl D rfl ?_; intro B V1 hNB hB hk)
  | (with_reducible refine qdz rfl 50 _ rfl C rfl ?_; intro T V2 hNT hT hk2; replace hB := hB.next hk2; replace hk := btz hk hk2; clear hk2)
  | ((with_reducible refine qcz rfl 25 rfl zW wzz ?_); intro R V3 hNR hR hk3; replace hB := hB.next hk3; replace hT := hT.next hk3; replace hk := btz hk hk3; clear hk3)
  | (with_reducible refine qez (by kernel_rfl) 25 _ rfl B rfl D hB _ underlying25 (by kernel_rfl) hzg ?_)
  | (with_reducible refine qez (by kernel_rfl) 50 _ rfl T rfl C hT _ underlying50 (by kernel_rfl) (qhz hz) ?_)
  | (go_at_call 122; (with_reducible refine (hfd _ hk).mono ?_); rintro e w9 ⟨F, CF1, rfl, pF, oF1, hb1⟩)
  | ((with_reducible refine qcz rfl 162 rfl zPl kUz ?_); have hx := oF1; intro P1 U1 hN21 hPa1 hka1; clear hx)
  | ((with_reducible refine qbz rfl _ _ _ rfl P1 rfl F rfl zPl hPa1 (wvz pF.size) (wbz.trans pF.size.symm) pF.one ?_); intro X1 hP1 q1; obtain ⟨hbz, oG1⟩ := yGz hb1 oF1 hN21 hka1 q1; have zF := pF.size; have nwP : Hid (w.heap.size ≤ P1 ∧ _ ≤ P1) := (by have h1 := hN21.out.1; have h2 := hb1.size; have h3 := hk.size; exact ⟨by omega, Nat.le_trans h2 (Nat.le_of_eq h1)⟩); clear oF1 hb1 hN21 hka1 q1 hPa1; have nw1 : Hid (w.heap.size ≤ _) := hk.size; have nR1 : Hid (R < _) := hR.lt; replace hB := hB.next hbz; replace hT := hT.next hbz; replace hR := hR.next hbz; replace hk := btz hk hbz; clear hbz; skip)
  | (with_reducible refine qez (by kernel_rfl) 162 _ rfl P1 rfl F hP1 _ underlying162 (by kernel_rfl) (wvz zF) ?_)
  | (go_at_call 124; (with_reducible refine (hta _ F CF1 hk pF oG1.lt).mono ?_); rintro e w4 ⟨rfl, hb7⟩; replace hB := hB.next hb7; replace hT := hT.next hb7; replace hR := hR.next hb7; replace hP1 := hP1.next hb7; replace oG1 := oG1.next hb7; replace hk := btz hk hb7; clear hb7; skip)
  | (go_at_call 17; (with_reducible refine (hdr _ hk).mono ?_); rintro e w8 ⟨ao2, n2, cap2, rfl, p8, hb8⟩; have nR8 : Hid (R < _) := hR.lt; have h8s : Hid (_ ≤ w8.heap.size) := hb8.size; replace hB := hB.next hb8; replace hT := hT.next hb8; replace hR := hR.next hb8; replace hP1 := hP1.next hb8; replace oG1 := oG1.next hb8; replace hk := btz hk hb8;)
  | ((with_reducible refine qbz rfl _ _ _ rfl R rfl #[.int .i64 t, .int .u64 ke, .int .u64 ro, .slice ao2 n2 cap2] rfl zW hR (hz2 _) (hs2 _) (h12 _ _ _) ?_); intro V9 hR9 q9))
 ·have hRw : w.heap.size ≤ R := by have := hNB.out; have := hNT.out; have := hNR.out; omega
  exact bodyPost_ret (v := .tuple #[.agg #[.int .i64 t, .int .u64 ke, .int .u64 ro, .slice ao2 n2 cap2], .bool false]) (jVz results105 rfl rfl hR9 rfl) rfl ⟨ao2, n2, cap2, rfl, jqz p8 (fun b hb => by
   have h1 := nR8.out
   have h2 := hb8.size
   rcases hb with hb | hb
   ·have h3 := hD b hb
    exact ⟨.inl hb, by omega⟩
   ·have h3 := hb.1
    have h4 := hb.2
    exact ⟨.inr ⟨by omega, by omega⟩, by omega⟩) nR8.out (by have := nR8.out; omega) q9, q9.below _ _ hRw hk⟩
 ·have hRw : w.heap.size ≤ R := by have := hNB.out; have := hNT.out; have := hNR.out; omega
  exact bodyPost_ret (v := .tuple #[.agg #[.int .i64 t, .int .u64 ke, .int .u64 ro, .slice ao2 n2 cap2], .bool false]) (jVz results105 rfl rfl hR9 rfl) rfl ⟨ao2, n2, cap2, rfl, jqz p8 (fun b hb => by
   have h1 := nR8.out
   have h2 := hb8.size
   rcases hb with hb | hb
   ·have h3 := hD b hb
    exact ⟨.inl hb, by omega⟩
   ·have h3 := hb.1
    have h4 := hb.2
    exact ⟨.inr ⟨by omega, by omega⟩, by omega⟩) nR8.out (by have := nR8.out; omega) q9, q9.below _ _ hRw hk⟩
theorem store_c {a v : Int} (h : Mw w ao n cap X C x) (ha : 0 ≤ a ∧ a ≤ 18446744073709551615) (hn : n < 1024) (hD : ∀ b, D0 b → b < w.heap.size) (h0 : ObsD (LtN w) D0 w ao n cap X) (hid : ∀ y ∈ X, y.id ≠ 0) (hE : wkE X x a = 0) (hT : ((mpM X x a).wr && leqB x.label (wkO X x a).label) = true) : Calls prog 105 #[.agg #[.int .i64 t, .int .u64 ke, .int .u64 ro, .slice ao n cap], .agg C, .int .u64 a, .int .u64 v] w fun e w' => ∃ ao2 n2 cap2, e = .returned (.tuple #[.agg #[.int .i64 t, .int .u64 ke, .int .u64 ro, .slice ao2 n2 cap2], .bool true]) ∧ ObsD (New w w') (fun b => D0 b ∨ New w w' b) w' ao2 n2 cap2 (puR X (putO (wkO X x a) (mpA X x a) v)) ∧ Below w.heap.size w w' := by
 have hmx : prog.follows .mixedOrders = true := by kernel_rfl
 have hz := h.thr.size
 have hzg : (prog.info? 25).map (·.size) = some (#[.int .i64 t, .int .u64 ke, .int .u64 ro, .slice ao n cap] : Array Value).size := by kernel_rfl
 have hfd := fun (W : World) (hk : Below w.heap.size w W) => vaz (t := t) (ke := ke) (ro := ro) (h.next hk) ha
 unfold PlO at hfd
 simp only [hE, if_pos] at hfd
 have hA := vjz h.snd ha.1 hE
 have hwl := (xwz hE).2.2.2.2.2.2.2
 have hres : resO 0 (wkO X x a) = wkO X x a := rfl
 rw [hres] at hfd
 have hlx := h.lab
 have hta := fun (W : World) (F Cy : Array Value) (hk : Below w.heap.size w W) (hF : PlD F Cy (mpA X x a) (mpM X x a).wr) (hy : ObD (LtN W) W Cy (wkO X x a)) => y7z hF hy (h.next hk).thr hlx
 rw [hT] at hta
 have hsy : Small (wkO X x a) := fO_small h.sml _
 have hsk := wk_kind (x := x) (a := a) h.snd
 have hpS := uAz hsy (p := mpA X x a) (v := v)
 clear hE hres hT hwl
 generalize wkO X x a = y at hfd hta hsy hsk hpS ⊢
 generalize (mpM X x a).wr = wb at hfd hta ⊢
 generalize mpA X x a = A at hfd hta hA hpS ⊢
 have hwi := fun (W : World) (F Cy : Array Value) (hF : PlD F Cy A wb) (hy : ObD (LtN W) W Cy y) => with_v hF hy hsy hsk hA (v := v)
 have hpu := fun (V W : World) (Cw : Array Value) (hk : Below w.heap.size w V) (hVW : Below V.heap.size V W) (hC : ObD (New V W) W Cw (putO y A v)) => put_w (t := t) (ke := ke) (ro := ro) (D0 := fun b => D0 b ∨ New V W b) (fun b hb => hb.elim (fun q => Nat.lt_of_lt_of_le (hD b q) (Nat.le_trans hk.size hVW.size)) (fun q => q.2)) ((ObsD.laterK h0 (fun b hb => (btz hk hVW).block b (hD b hb)) (fun b hb => (btz hk hVW).block b hb)).wide (fun _ hb => .inl hb) (fun _ hb => Nat.lt_of_lt_of_le hb (Nat.le_trans hk.size hVW.size))) h.srt hn h.sml (hC.wide fun _ q => .inr q) hpS
 generalize putO y A v = y2 at hwi hpu ⊢
 clear hsy hsk hA hpS
 obtain ⟨D, hD⟩ : ∃ D : Array Value, D = #[.int .i64 t, .int .u64 ke, .int .u64 ro, .slice ao n cap] := ⟨_, rfl⟩
 rw [← hD] at hfd hzg hpu
 rw [← hD]
 clear hD
 go_enter func105, ntmps105
 go_wp2_with (first
  | go_skip
  | (with_reducible refine qdz rfl 25 _ rfl D rfl ?_; intro B V1 hNB hB hk)
  | (with_reducible refine qdz rfl 50 _ rfl C rfl ?_; intro T V2 hNT hT hk2; replace hB := hB.next hk2; replace hk := btz hk hk2; clear hk2)
  | ((with_reducible refine qcz rfl 25 rfl zW wzz ?_); intro R V3 hNR hR hk3; replace hB := hB.next hk3; replace hT := hT.next hk3; replace hk := btz hk hk3; clear hk3)
  | (with_reducible refine qez (by kernel_rfl) 25 _ rfl B rfl D hB _ underlying25 (by kernel_rfl) hzg ?_)
  | (with_reducible refine qez (by kernel_rfl) 50 _ rfl T rfl C hT _ underlying50 (by kernel_rfl) (qhz hz) ?_)
  | (go_at_call 122; (with_reducible refine (hfd _ hk).mono ?_); rintro e w9 ⟨F, CF1, rfl, pF, oF1, hb1⟩)
  | ((with_reducible refine qcz rfl 162 rfl zPl kUz ?_); have hx := oF1; intro P1 U1 hN21 hPa1 hka1; clear hx)
  | ((with_reducible refine qbz rfl _ _ _ rfl P1 rfl F rfl zPl hPa1 (wvz pF.size) (wbz.trans pF.size.symm) pF.one ?_); intro X1 hP1 q1; obtain ⟨hbz, oG1⟩ := yGz hb1 oF1 hN21 hka1 q1; have zF := pF.size; have nwP : Hid (w.heap.size ≤ P1 ∧ _ ≤ P1) := (by have h1 := hN21.out.1; have h2 := hb1.size; have h3 := hk.size; exact ⟨by omega, Nat.le_trans h2 (Nat.le_of_eq h1)⟩); clear oF1 hb1 hN21 hka1 q1 hPa1; have nw1 : Hid (w.heap.size ≤ _) := hk.size; have nR1 : Hid (R < _) := hR.lt; replace hB := hB.next hbz; replace hT := hT.next hbz; replace hR := hR.next hbz; replace hk := btz hk hbz; clear hbz; skip)
  | (with_reducible refine qez (by kernel_rfl) 162 _ rfl P1 rfl F hP1 _ underlying162 (by kernel_rfl) (wvz zF) ?_)
  | (go_at_call 124; (with_reducible refine (hta _ F CF1 hk pF oG1.lt).mono ?_); rintro e w4 ⟨rfl, hb7⟩; replace hB := hB.next hb7; replace hT := hT.next hb7; replace hR := hR.next hb7; replace hP1 := hP1.next hb7; replace oG1 := oG1.next hb7; replace hk := btz hk hb7; clear hb7; skip))
 have hRP : R ≠ P1 := by have h1 := nR1.out; have h2 := nwP.out.2; omega
 have hRw : w.heap.size ≤ R := by have := hNB.out; have := hNT.out; have := hNR.out; omega
 have hBR : B ≠ R := by have := hNB.out; have := hNT.out; have := hNR.out; omega
 have hd := (Below.refl w4.heap.size w4).drew
 have hwP := nwP.out.1
 refine PgM.region_out (S := fun U => Blk U B D 25 ∧ Blk U P1 F 162 ∧ Below w.heap.size w U) hmx ⟨hB.next hd, hP1.next hd, btz hk hd⟩ (fun hS => ?_)
 have hR1 := hR.next hd
 have oG2 := oG1.next hd
 have hRl : R < w4.drew.heap.size := hR1.lt
 generalize w4.drew = v5 at hS hd hR1 oG2 hRl ⊢
 refine qlz (by kernel_rfl) (fun _ _ _ _ _ h => h) hS [(0, some (.agg D)), (1, some (.agg F)), (2, none)] (l' := #[tt, tt, tt, ff, ff, ff, ff]) (a' := { tmps := #[.agg D, .agg C, .int .u64 a, .int .u64 v, .pointer (some ⟨B, 0, none⟩), .pointer (some ⟨T, 0, none⟩), ud, undef, .pointer (some ⟨R, 0, none⟩), .bool false, .pointer (some ⟨P1, 0, none⟩), .int .i64 0, .tuple #[.agg F, .int .i64 0], .agg D, .agg C, .int .u64 a, .tuple #[.agg F, .int .i64 0], .agg F, .int .i64 0, .int .i64 0, .bool false, .bool false, .agg F, .agg C, .bool true, .bool false, .bool false, ud, undef, .agg D, .agg F, .int .u64 v, ud, undef], defers := [] }) (obs := [.load 25 B 0 (.agg D), .load 162 P1 0 (.agg F)]) (n := 4) (by kernel_rfl) (by kernel_rfl) ⟨qTz (fun _ q => q.1) underlying25 rfl hzg, qTz (fun _ q => q.2.1) underlying162 rfl (wvz zF), trivial⟩ ?_
 refine qzz (i := 3) (fuel := 3) (f := 125) (vs := [.agg F, .int .u64 v]) (d := some 32) (by kernel_rfl) (by kernel_rfl) (by kernel_rfl) call125 (hwi _ F CF1 pF oG2.lt) ?_
 rintro e z1 ⟨CW, rfl, oW, hcz1⟩
 have hSz1 : Blk z1 B D 25 ∧ Blk z1 P1 F 162 ∧ Below w.heap.size w z1 := ⟨hS.1.next hcz1, hS.2.1.next hcz1, hS.2.2.trans (hcz1.mono hS.2.2.size)⟩
 refine ⟨_, rfl, hSz1, ?_⟩
 refine qzz (i := 4) (fuel := 2) (f := 19) (vs := [.agg D, .agg CW]) (d := some 33) (by kernel_rfl) (by kernel_rfl) (by kernel_rfl) call19 (hpu _ _ CW hS.2.2 hcz1 oW) ?_
 rintro e z2 ⟨ao2, n2, cap2, rfl, p2, hcz2⟩
 have hSz2 : Blk z2 B D 25 ∧ Blk z2 P1 F 162 ∧ Below w.heap.size w z2 := ⟨hSz1.1.next hcz2, hSz1.2.1.next hcz2, hSz1.2.2.trans (hcz2.mono hSz1.2.2.size)⟩
 refine ⟨_, rfl, hSz2, ?_⟩
 obtain ⟨V9, hr9, hR9, q9⟩ := wdz (C := #[.int .i64 t, .int .u64 ke, .int .u64 ro, .slice ao2 n2 cap2]) ((hR1.next hcz1).next hcz2) (by kernel_rfl) rfl (by kernel_rfl)
 refine qjz (i := 5) (n := 1) rfl (by kernel_rfl) ?_
 refine qAz (ty := 25) (B := R) (off := 0) (v := .agg #[.int .i64 t, .int .u64 ke, .int .u64 ro, .slice ao2 n2 cap2]) (d := none) (by kernel_rfl) hr9 ?_
 have hS9 : Blk V9 B D 25 ∧ Blk V9 P1 F 162 ∧ Below w.heap.size w V9 := ⟨hSz2.1.other q9 hBR, hSz2.2.1.other q9 hRP.symm, q9.below _ _ hRw hSz2.2.2⟩
 refine ⟨hS9, ?_⟩
 refine qlz (by kernel_rfl) (fun _ _ _ _ _ h => h) hS9 [(6, none)] (l' := #[tt, tt, tt, tt, tt, tt, tt]) (a' := { tmps := #[.agg D, .agg C, .int .u64 a, .int .u64 v, .pointer (some ⟨B, 0, none⟩), .pointer (some ⟨T, 0, none⟩), ud, undef, .pointer (some ⟨R, 0, none⟩), .bool true, .pointer (some ⟨P1, 0, none⟩), .int .i64 0, .tuple #[.agg F, .int .i64 0], .agg D, .agg C, .int .u64 a, .tuple #[.agg F, .int .i64 0], .agg F, .int .i64 0, .int .i64 0, .bool false, .bool false, .agg F, .agg C, .bool true, .bool false, .bool false, ud, undef, .agg D, .agg F, .int .u64 v, .agg CW, .agg #[.int .i64 t, .int .u64 ke, .int .u64 ro, .slice ao2 n2 cap2]], defers := [] }) (obs := []) (n := 0) (by kernel_rfl) (by kernel_rfl) trivial ?_
 refine wpAnyH_done (by kernel_rfl) ?_ _
 go_wp2
 exact bodyPost_ret (v := .tuple #[.agg #[.int .i64 t, .int .u64 ke, .int .u64 ro, .slice ao2 n2 cap2], .bool true]) (jVz results105 rfl rfl hR9 rfl) rfl ⟨ao2, n2, cap2, rfl, jqz p2 (fun b hb => by
  have h1 := nR1.out
  have h2 := hcz2.size
  have h3 := hcz1.size
  have h4 := nw1.out
  have h5 := hSz2.2.2.size
  rcases hb with (hb | hb) | hb
  ·have h6 := hD b hb
   exact ⟨.inl hb, by omega⟩
  ·have h6 := hb.1
   have h7 := hb.2
   exact ⟨.inr ⟨by omega, by omega⟩, by omega⟩
  ·have h6 := hb.1
   have h7 := hb.2
   exact ⟨.inr ⟨by omega, by omega⟩, by omega⟩) (by have := hcz1.size; omega) (by have := hcz1.size; omega) q9, hS9.2.2⟩
theorem uaz {a v : Int} (h : Mw w ao n cap X C x) (ha : 0 ≤ a ∧ a ≤ 18446744073709551615) (hn : n < 1024) (hD : ∀ b, D0 b → b < w.heap.size) (h0 : ObsD (LtN w) D0 w ao n cap X) (hid : ∀ y ∈ X, y.id ≠ 0) : Calls prog 105 #[.agg #[.int .i64 t, .int .u64 ke, .int .u64 ro, .slice ao n cap], .agg C, .int .u64 a, .int .u64 v] w fun e w' => ∃ ao2 n2 cap2, e = .returned (.tuple #[.agg #[.int .i64 t, .int .u64 ke, .int .u64 ro, .slice ao2 n2 cap2], .bool (stB X x a)]) ∧ ObsD (New w w') (fun b => D0 b ∨ New w w' b) w' ao2 n2 cap2 (stX X x a v) ∧ Below w.heap.size w w' := by
 unfold stX stB
 by_cases hE : wkE X x a = 0
 ·rw [decide_eq_true hE, Bool.true_and]
  cases hT : ((mpM X x a).wr && leqB x.label (wkO X x a).label) with
  | true => rw [if_pos rfl]; exact store_c h ha hn hD h0 hid hE hT
  | false => rw [if_neg (by decide)]; exact kqz h ha hn hD h0 hid (.inr ⟨hE, hT⟩)
 ·rw [decide_eq_false hE, Bool.false_and, if_neg (by decide)]
  exact kqz h ha hn hD h0 hid (.inl hE)
end
section
def Wo (g : Ob → Ob) : Prop := g zOb = zOb ∧ ∀ z, g z = { z with data := (g z).data } ∧ (g z).data.length = z.data.length
def gSt (i : Int) (A : Nat) (v : Int) (z : Ob) : Ob := if z.id = i then putO z A v else z
theorem put_z (A : Nat) (v : Int) : putO zOb A v = zOb := by
 unfold putO
 rw [if_neg (by unfold wpl; rw [if_neg (by decide)]; decide)]
theorem put_wo (z : Ob) (A : Nat) (v : Int) : putO z A v = { z with data := (putO z A v).data } ∧ (putO z A v).data.length = z.data.length := by
 refine ⟨?_, put_len z A v⟩
 unfold putO
 split <;> rfl
theorem u6z (i : Int) (A : Nat) (v : Int) : Wo (gSt i A v) := by
 refine ⟨?_, fun z => ?_⟩
 ·unfold gSt; split
  ·exact put_z A v
  ·rfl
 ·unfold gSt; split
  ·exact put_wo z A v
  ·exact ⟨rfl, rfl⟩
section
variable {g : Ob → Ob} {X : List Ob}
theorem Wo.kin (h : Wo g) (z : Ob) : Kin z (g z) := by
 obtain ⟨e, l⟩ := h.2 z
 exact ⟨by rw [e], by rw [e], by rw [e], by rw [e], by rw [e], by rw [e], l, by rw [e], by rw [e]⟩
theorem Wo.maps (h : Wo g) (z : Ob) : (g z).maps = z.maps := by rw [(h.2 z).1]
end
section
variable {X : List Ob} {x u : Ob} {a b v : Int}
theorem ucz (h : stB X x a = true) : wkE X x a = 0 ∧ (mpM X x a).wr = true ∧ leqB x.label (wkO X x a).label = true := by
 unfold stB at h
 simp only [Bool.and_eq_true, decide_eq_true_eq] at h
 exact h
theorem wk_fnd (hs : Srt X) (h : wkE X x a = 0) : fnd X (wkO X x a).id = some (wkO X x a) := (fnd_some hs).2 ⟨(xwz h).2.2.1, rfl⟩
theorem vPz (hs : Srt X) (h : stB X x a = true) : stX X x a v = X.map (gSt (wkO X x a).id (mpA X x a) v) := by
 have h0 := (ucz h).1
 have hp : (putO (wkO X x a) (mpA X x a) v).id = (wkO X x a).id := by rw [(put_wo (wkO X x a) (mpA X x a) v).1]
 unfold stX
 rw [if_pos h, vyz hs (by rw [hp, wk_fnd hs h0]; rfl), hp]
 refine List.map_congr_left fun z hz => ?_
 unfold gSt
 by_cases e : z.id = (wkO X x a).id
 ·rw [if_pos e, if_pos e, x9z hs hz (xwz h0).2.2.1 e]
 ·rw [if_neg e, if_neg e]
theorem st_no (h : stB X x a = false) : stX X x a v = X := by unfold stX; rw [h, if_neg (by decide)]
theorem st_fit {t ro : Int} {key : Nat} (hf : fitD t key ro X = true) : fitD t key ro (stX X x a v) = true := by
 have hT := xbz hf
 cases h : stB X x a with
 | false => rw [st_no h]; exact hf
 | true =>
  rw [vPz hT.srt h]
  refine fit_map (fun z _ => (u6z _ _ _).kin z) (fun z hz => ?_) hf
  unfold gSt
  split
  ·exact uzz (hT.snd z hz)
  ·exact hT.snd z hz
theorem st_oat (hs : Srt X) {k : Nat} (hk : k < X.length) : oat (stX X x a v) k = (if stB X x a = true then gSt (wkO X x a).id (mpA X x a) v (oat X k) else oat X k) := by
 cases h : stB X x a with
 | false => rw [st_no h]; rfl
 | true => rw [vPz hs h, xRz hk]; rfl
theorem st_len (hs : Srt X) : (stX X x a v).length = X.length := by
 cases h : stB X x a with
 | false => rw [st_no h]
 | true => rw [vPz hs h, List.length_map]
end
end
end Go.Proofs.YtdeddhojjolihaaGreat
