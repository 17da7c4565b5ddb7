/-
 PROVED HERE: what tree.Fix and tree.Link return when they are called (contracts over this translation). What is asked stands at each.
-/
import Derived.Test.YtklnneiblmakmaaGreatZ40
namespace Go.Proofs.YtklnneiblmakmaaGreat
set_option maxRecDepth 100000
set_option maxHeartbeats 8000000
set_option linter.unusedVariables false
open Go.Proofs.Tryz
section
open Go.RowKit Go.Shelf
attribute [local go_sem] Oper.semAt_some
theorem ob_set4 {D : Nat → Prop} {w : World} {C : Array Value} {x : Ob} (h : ObD D w C x) (v : Bool) : ObD D w (C.setIfInBounds 4 (.bool v)) { x with fixed := v } := by
 have e : ∀ i, (C.setIfInBounds 4 (.bool v))[i]? = if 4 = i then some (.bool v) else C[i]? := fun i => qDz (by rw [h.size]; omega)
 exact ⟨by simp [h.size], wcz h.one rfl, by rw [e, if_neg (by omega)]; exact h.id, by rw [e, if_neg (by omega)]; exact h.kind, by rw [e, if_neg (by omega)]; exact h.label, by rw [e, if_neg (by omega)]; exact h.quota, by rw [e, if_pos rfl], by rw [e, if_neg (by omega)]; exact h.links, by rw [e, if_neg (by omega)]; exact h.data, by rw [e, if_neg (by omega)]; exact h.maps, h.th.congr fun i hi => by rw [e, if_neg (by omega)], h.gt.congr fun i hi => by rw [e, if_neg (by omega)], by rw [e, if_neg (by omega)]; exact h.inn, by rw [e, if_neg (by omega)]; exact h.out⟩
theorem ob_set3 {D : Nat → Prop} {w : World} {C : Array Value} {x : Ob} (h : ObD D w C x) (v : Int) : ObD D w (C.setIfInBounds 3 (.int .i64 v)) { x with quota := v } := by
 have e : ∀ i, (C.setIfInBounds 3 (.int .i64 v))[i]? = if 3 = i then some (.int .i64 v) else C[i]? := fun i => qDz (by rw [h.size]; omega)
 exact ⟨by simp [h.size], wcz h.one rfl, by rw [e, if_neg (by omega)]; exact h.id, by rw [e, if_neg (by omega)]; exact h.kind, by rw [e, if_neg (by omega)]; exact h.label, by rw [e, if_pos rfl], by rw [e, if_neg (by omega)]; exact h.fixed, by rw [e, if_neg (by omega)]; exact h.links, by rw [e, if_neg (by omega)]; exact h.data, by rw [e, if_neg (by omega)]; exact h.maps, h.th.congr fun i hi => by rw [e, if_neg (by omega)], h.gt.congr fun i hi => by rw [e, if_neg (by omega)], by rw [e, if_neg (by omega)]; exact h.inn, by rw [e, if_neg (by omega)]; exact h.out⟩
theorem ujz {x : Ob} (h : Small x) (b : Bool) : Small { x with fixed := b } := ⟨h.c2, h.c5, h.c6, h.c7, h.c25, h.c36, h.c39, h.c40, h.c41, h.c42, h.c43, h.c44, h.c49, h.c50⟩
theorem uiz {x : Ob} (h : Small x) (q : Int) : Small { x with quota := q } := ⟨h.c2, h.c5, h.c6, h.c7, h.c25, h.c36, h.c39, h.c40, h.c41, h.c42, h.c43, h.c44, h.c49, h.c50⟩
theorem sizeB : (prog.info? 4).map (·.size) = some 1 := by kernel_rfl
def fixE (X : List Ob) (i : Int) : Int := if (fnd X i).isSome = false then 1 else if sngO (fO X i) = true then 3 else 0
def fixX (X : List Ob) (i : Int) : List Ob := if (fnd X i).isSome = false then X else if sngO (fO X i) = true then X else puR X { fO X i with fixed := true }
theorem fix_v {w : World} {t ke ro i : Int} {ao : Option Addr} {n cap : Nat} {X : List Ob} {Cf : Nat → Array Value} {D0 : Nat → Prop} (hD : ∀ b, D0 b → b < w.heap.size) (h : ObsF (LtN w) D0 w ao n cap X Cf) (hL : Lays X) (hn16 : n < 1022) :
  Calls prog 14 #[.agg #[.int .i64 t, .int .u64 ke, .int .u64 ro, .slice ao n cap], .int .u64 i] w fun e w' => ∃ ao2 n2 cap2, e = .returned (.tuple #[.agg #[.int .i64 t, .int .u64 ke, .int .u64 ro, .slice ao2 n2 cap2], .int .i64 (fixE X i)]) ∧ ObsN w D0 w' ao2 n2 cap2 (fixX X i) ∧ Below w.heap.size w w' := by
 have hO : ObsD (LtN w) D0 w ao n cap X := h.obs
 have hF : ObsF (LtN w) (LtN w) w ao n cap X Cf := h.wide hD (fun _ hb => hb)
 have hzw : (prog.info? 25).map (·.size) = some (#[.int .i64 t, .int .u64 ke, .int .u64 ro, .slice ao n cap] : Array Value).size := by kernel_rfl
 have hzv : (prog.info? 74).map (·.size) = some (#[.int .i64 t, .int .u64 ke, .int .u64 ro, .slice ao n cap] : Array Value).size := by kernel_rfl
 have hbt : prog.built 74 [(0, .agg #[.int .i64 t, .int .u64 ke, .int .u64 ro, .slice ao n cap])] = some #[.int .i64 t, .int .u64 ke, .int .u64 ro, .slice ao n cap] := by kernel_rfl
 have hz4 : (#[.int .i64 0, .int .u64 0, .int .u64 0, .slice none 0 0] : Array Value).size = (#[.int .i64 t, .int .u64 ke, .int .u64 ro, .slice ao n cap] : Array Value).size := rfl
 have h14 : (#[.int .i64 t, .int .u64 ke, .int .u64 ro, .slice ao n cap] : Array Value).all (·.oneCell') = true := by simp [Value.oneCell']
 have hz2 : ∀ v, (prog.info? 25).map (·.size) = some (#[.int .i64 t, .int .u64 ke, .int .u64 ro, v] : Array Value).size := fun _ => wfz
 have hs2 : ∀ v, zW.size = (#[.int .i64 t, .int .u64 ke, .int .u64 ro, v] : Array Value).size := fun _ => rfl
 have h12 : ∀ ao n cap, (#[.int .i64 t, .int .u64 ke, .int .u64 ro, .slice ao n cap] : Array Value).all (·.oneCell') = true := fun _ _ _ => by kernel_rfl
 have hrf := fun {er : Int} (W : World) (hk : Below w.heap.size w W) => wXz (t := t) (ke := ke) (ro := ro) (er := er) (D0 := D0) (fun b hb => Nat.lt_of_lt_of_le (hD b hb) hk.size) (qUz hO hD hk) hL.srt (by omega) hL.sms hL.nul
 have hf1 := fun (W : World) (hk : Below w.heap.size w W) => xtz (t := t) (ke := ke) (ro := ro) (i := i) (hF.next hk) hL.srt (by omega)
 have hdo := j7z h hL.srt i
 have hz1 := hdo.size
 have h1c := hdo.one
 have hsn := fun (W : World) (hk : Below w.heap.size w W) => xyz (hdo.laterK fun b hb => hk.block b (hD b hb))
 have hpu := fun (W : World) (hk : Below w.heap.size w W) => put_w (t := t) (ke := ke) (ro := ro) (D0 := D0) (fun b hb => Nat.lt_of_lt_of_le (hD b hb) hk.size) (qUz hO hD hk) hL.srt (by omega) hL.sms (ob_set4 (hdo.laterK fun b hb => hk.block b (hD b hb)) true) (ujz (hL.at i).1 true)
 obtain ⟨ER, hER⟩ : ∃ ER, Hid (fixE X i = ER) := ⟨_, rfl⟩
 obtain ⟨YR, hYR⟩ : ∃ YR, Hid (fixX X i = YR) := ⟨_, rfl⟩
 rw [hER.out, hYR.out]
 have hzn : ((fC X Cf i).setIfInBounds 4 (.bool true)).size = 51 := by rw [Array.size_setIfInBounds]; exact hz1
 generalize fC X Cf i = C1 at hf1 hz1 h1c hsn hpu hzn
 clear hdo
 obtain ⟨Cn, hCn⟩ : ∃ Cn, Hid (C1.setIfInBounds 4 (.bool true) = Cn) := ⟨_, rfl⟩
 rw [hCn.out] at hzn
 simp only [hCn.out] at hpu
 obtain ⟨G, hG⟩ : ∃ G : Array Value, G = #[.int .i64 t, .int .u64 ke, .int .u64 ro, .slice ao n cap] := ⟨_, rfl⟩
 simp only [← hG] at hrf hf1 hpu
 rw [← hG] at hzw hzv hbt hz4 h14
 rw [← hG]
 clear hG
 cases hb1 : (fnd X i).isSome with
 | false =>
  rw [hb1] at hf1
  go_enter func14, ntmps14
  go_wp2_with (first
   | go_skip
   | (with_reducible refine qdz rfl 25 _ rfl G rfl ?_; intro B3 W3 hN3 hB3 hk)
   | ((with_reducible refine qcz rfl 25 rfl zW qNz ?_); intro R W6 hN6 hR hk6; have hRw : Hid (w.heap.size ≤ R) := (by have := hN6.out; have := hk.size; refine (?_ : w.heap.size ≤ R); omega); replace hB3 := hB3.next hk6; replace hk := btz hk hk6; clear hN3 hN6)
   | (with_reducible refine qez (by kernel_rfl) 25 _ rfl B3 rfl G hB3 _ underlying25 (by kernel_rfl) hzw ?_)
   | ((with_reducible refine qpz (by kernel_rfl) _ [(0, .tmp 9)] rfl G ?hf ?_); (case hf => exact hbt))
   | ((with_reducible refine qcz rfl 74 rfl #[.int .i64 0, .int .u64 0, .int .u64 0, .slice none 0 0] Tryz.zeroValue74 ?_); intro B8 W8 hN8 hR8 hk8)
   | ((with_reducible refine qaz rfl _ _ _ rfl B8 rfl G rfl _ hR8 hzv hz4 h14 ?_); intro V8 hB8 o8; have hb8 : Below W6.heap.size W6 V8 := o8.below W6.heap.size W6 (by have := hN8.out; omega) hk8; replace hB3 := hB3.next hb8; replace hR := hR.next hb8; replace hk := btz hk hb8; clear hN8 hR8 hk8 o8 hb8)
   | (with_reducible refine qez (by kernel_rfl) 74 _ rfl B8 rfl G hB8 _ underlying74 (by kernel_rfl) hzv ?_)
   | (go_at_call 37; (with_reducible refine (hf1 _ hk).mono ?_); rintro e w9 ⟨rfl, hb8⟩; replace hB3 := hB3.next hb8; replace hR := hR.next hb8; replace hB8 := hB8.next hb8; replace hk := btz hk hb8; clear hb8)
   | ((with_reducible refine qcz rfl 43 rfl zC qqz ?_); intro P9 W9 hN9 hP9a hk9; have hPw : Hid (w.heap.size ≤ P9 ∧ B3 ≠ P9 ∧ R ≠ P9) := (by have := hN9.out; have := hk.size; have := hB3.lt; have := hR.lt; refine (⟨?_, ?_, ?_⟩ : _ ∧ _ ∧ _) <;> omega))
   | ((with_reducible refine qaz rfl _ _ _ rfl P9 rfl C1 rfl zC hP9a (qfz hz1) (qmz.trans hz1.symm) h1c ?_); intro V9 hP9 q9; have hb8 : Below w9.heap.size w9 V9 := q9.below w9.heap.size w9 (by have := hN9.out; omega) hk9; replace hB3 := hB3.next hb8; replace hR := hR.next hb8; replace hB8 := hB8.next hb8; replace hk := btz hk hb8; clear hN9 hP9a hk9 q9 hb8)
   | (go_at_call 38; (with_reducible refine (hrf _ hk).mono ?_); rintro e w12 ⟨aX, nX, cX, rfl, oX, hb9⟩; have hR9 := hR.next hb9)
   | ((with_reducible refine qaz rfl _ _ _ rfl R rfl _ rfl zW hR9 (hz2 _) (hs2 _) (h12 aX nX cX) ?_); intro W13 hR13 q13))
  refine bodyPost_ret (qPz results14 rfl rfl hR13 rfl) rfl ?_
  have hE : ER = 1 := by rw [← hER.out]; unfold fixE; rw [if_pos hb1]
  have hY : YR = X := by rw [← hYR.out]; unfold fixX; rw [if_pos hb1]
  rw [hE, hY]
  exact ⟨aX, nX, cX, rfl, (ObsN.store oX q13 hR.lt (fun b hb => by have := hD b hb; have := hRw.out; omega)).low hk.size, q13.below _ _ hRw.out (btz hk hb9)⟩
 | true =>
  rw [hb1] at hf1
  cases hb2 : sngO (fO X i) with
  | true =>
   rw [hb2] at hsn
   go_enter func14, ntmps14
   go_wp2_with (first
    | go_skip
    | (with_reducible refine qdz rfl 25 _ rfl G rfl ?_; intro B3 W3 hN3 hB3 hk)
    | ((with_reducible refine qcz rfl 25 rfl zW qNz ?_); intro R W6 hN6 hR hk6; have hRw : Hid (w.heap.size ≤ R) := (by have := hN6.out; have := hk.size; refine (?_ : w.heap.size ≤ R); omega); replace hB3 := hB3.next hk6; replace hk := btz hk hk6; clear hN3 hN6)
    | (with_reducible refine qez (by kernel_rfl) 25 _ rfl B3 rfl G hB3 _ underlying25 (by kernel_rfl) hzw ?_)
    | ((with_reducible refine qpz (by kernel_rfl) _ [(0, .tmp 9)] rfl G ?hf ?_); (case hf => exact hbt))
    | ((with_reducible refine qcz rfl 74 rfl #[.int .i64 0, .int .u64 0, .int .u64 0, .slice none 0 0] Tryz.zeroValue74 ?_); intro B8 W8 hN8 hR8 hk8)
    | ((with_reducible refine qaz rfl _ _ _ rfl B8 rfl G rfl _ hR8 hzv hz4 h14 ?_); intro V8 hB8 o8; have hb8 : Below W6.heap.size W6 V8 := o8.below W6.heap.size W6 (by have := hN8.out; omega) hk8; replace hB3 := hB3.next hb8; replace hR := hR.next hb8; replace hk := btz hk hb8; clear hN8 hR8 hk8 o8 hb8)
    | (with_reducible refine qez (by kernel_rfl) 74 _ rfl B8 rfl G hB8 _ underlying74 (by kernel_rfl) hzv ?_)
    | (go_at_call 37; (with_reducible refine (hf1 _ hk).mono ?_); rintro e w9 ⟨rfl, hb8⟩; replace hB3 := hB3.next hb8; replace hR := hR.next hb8; replace hB8 := hB8.next hb8; replace hk := btz hk hb8; clear hb8)
    | ((with_reducible refine qcz rfl 43 rfl zC qqz ?_); intro P9 W9 hN9 hP9a hk9; have hPw : Hid (w.heap.size ≤ P9 ∧ B3 ≠ P9 ∧ R ≠ P9) := (by have := hN9.out; have := hk.size; have := hB3.lt; have := hR.lt; refine (⟨?_, ?_, ?_⟩ : _ ∧ _ ∧ _) <;> omega))
    | ((with_reducible refine qaz rfl _ _ _ rfl P9 rfl C1 rfl zC hP9a (qfz hz1) (qmz.trans hz1.symm) h1c ?_); intro V9 hP9 q9; have hb8 : Below w9.heap.size w9 V9 := q9.below w9.heap.size w9 (by have := hN9.out; omega) hk9; replace hB3 := hB3.next hb8; replace hR := hR.next hb8; replace hB8 := hB8.next hb8; replace hk := btz hk hb8; clear hN9 hP9a hk9 q9 hb8)
    | (with_reducible refine qez (by kernel_rfl) 43 _ rfl P9 rfl C1 hP9 _ underlying43 (by kernel_rfl) (qfz hz1) ?_)
    | (go_at_call 42; (with_reducible refine (hsn _ hk).mono ?_); rintro e w10 ⟨rfl, hb8⟩; replace hB3 := hB3.next hb8; replace hR := hR.next hb8; replace hB8 := hB8.next hb8; replace hP9 := hP9.next hb8; replace hk := btz hk hb8; clear hb8)
    | (go_at_call 38; (with_reducible refine (hrf _ hk).mono ?_); rintro e w12 ⟨aX, nX, cX, rfl, oX, hb9⟩; have hR9 := hR.next hb9)
    | ((with_reducible refine qaz rfl _ _ _ rfl R rfl _ rfl zW hR9 (hz2 _) (hs2 _) (h12 aX nX cX) ?_); intro W13 hR13 q13))
   refine bodyPost_ret (qPz results14 rfl rfl hR13 rfl) rfl ?_
   have hE : ER = 3 := by rw [← hER.out]; unfold fixE; rw [if_neg (by rw [hb1]; decide), if_pos hb2]
   have hY : YR = X := by rw [← hYR.out]; unfold fixX; rw [if_neg (by rw [hb1]; decide), if_pos hb2]
   rw [hE, hY]
   exact ⟨aX, nX, cX, rfl, (ObsN.store oX q13 hR.lt (fun b hb => by have := hD b hb; have := hRw.out; omega)).low hk.size, q13.below _ _ hRw.out (btz hk hb9)⟩
  | false =>
   rw [hb2] at hsn
   go_enter func14, ntmps14
   go_wp2_with (first
    | go_skip
    | (with_reducible refine qdz rfl 25 _ rfl G rfl ?_; intro B3 W3 hN3 hB3 hk)
    | ((with_reducible refine qcz rfl 25 rfl zW qNz ?_); intro R W6 hN6 hR hk6; have hRw : Hid (w.heap.size ≤ R) := (by have := hN6.out; have := hk.size; refine (?_ : w.heap.size ≤ R); omega); replace hB3 := hB3.next hk6; replace hk := btz hk hk6; clear hN3 hN6)
    | (with_reducible refine qez (by kernel_rfl) 25 _ rfl B3 rfl G hB3 _ underlying25 (by kernel_rfl) hzw ?_)
    | ((with_reducible refine qpz (by kernel_rfl) _ [(0, .tmp 9)] rfl G ?hf ?_); (case hf => exact hbt))
    | ((with_reducible refine qcz rfl 74 rfl #[.int .i64 0, .int .u64 0, .int .u64 0, .slice none 0 0] Tryz.zeroValue74 ?_); intro B8 W8 hN8 hR8 hk8)
    | ((with_reducible refine qaz rfl _ _ _ rfl B8 rfl G rfl _ hR8 hzv hz4 h14 ?_); intro V8 hB8 o8; have hb8 : Below W6.heap.size W6 V8 := o8.below W6.heap.size W6 (by have := hN8.out; omega) hk8; replace hB3 := hB3.next hb8; replace hR := hR.next hb8; replace hk := btz hk hb8; clear hN8 hR8 hk8 o8 hb8)
    | (with_reducible refine qez (by kernel_rfl) 74 _ rfl B8 rfl G hB8 _ underlying74 (by kernel_rfl) hzv ?_)
    | (go_at_call 37; (with_reducible refine (hf1 _ hk).mono ?_); rintro e w9 ⟨rfl, hb8⟩; replace hB3 := hB3.next hb8; replace hR := hR.next hb8; replace hB8 := hB8.next hb8; replace hk := btz hk hb8; clear hb8)
    | ((with_reducible refine qcz rfl 43 rfl zC qqz ?_); intro P9 W9 hN9 hP9a hk9; have hPw : Hid (w.heap.size ≤ P9 ∧ B3 ≠ P9 ∧ R ≠ P9) := (by have := hN9.out; have := hk.size; have := hB3.lt; have := hR.lt; refine (⟨?_, ?_, ?_⟩ : _ ∧ _ ∧ _) <;> omega))
    | ((with_reducible refine qaz rfl _ _ _ rfl P9 rfl C1 rfl zC hP9a (qfz hz1) (qmz.trans hz1.symm) h1c ?_); intro V9 hP9 q9; have hb8 : Below w9.heap.size w9 V9 := q9.below w9.heap.size w9 (by have := hN9.out; omega) hk9; replace hB3 := hB3.next hb8; replace hR := hR.next hb8; replace hB8 := hB8.next hb8; replace hk := btz hk hb8; clear hN9 hP9a hk9 q9 hb8)
    | (with_reducible refine qez (by kernel_rfl) 43 _ rfl P9 rfl C1 hP9 _ underlying43 (by kernel_rfl) (qfz hz1) ?_)
    | (go_at_call 42; (with_reducible refine (hsn _ hk).mono ?_); rintro e w10 ⟨rfl, hb8⟩; replace hB3 := hB3.next hb8; replace hR := hR.next hb8; replace hB8 := hB8.next hb8; replace hP9 := hP9.next hb8; replace hk := btz hk hb8; clear hb8)
    | ((with_reducible refine qjz rfl _ _ _ rfl P9 4 rfl (.bool true) rfl rfl C1 _ hP9 sizeB (by rw [hz1]; omega) rfl ?_); intro V10 hP9n q10; rw [hCn.out] at hP9n; replace hB3 := hB3.other q10 hPw.out.2.1; replace hR := hR.other q10 hPw.out.2.2; replace hk := q10.below _ _ hPw.out.1 hk; clear hP9; have hQ9 := hP9n)
    | (with_reducible refine qez (by kernel_rfl) 43 _ rfl P9 rfl Cn hQ9 _ underlying43 (by kernel_rfl) (qfz hzn) ?_)
    | (go_at_call 46; (with_reducible refine (hpu _ hk).mono ?_); rintro e w12 ⟨aX, nX, cX, rfl, oX, hb9⟩; have hR9 := hR.next hb9)
    | ((with_reducible refine qaz rfl _ _ _ rfl R rfl _ rfl zW hR9 (hz2 _) (hs2 _) (h12 aX nX cX) ?_); intro W13 hR13 q13))
   refine bodyPost_ret (qPz results14 rfl rfl hR13 rfl) rfl ?_
   have hE : ER = 0 := by rw [← hER.out]; unfold fixE; rw [if_neg (by rw [hb1]; decide), if_neg (by rw [hb2]; decide)]
   have hY : YR = puR X { fO X i with fixed := true } := by rw [← hYR.out]; unfold fixX; rw [if_neg (by rw [hb1]; decide), if_neg (by rw [hb2]; decide)]
   rw [hE, hY]
   exact ⟨aX, nX, cX, rfl, (ObsN.store oX q13 hR.lt (fun b hb => by have := hD b hb; have := hRw.out; omega)).low hk.size, q13.below _ _ hRw.out (btz hk hb9)⟩
def linE (X : List Ob) (i j : Int) : Int := if ((fnd X i).isSome && (fnd X j).isSome) = false then 1 else if (decide ((fO X i).kind = 2) && !sngO (fO X j)) = false then 3 else if (fO X j).fixed = false then 8 else if j ∈ (fO X i).links then 12 else layE X (fO X i) (fO X j)
def linX (X : List Ob) (i j : Int) : List Ob := if ((fnd X i).isSome && (fnd X j).isSome) = false then X else if (decide ((fO X i).kind = 2) && !sngO (fO X j)) = false then X else if (fO X j).fixed = false then X else if j ∈ (fO X i).links then X else layX X (fO X i) (fO X j)
theorem link_v {w : World} {t ke ro i j : Int} {ao : Option Addr} {n cap : Nat} {X : List Ob} {Cf : Nat → Array Value} {D0 : Nat → Prop} (hD : ∀ b, D0 b → b < w.heap.size) (h : ObsF (LtN w) D0 w ao n cap X Cf) (hL : Lays X) (hn16 : n < 1022) :
  Calls prog 12 #[.agg #[.int .i64 t, .int .u64 ke, .int .u64 ro, .slice ao n cap], .int .u64 i, .int .u64 j] w fun e w' => ∃ ao2 n2 cap2, e = .returned (.tuple #[.agg #[.int .i64 t, .int .u64 ke, .int .u64 ro, .slice ao2 n2 cap2], .int .i64 (linE X i j)]) ∧ ObsN w D0 w' ao2 n2 cap2 (linX X i j) ∧ Below w.heap.size w w' := by
 have hO : ObsD (LtN w) D0 w ao n cap X := h.obs
 have hF : ObsF (LtN w) (LtN w) w ao n cap X Cf := h.wide hD (fun _ hb => hb)
 have hzw : (prog.info? 25).map (·.size) = some (#[.int .i64 t, .int .u64 ke, .int .u64 ro, .slice ao n cap] : Array Value).size := by kernel_rfl
 have hzv : (prog.info? 74).map (·.size) = some (#[.int .i64 t, .int .u64 ke, .int .u64 ro, .slice ao n cap] : Array Value).size := by kernel_rfl
 have hbt : prog.built 74 [(0, .agg #[.int .i64 t, .int .u64 ke, .int .u64 ro, .slice ao n cap])] = some #[.int .i64 t, .int .u64 ke, .int .u64 ro, .slice ao n cap] := by kernel_rfl
 have hz4 : (#[.int .i64 0, .int .u64 0, .int .u64 0, .slice none 0 0] : Array Value).size = (#[.int .i64 t, .int .u64 ke, .int .u64 ro, .slice ao n cap] : Array Value).size := rfl
 have h14 : (#[.int .i64 t, .int .u64 ke, .int .u64 ro, .slice ao n cap] : Array Value).all (·.oneCell') = true := by simp [Value.oneCell']
 have hz2 : ∀ v, (prog.info? 25).map (·.size) = some (#[.int .i64 t, .int .u64 ke, .int .u64 ro, v] : Array Value).size := fun _ => wfz
 have hs2 : ∀ v, zW.size = (#[.int .i64 t, .int .u64 ke, .int .u64 ro, v] : Array Value).size := fun _ => rfl
 have h12 : ∀ ao n cap, (#[.int .i64 t, .int .u64 ke, .int .u64 ro, .slice ao n cap] : Array Value).all (·.oneCell') = true := fun _ _ _ => by kernel_rfl
 have hrf := fun {er : Int} (W : World) (hk : Below w.heap.size w W) => wXz (t := t) (ke := ke) (ro := ro) (er := er) (D0 := D0) (fun b hb => Nat.lt_of_lt_of_le (hD b hb) hk.size) (qUz hO hD hk) hL.srt (by omega) hL.sms hL.nul
 have hf1 := fun (W : World) (hk : Below w.heap.size w W) => xtz (t := t) (ke := ke) (ro := ro) (i := i) (hF.next hk) hL.srt (by omega)
 have hdo := j7z h hL.srt i
 have hz1 := hdo.size
 have h1c := hdo.one
 have hf2 := fun (W : World) (hk : Below w.heap.size w W) => xtz (t := t) (ke := ke) (ro := ro) (i := j) (hF.next hk) hL.srt (by omega)
 have hdo2 := j7z h hL.srt j
 have hsn := fun (W : World) (hk : Below w.heap.size w W) => xyz (hdo2.laterK fun b hb => hk.block b (hD b hb))
 have hla := fun (W : World) (hk : Below w.heap.size w W) => laid_v (t := t) (ke := ke) (ro := ro) (D0 := D0) (fun b hb => Nat.lt_of_lt_of_le (hD b hb) hk.size) (jVz h hD hk) hL.srt hn16 hL.sms hL.nul hL.quo (hdo.laterK fun b hb => hk.block b (hD b hb)) (hL.at i).1 (hL.at i).2.1 (hL.at i).2.2.1 (hL.at i).2.2.2.1 (hL.at i).2.2.2.2 (hdo2.laterK fun b hb => hk.block b (hD b hb)) (hL.at j).1 (hL.at j).2.2.1
 obtain ⟨al, nl, cl, d5, hLk⟩ := hdo.links
 have hct := fun (W : World) (hk : Below w.heap.size w W) => ktz (i := j) ((hLk.laterK fun b hb => hk.block b (hD b hb)).wide fun b hb => Nat.lt_of_lt_of_le (hD b hb) hk.size)
 have d1 := hdo.kind
 have z4 := hdo2.fixed
 have hz3 := hdo2.size
 have h3c := hdo2.one
 obtain ⟨ER, hER⟩ : ∃ ER, Hid (linE X i j = ER) := ⟨_, rfl⟩
 obtain ⟨YR, hYR⟩ : ∃ YR, Hid (linX X i j = YR) := ⟨_, rfl⟩
 rw [hER.out, hYR.out]
 generalize fC X Cf i = C1 at hf1 hz1 h1c d1 hla d5
 generalize fC X Cf j = C2 at hf2 hz3 h3c hla hsn z4
 clear hdo hdo2 hLk
 obtain ⟨LE, hLE⟩ : ∃ LE, Hid (layE X (fO X i) (fO X j) = LE) := ⟨_, rfl⟩
 obtain ⟨LX, hLX⟩ : ∃ LX, Hid (layX X (fO X i) (fO X j) = LX) := ⟨_, rfl⟩
 simp only [hLE.out, hLX.out] at hla
 obtain ⟨kd, hkd⟩ : ∃ kd, Hid ((fO X i).kind = kd) := ⟨_, rfl⟩
 rw [hkd.out] at d1
 obtain ⟨G, hG⟩ : ∃ G : Array Value, G = #[.int .i64 t, .int .u64 ke, .int .u64 ro, .slice ao n cap] := ⟨_, rfl⟩
 simp only [← hG] at hrf hf1 hf2 hla
 rw [← hG] at hzw hzv hbt hz4 h14
 rw [← hG]
 clear hG
 cases hb1 : (fnd X i).isSome with
 | false =>
  rw [hb1] at hf1
  generalize (fnd X j).isSome = b2 at hf2
  go_enter func12, ntmps12
  go_wp2_with (first
   | go_skip
   | (with_reducible refine qdz rfl 25 _ rfl G rfl ?_; intro B3 W3 hN3 hB3 hk)
   | ((with_reducible refine qcz rfl 25 rfl zW qNz ?_); intro R W6 hN6 hR hk6; have hRw : Hid (w.heap.size ≤ R) := (by have := hN6.out; have := hk.size; refine (?_ : w.heap.size ≤ R); omega); replace hB3 := hB3.next hk6; replace hk := btz hk hk6; clear hN3 hN6)
   | (with_reducible refine qez (by kernel_rfl) 25 _ rfl B3 rfl G hB3 _ underlying25 (by kernel_rfl) hzw ?_)
   | ((with_reducible refine qpz (by kernel_rfl) _ [(0, .tmp 13)] rfl G ?hf ?_); (case hf => exact hbt))
   | ((with_reducible refine qcz rfl 74 rfl #[.int .i64 0, .int .u64 0, .int .u64 0, .slice none 0 0] Tryz.zeroValue74 ?_); intro B8 W8 hN8 hR8 hk8)
   | ((with_reducible refine qaz rfl _ _ _ rfl B8 rfl G rfl _ hR8 hzv hz4 h14 ?_); intro V8 hB8 o8; have hb8 : Below W6.heap.size W6 V8 := o8.below W6.heap.size W6 (by have := hN8.out; omega) hk8; replace hB3 := hB3.next hb8; replace hR := hR.next hb8; replace hk := btz hk hb8; clear hN8 hR8 hk8 o8 hb8)
   | (with_reducible refine qez (by kernel_rfl) 74 _ rfl B8 rfl G hB8 _ underlying74 (by kernel_rfl) hzv ?_)
   | (go_at_call 37; have hx := hP9; (with_reducible refine (hf2 _ hk).mono ?_); rintro e w11 ⟨rfl, hb8⟩; replace hB3 := hB3.next hb8; replace hR := hR.next hb8; replace hB8 := hB8.next hb8; replace hP9 := hP9.next hb8; replace hk := btz hk hb8; clear hb8 hx)
   | (go_at_call 37; (with_reducible refine (hf1 _ hk).mono ?_); rintro e w9 ⟨rfl, hb8⟩; replace hB3 := hB3.next hb8; replace hR := hR.next hb8; replace hB8 := hB8.next hb8; replace hk := btz hk hb8; clear hb8)
   | ((with_reducible refine qcz rfl 43 rfl zC qqz ?_); have hx := hP9; intro P11 W11 hN11 hP11a hk11; clear hx)
   | ((with_reducible refine qcz rfl 43 rfl zC qqz ?_); intro P9 W9 hN9 hP9a hk9; have hPw : Hid (w.heap.size ≤ P9 ∧ B3 ≠ P9 ∧ R ≠ P9) := (by have := hN9.out; have := hk.size; have := hB3.lt; have := hR.lt; refine (⟨?_, ?_, ?_⟩ : _ ∧ _ ∧ _) <;> omega))
   | ((with_reducible refine qaz rfl _ _ _ rfl P9 rfl C1 rfl zC hP9a (qfz hz1) (qmz.trans hz1.symm) h1c ?_); intro V9 hP9 q9; have hb8 : Below w9.heap.size w9 V9 := q9.below w9.heap.size w9 (by have := hN9.out; omega) hk9; replace hB3 := hB3.next hb8; replace hR := hR.next hb8; replace hB8 := hB8.next hb8; replace hk := btz hk hb8; clear hN9 hP9a hk9 q9 hb8)
   | ((with_reducible refine qaz rfl _ _ _ rfl P11 rfl C2 rfl zC hP11a (qfz hz3) (qmz.trans hz3.symm) h3c ?_); intro V11 hP11 q11; have hb8 : Below w11.heap.size w11 V11 := q11.below w11.heap.size w11 (by have := hN11.out; omega) hk11; replace hB3 := hB3.next hb8; replace hR := hR.next hb8; replace hB8 := hB8.next hb8; replace hP9 := hP9.next hb8; replace hk := btz hk hb8; clear hN11 hP11a hk11 q11 hb8)
   | (go_at_call 38; (with_reducible refine (hrf _ hk).mono ?_); rintro e w12 ⟨aX, nX, cX, rfl, oX, hb9⟩; have hR9 := hR.next hb9)
   | ((with_reducible refine qaz rfl _ _ _ rfl R rfl _ rfl zW hR9 (hz2 _) (hs2 _) (h12 aX nX cX) ?_); intro W13 hR13 q13))
  refine bodyPost_ret (qPz results12 rfl rfl hR13 rfl) rfl ?_
  have hE : ER = 1 := by rw [← hER.out]; unfold linE; rw [if_pos (by rw [hb1]; rfl)]
  have hY : YR = X := by rw [← hYR.out]; unfold linX; rw [if_pos (by rw [hb1]; rfl)]
  rw [hE, hY]
  exact ⟨aX, nX, cX, rfl, (ObsN.store oX q13 hR.lt (fun b hb => by have := hD b hb; have := hRw.out; omega)).low hk.size, q13.below _ _ hRw.out (btz hk hb9)⟩
 | true =>
  rw [hb1] at hf1
  cases hb2 : (fnd X j).isSome with
  | false =>
   rw [hb2] at hf2
   go_enter func12, ntmps12
   go_wp2_with (first
    | go_skip
    | (with_reducible refine qdz rfl 25 _ rfl G rfl ?_; intro B3 W3 hN3 hB3 hk)
    | ((with_reducible refine qcz rfl 25 rfl zW qNz ?_); intro R W6 hN6 hR hk6; have hRw : Hid (w.heap.size ≤ R) := (by have := hN6.out; have := hk.size; refine (?_ : w.heap.size ≤ R); omega); replace hB3 := hB3.next hk6; replace hk := btz hk hk6; clear hN3 hN6)
    | (with_reducible refine qez (by kernel_rfl) 25 _ rfl B3 rfl G hB3 _ underlying25 (by kernel_rfl) hzw ?_)
    | ((with_reducible refine qpz (by kernel_rfl) _ [(0, .tmp 13)] rfl G ?hf ?_); (case hf => exact hbt))
    | ((with_reducible refine qcz rfl 74 rfl #[.int .i64 0, .int .u64 0, .int .u64 0, .slice none 0 0] Tryz.zeroValue74 ?_); intro B8 W8 hN8 hR8 hk8)
    | ((with_reducible refine qaz rfl _ _ _ rfl B8 rfl G rfl _ hR8 hzv hz4 h14 ?_); intro V8 hB8 o8; have hb8 : Below W6.heap.size W6 V8 := o8.below W6.heap.size W6 (by have := hN8.out; omega) hk8; replace hB3 := hB3.next hb8; replace hR := hR.next hb8; replace hk := btz hk hb8; clear hN8 hR8 hk8 o8 hb8)
    | (with_reducible refine qez (by kernel_rfl) 74 _ rfl B8 rfl G hB8 _ underlying74 (by kernel_rfl) hzv ?_)
    | (go_at_call 37; have hx := hP9; (with_reducible refine (hf2 _ hk).mono ?_); rintro e w11 ⟨rfl, hb8⟩; replace hB3 := hB3.next hb8; replace hR := hR.next hb8; replace hB8 := hB8.next hb8; replace hP9 := hP9.next hb8; replace hk := btz hk hb8; clear hb8 hx)
    | (go_at_call 37; (with_reducible refine (hf1 _ hk).mono ?_); rintro e w9 ⟨rfl, hb8⟩; replace hB3 := hB3.next hb8; replace hR := hR.next hb8; replace hB8 := hB8.next hb8; replace hk := btz hk hb8; clear hb8)
    | ((with_reducible refine qcz rfl 43 rfl zC qqz ?_); have hx := hP9; intro P11 W11 hN11 hP11a hk11; clear hx)
    | ((with_reducible refine qcz rfl 43 rfl zC qqz ?_); intro P9 W9 hN9 hP9a hk9; have hPw : Hid (w.heap.size ≤ P9 ∧ B3 ≠ P9 ∧ R ≠ P9) := (by have := hN9.out; have := hk.size; have := hB3.lt; have := hR.lt; refine (⟨?_, ?_, ?_⟩ : _ ∧ _ ∧ _) <;> omega))
    | ((with_reducible refine qaz rfl _ _ _ rfl P9 rfl C1 rfl zC hP9a (qfz hz1) (qmz.trans hz1.symm) h1c ?_); intro V9 hP9 q9; have hb8 : Below w9.heap.size w9 V9 := q9.below w9.heap.size w9 (by have := hN9.out; omega) hk9; replace hB3 := hB3.next hb8; replace hR := hR.next hb8; replace hB8 := hB8.next hb8; replace hk := btz hk hb8; clear hN9 hP9a hk9 q9 hb8)
    | ((with_reducible refine qaz rfl _ _ _ rfl P11 rfl C2 rfl zC hP11a (qfz hz3) (qmz.trans hz3.symm) h3c ?_); intro V11 hP11 q11; have hb8 : Below w11.heap.size w11 V11 := q11.below w11.heap.size w11 (by have := hN11.out; omega) hk11; replace hB3 := hB3.next hb8; replace hR := hR.next hb8; replace hB8 := hB8.next hb8; replace hP9 := hP9.next hb8; replace hk := btz hk hb8; clear hN11 hP11a hk11 q11 hb8)
    | (go_at_call 38; (with_reducible refine (hrf _ hk).mono ?_); rintro e w12 ⟨aX, nX, cX, rfl, oX, hb9⟩; have hR9 := hR.next hb9)
    | ((with_reducible refine qaz rfl _ _ _ rfl R rfl _ rfl zW hR9 (hz2 _) (hs2 _) (h12 aX nX cX) ?_); intro W13 hR13 q13))
   refine bodyPost_ret (qPz results12 rfl rfl hR13 rfl) rfl ?_
   have hE : ER = 1 := by rw [← hER.out]; unfold linE; rw [if_pos (by rw [hb1, hb2]; rfl)]
   have hY : YR = X := by rw [← hYR.out]; unfold linX; rw [if_pos (by rw [hb1, hb2]; rfl)]
   rw [hE, hY]
   exact ⟨aX, nX, cX, rfl, (ObsN.store oX q13 hR.lt (fun b hb => by have := hD b hb; have := hRw.out; omega)).low hk.size, q13.below _ _ hRw.out (btz hk hb9)⟩
  | true =>
   rw [hb2] at hf2
   by_cases k2 : kd = 2
   ·subst k2
    cases hb3 : sngO (fO X j) with
    | true =>
     rw [hb3] at hsn
     go_enter func12, ntmps12
     go_wp2_with (first
      | go_skip
      | (with_reducible refine qdz rfl 25 _ rfl G rfl ?_; intro B3 W3 hN3 hB3 hk)
      | ((with_reducible refine qcz rfl 25 rfl zW qNz ?_); intro R W6 hN6 hR hk6; have hRw : Hid (w.heap.size ≤ R) := (by have := hN6.out; have := hk.size; refine (?_ : w.heap.size ≤ R); omega); replace hB3 := hB3.next hk6; replace hk := btz hk hk6; clear hN3 hN6)
      | (with_reducible refine qez (by kernel_rfl) 25 _ rfl B3 rfl G hB3 _ underlying25 (by kernel_rfl) hzw ?_)
      | ((with_reducible refine qpz (by kernel_rfl) _ [(0, .tmp 13)] rfl G ?hf ?_); (case hf => exact hbt))
      | ((with_reducible refine qcz rfl 74 rfl #[.int .i64 0, .int .u64 0, .int .u64 0, .slice none 0 0] Tryz.zeroValue74 ?_); intro B8 W8 hN8 hR8 hk8)
      | ((with_reducible refine qaz rfl _ _ _ rfl B8 rfl G rfl _ hR8 hzv hz4 h14 ?_); intro V8 hB8 o8; have hb8 : Below W6.heap.size W6 V8 := o8.below W6.heap.size W6 (by have := hN8.out; omega) hk8; replace hB3 := hB3.next hb8; replace hR := hR.next hb8; replace hk := btz hk hb8; clear hN8 hR8 hk8 o8 hb8)
      | (with_reducible refine qez (by kernel_rfl) 74 _ rfl B8 rfl G hB8 _ underlying74 (by kernel_rfl) hzv ?_)
      | (go_at_call 37; have hx := hP9; (with_reducible refine (hf2 _ hk).mono ?_); rintro e w11 ⟨rfl, hb8⟩; replace hB3 := hB3.next hb8; replace hR := hR.next hb8; replace hB8 := hB8.next hb8; replace hP9 := hP9.next hb8; replace hk := btz hk hb8; clear hb8 hx)
      | (go_at_call 37; (with_reducible refine (hf1 _ hk).mono ?_); rintro e w9 ⟨rfl, hb8⟩; replace hB3 := hB3.next hb8; replace hR := hR.next hb8; replace hB8 := hB8.next hb8; replace hk := btz hk hb8; clear hb8)
      | ((with_reducible refine qcz rfl 43 rfl zC qqz ?_); have hx := hP9; intro P11 W11 hN11 hP11a hk11; clear hx)
      | ((with_reducible refine qcz rfl 43 rfl zC qqz ?_); intro P9 W9 hN9 hP9a hk9; have hPw : Hid (w.heap.size ≤ P9 ∧ B3 ≠ P9 ∧ R ≠ P9) := (by have := hN9.out; have := hk.size; have := hB3.lt; have := hR.lt; refine (⟨?_, ?_, ?_⟩ : _ ∧ _ ∧ _) <;> omega))
      | ((with_reducible refine qaz rfl _ _ _ rfl P9 rfl C1 rfl zC hP9a (qfz hz1) (qmz.trans hz1.symm) h1c ?_); intro V9 hP9 q9; have hb8 : Below w9.heap.size w9 V9 := q9.below w9.heap.size w9 (by have := hN9.out; omega) hk9; replace hB3 := hB3.next hb8; replace hR := hR.next hb8; replace hB8 := hB8.next hb8; replace hk := btz hk hb8; clear hN9 hP9a hk9 q9 hb8)
      | ((with_reducible refine qaz rfl _ _ _ rfl P11 rfl C2 rfl zC hP11a (qfz hz3) (qmz.trans hz3.symm) h3c ?_); intro V11 hP11 q11; have hb8 : Below w11.heap.size w11 V11 := q11.below w11.heap.size w11 (by have := hN11.out; omega) hk11; replace hB3 := hB3.next hb8; replace hR := hR.next hb8; replace hB8 := hB8.next hb8; replace hP9 := hP9.next hb8; replace hk := btz hk hb8; clear hN11 hP11a hk11 q11 hb8)
      | (with_reducible refine qbz (by kernel_rfl) _ _ rfl P9 _ rfl _ _ hP9 _ d1 isAgg3 ?_)
      | (with_reducible refine qez (by kernel_rfl) 43 _ rfl P11 rfl C2 hP11 _ underlying43 (by kernel_rfl) (qfz hz3) ?_)
      | (go_at_call 42; (with_reducible refine (hsn _ hk).mono ?_); rintro e w10 ⟨rfl, hb8⟩; replace hB3 := hB3.next hb8; replace hR := hR.next hb8; replace hB8 := hB8.next hb8; replace hP9 := hP9.next hb8; replace hP11 := hP11.next hb8; replace hk := btz hk hb8; clear hb8)
      | (go_at_call 38; (with_reducible refine (hrf _ hk).mono ?_); rintro e w12 ⟨aX, nX, cX, rfl, oX, hb9⟩; have hR9 := hR.next hb9)
      | ((with_reducible refine qaz rfl _ _ _ rfl R rfl _ rfl zW hR9 (hz2 _) (hs2 _) (h12 aX nX cX) ?_); intro W13 hR13 q13))
     refine bodyPost_ret (qPz results12 rfl rfl hR13 rfl) rfl ?_
     have hE : ER = 3 := by rw [← hER.out]; unfold linE; rw [if_neg (by rw [hb1, hb2]; decide), if_pos (by rw [hkd.out, hb3]; rfl)]
     have hY : YR = X := by rw [← hYR.out]; unfold linX; rw [if_neg (by rw [hb1, hb2]; decide), if_pos (by rw [hkd.out, hb3]; rfl)]
     rw [hE, hY]
     exact ⟨aX, nX, cX, rfl, (ObsN.store oX q13 hR.lt (fun b hb => by have := hD b hb; have := hRw.out; omega)).low hk.size, q13.below _ _ hRw.out (btz hk hb9)⟩
    | false =>
     rw [hb3] at hsn
     cases hb4 : (fO X j).fixed with
     | false =>
      rw [hb4] at z4
      go_enter func12, ntmps12
      go_wp2_with (first
       | go_skip
       | (with_reducible refine qdz rfl 25 _ rfl G rfl ?_; intro B3 W3 hN3 hB3 hk)
       | ((with_reducible refine qcz rfl 25 rfl zW qNz ?_); intro R W6 hN6 hR hk6; have hRw : Hid (w.heap.size ≤ R) := (by have := hN6.out; have := hk.size; refine (?_ : w.heap.size ≤ R); omega); replace hB3 := hB3.next hk6; replace hk := btz hk hk6; clear hN3 hN6)
       | (with_reducible refine qez (by kernel_rfl) 25 _ rfl B3 rfl G hB3 _ underlying25 (by kernel_rfl) hzw ?_)
       | ((with_reducible refine qpz (by kernel_rfl) _ [(0, .tmp 13)] rfl G ?hf ?_); (case hf => exact hbt))
       | ((with_reducible refine qcz rfl 74 rfl #[.int .i64 0, .int .u64 0, .int .u64 0, .slice none 0 0] Tryz.zeroValue74 ?_); intro B8 W8 hN8 hR8 hk8)
       | ((with_reducible refine qaz rfl _ _ _ rfl B8 rfl G rfl _ hR8 hzv hz4 h14 ?_); intro V8 hB8 o8; have hb8 : Below W6.heap.size W6 V8 := o8.below W6.heap.size W6 (by have := hN8.out; omega) hk8; replace hB3 := hB3.next hb8; replace hR := hR.next hb8; replace hk := btz hk hb8; clear hN8 hR8 hk8 o8 hb8)
       | (with_reducible refine qez (by kernel_rfl) 74 _ rfl B8 rfl G hB8 _ underlying74 (by kernel_rfl) hzv ?_)
       | (go_at_call 37; have hx := hP9; (with_reducible refine (hf2 _ hk).mono ?_); rintro e w11 ⟨rfl, hb8⟩; replace hB3 := hB3.next hb8; replace hR := hR.next hb8; replace hB8 := hB8.next hb8; replace hP9 := hP9.next hb8; replace hk := btz hk hb8; clear hb8 hx)
       | (go_at_call 37; (with_reducible refine (hf1 _ hk).mono ?_); rintro e w9 ⟨rfl, hb8⟩; replace hB3 := hB3.next hb8; replace hR := hR.next hb8; replace hB8 := hB8.next hb8; replace hk := btz hk hb8; clear hb8)
       | ((with_reducible refine qcz rfl 43 rfl zC qqz ?_); have hx := hP9; intro P11 W11 hN11 hP11a hk11; clear hx)
       | ((with_reducible refine qcz rfl 43 rfl zC qqz ?_); intro P9 W9 hN9 hP9a hk9; have hPw : Hid (w.heap.size ≤ P9 ∧ B3 ≠ P9 ∧ R ≠ P9) := (by have := hN9.out; have := hk.size; have := hB3.lt; have := hR.lt; refine (⟨?_, ?_, ?_⟩ : _ ∧ _ ∧ _) <;> omega))
       | ((with_reducible refine qaz rfl _ _ _ rfl P9 rfl C1 rfl zC hP9a (qfz hz1) (qmz.trans hz1.symm) h1c ?_); intro V9 hP9 q9; have hb8 : Below w9.heap.size w9 V9 := q9.below w9.heap.size w9 (by have := hN9.out; omega) hk9; replace hB3 := hB3.next hb8; replace hR := hR.next hb8; replace hB8 := hB8.next hb8; replace hk := btz hk hb8; clear hN9 hP9a hk9 q9 hb8)
       | ((with_reducible refine qaz rfl _ _ _ rfl P11 rfl C2 rfl zC hP11a (qfz hz3) (qmz.trans hz3.symm) h3c ?_); intro V11 hP11 q11; have hb8 : Below w11.heap.size w11 V11 := q11.below w11.heap.size w11 (by have := hN11.out; omega) hk11; replace hB3 := hB3.next hb8; replace hR := hR.next hb8; replace hB8 := hB8.next hb8; replace hP9 := hP9.next hb8; replace hk := btz hk hb8; clear hN11 hP11a hk11 q11 hb8)
       | (with_reducible refine qbz (by kernel_rfl) _ _ rfl P9 _ rfl _ _ hP9 _ d1 isAgg3 ?_)
       | (with_reducible refine qez (by kernel_rfl) 43 _ rfl P11 rfl C2 hP11 _ underlying43 (by kernel_rfl) (qfz hz3) ?_)
       | (go_at_call 42; (with_reducible refine (hsn _ hk).mono ?_); rintro e w10 ⟨rfl, hb8⟩; replace hB3 := hB3.next hb8; replace hR := hR.next hb8; replace hB8 := hB8.next hb8; replace hP9 := hP9.next hb8; replace hP11 := hP11.next hb8; replace hk := btz hk hb8; clear hb8)
       | (with_reducible refine qbz (by kernel_rfl) _ _ rfl P11 _ rfl _ _ hP11 _ z4 isAgg4 ?_)
       | (go_at_call 38; (with_reducible refine (hrf _ hk).mono ?_); rintro e w12 ⟨aX, nX, cX, rfl, oX, hb9⟩; have hR9 := hR.next hb9)
       | ((with_reducible refine qaz rfl _ _ _ rfl R rfl _ rfl zW hR9 (hz2 _) (hs2 _) (h12 aX nX cX) ?_); intro W13 hR13 q13))
      refine bodyPost_ret (qPz results12 rfl rfl hR13 rfl) rfl ?_
      have hE : ER = 8 := by rw [← hER.out]; unfold linE; rw [if_neg (by rw [hb1, hb2]; decide), if_neg (by rw [hkd.out, hb3]; decide), if_pos hb4]
      have hY : YR = X := by rw [← hYR.out]; unfold linX; rw [if_neg (by rw [hb1, hb2]; decide), if_neg (by rw [hkd.out, hb3]; decide), if_pos hb4]
      rw [hE, hY]
      exact ⟨aX, nX, cX, rfl, (ObsN.store oX q13 hR.lt (fun b hb => by have := hD b hb; have := hRw.out; omega)).low hk.size, q13.below _ _ hRw.out (btz hk hb9)⟩
     | true =>
      rw [hb4] at z4
      by_cases hj : j ∈ (fO X i).links
      ·replace hct := fun W hk => (hct W hk).yes hj
       go_enter func12, ntmps12
       go_wp2_with (first
        | go_skip
        | (with_reducible refine qdz rfl 25 _ rfl G rfl ?_; intro B3 W3 hN3 hB3 hk)
        | ((with_reducible refine qcz rfl 25 rfl zW qNz ?_); intro R W6 hN6 hR hk6; have hRw : Hid (w.heap.size ≤ R) := (by have := hN6.out; have := hk.size; refine (?_ : w.heap.size ≤ R); omega); replace hB3 := hB3.next hk6; replace hk := btz hk hk6; clear hN3 hN6)
        | (with_reducible refine qez (by kernel_rfl) 25 _ rfl B3 rfl G hB3 _ underlying25 (by kernel_rfl) hzw ?_)
        | ((with_reducible refine qpz (by kernel_rfl) _ [(0, .tmp 13)] rfl G ?hf ?_); (case hf => exact hbt))
        | ((with_reducible refine qcz rfl 74 rfl #[.int .i64 0, .int .u64 0, .int .u64 0, .slice none 0 0] Tryz.zeroValue74 ?_); intro B8 W8 hN8 hR8 hk8)
        | ((with_reducible refine qaz rfl _ _ _ rfl B8 rfl G rfl _ hR8 hzv hz4 h14 ?_); intro V8 hB8 o8; have hb8 : Below W6.heap.size W6 V8 := o8.below W6.heap.size W6 (by have := hN8.out; omega) hk8; replace hB3 := hB3.next hb8; replace hR := hR.next hb8; replace hk := btz hk hb8; clear hN8 hR8 hk8 o8 hb8)
        | (with_reducible refine qez (by kernel_rfl) 74 _ rfl B8 rfl G hB8 _ underlying74 (by kernel_rfl) hzv ?_)
        | (go_at_call 37; have hx := hP9; (with_reducible refine (hf2 _ hk).mono ?_); rintro e w11 ⟨rfl, hb8⟩; replace hB3 := hB3.next hb8; replace hR := hR.next hb8; replace hB8 := hB8.next hb8; replace hP9 := hP9.next hb8; replace hk := btz hk hb8; clear hb8 hx)
        | (go_at_call 37; (with_reducible refine (hf1 _ hk).mono ?_); rintro e w9 ⟨rfl, hb8⟩; replace hB3 := hB3.next hb8; replace hR := hR.next hb8; replace hB8 := hB8.next hb8; replace hk := btz hk hb8; clear hb8)
        | ((with_reducible refine qcz rfl 43 rfl zC qqz ?_); have hx := hP9; intro P11 W11 hN11 hP11a hk11; clear hx)
        | ((with_reducible refine qcz rfl 43 rfl zC qqz ?_); intro P9 W9 hN9 hP9a hk9; have hPw : Hid (w.heap.size ≤ P9 ∧ B3 ≠ P9 ∧ R ≠ P9) := (by have := hN9.out; have := hk.size; have := hB3.lt; have := hR.lt; refine (⟨?_, ?_, ?_⟩ : _ ∧ _ ∧ _) <;> omega))
        | ((with_reducible refine qaz rfl _ _ _ rfl P9 rfl C1 rfl zC hP9a (qfz hz1) (qmz.trans hz1.symm) h1c ?_); intro V9 hP9 q9; have hb8 : Below w9.heap.size w9 V9 := q9.below w9.heap.size w9 (by have := hN9.out; omega) hk9; replace hB3 := hB3.next hb8; replace hR := hR.next hb8; replace hB8 := hB8.next hb8; replace hk := btz hk hb8; clear hN9 hP9a hk9 q9 hb8)
        | ((with_reducible refine qaz rfl _ _ _ rfl P11 rfl C2 rfl zC hP11a (qfz hz3) (qmz.trans hz3.symm) h3c ?_); intro V11 hP11 q11; have hb8 : Below w11.heap.size w11 V11 := q11.below w11.heap.size w11 (by have := hN11.out; omega) hk11; replace hB3 := hB3.next hb8; replace hR := hR.next hb8; replace hB8 := hB8.next hb8; replace hP9 := hP9.next hb8; replace hk := btz hk hb8; clear hN11 hP11a hk11 q11 hb8)
        | (with_reducible refine qbz (by kernel_rfl) _ _ rfl P9 _ rfl _ _ hP9 _ d1 isAgg3 ?_)
        | (with_reducible refine qez (by kernel_rfl) 43 _ rfl P11 rfl C2 hP11 _ underlying43 (by kernel_rfl) (qfz hz3) ?_)
        | (go_at_call 42; (with_reducible refine (hsn _ hk).mono ?_); rintro e w10 ⟨rfl, hb8⟩; replace hB3 := hB3.next hb8; replace hR := hR.next hb8; replace hB8 := hB8.next hb8; replace hP9 := hP9.next hb8; replace hP11 := hP11.next hb8; replace hk := btz hk hb8; clear hb8)
        | (with_reducible refine qbz (by kernel_rfl) _ _ rfl P11 _ rfl _ _ hP11 _ z4 isAgg4 ?_)
        | (with_reducible refine qbz (by kernel_rfl) _ _ rfl P9 _ rfl _ _ hP9 _ d5 isAgg28 ?_)
        | (go_at_call 43; (with_reducible refine (hct _ hk).mono ?_); rintro e w14 ⟨rfl, hb8⟩; replace hB3 := hB3.next hb8; replace hR := hR.next hb8; replace hB8 := hB8.next hb8; replace hP9 := hP9.next hb8; replace hP11 := hP11.next hb8; replace hk := btz hk hb8; clear hb8)
        | (go_at_call 38; (with_reducible refine (hrf _ hk).mono ?_); rintro e w12 ⟨aX, nX, cX, rfl, oX, hb9⟩; have hR9 := hR.next hb9)
        | ((with_reducible refine qaz rfl _ _ _ rfl R rfl _ rfl zW hR9 (hz2 _) (hs2 _) (h12 aX nX cX) ?_); intro W13 hR13 q13))
       refine bodyPost_ret (qPz results12 rfl rfl hR13 rfl) rfl ?_
       have hE : ER = 12 := by rw [← hER.out]; unfold linE; rw [if_neg (by rw [hb1, hb2]; decide), if_neg (by rw [hkd.out, hb3]; decide), if_neg (by rw [hb4]; decide), if_pos hj]
       have hY : YR = X := by rw [← hYR.out]; unfold linX; rw [if_neg (by rw [hb1, hb2]; decide), if_neg (by rw [hkd.out, hb3]; decide), if_neg (by rw [hb4]; decide), if_pos hj]
       rw [hE, hY]
       exact ⟨aX, nX, cX, rfl, (ObsN.store oX q13 hR.lt (fun b hb => by have := hD b hb; have := hRw.out; omega)).low hk.size, q13.below _ _ hRw.out (btz hk hb9)⟩
      ·replace hct := fun W hk => (hct W hk).no hj
       go_enter func12, ntmps12
       go_wp2_with (first
        | go_skip
        | (with_reducible refine qdz rfl 25 _ rfl G rfl ?_; intro B3 W3 hN3 hB3 hk)
        | ((with_reducible refine qcz rfl 25 rfl zW qNz ?_); intro R W6 hN6 hR hk6; have hRw : Hid (w.heap.size ≤ R) := (by have := hN6.out; have := hk.size; refine (?_ : w.heap.size ≤ R); omega); replace hB3 := hB3.next hk6; replace hk := btz hk hk6; clear hN3 hN6)
        | (with_reducible refine qez (by kernel_rfl) 25 _ rfl B3 rfl G hB3 _ underlying25 (by kernel_rfl) hzw ?_)
        | ((with_reducible refine qpz (by kernel_rfl) _ [(0, .tmp 13)] rfl G ?hf ?_); (case hf => exact hbt))
        | ((with_reducible refine qcz rfl 74 rfl #[.int .i64 0, .int .u64 0, .int .u64 0, .slice none 0 0] Tryz.zeroValue74 ?_); intro B8 W8 hN8 hR8 hk8)
        | ((with_reducible refine qaz rfl _ _ _ rfl B8 rfl G rfl _ hR8 hzv hz4 h14 ?_); intro V8 hB8 o8; have hb8 : Below W6.heap.size W6 V8 := o8.below W6.heap.size W6 (by have := hN8.out; omega) hk8; replace hB3 := hB3.next hb8; replace hR := hR.next hb8; replace hk := btz hk hb8; clear hN8 hR8 hk8 o8 hb8)
        | (with_reducible refine qez (by kernel_rfl) 74 _ rfl B8 rfl G hB8 _ underlying74 (by kernel_rfl) hzv ?_)
        | (go_at_call 37; have hx := hP9; (with_reducible refine (hf2 _ hk).mono ?_); rintro e w11 ⟨rfl, hb8⟩; replace hB3 := hB3.next hb8; replace hR := hR.next hb8; replace hB8 := hB8.next hb8; replace hP9 := hP9.next hb8; replace hk := btz hk hb8; clear hb8 hx)
        | (go_at_call 37; (with_reducible refine (hf1 _ hk).mono ?_); rintro e w9 ⟨rfl, hb8⟩; replace hB3 := hB3.next hb8; replace hR := hR.next hb8; replace hB8 := hB8.next hb8; replace hk := btz hk hb8; clear hb8)
        | ((with_reducible refine qcz rfl 43 rfl zC qqz ?_); have hx := hP9; intro P11 W11 hN11 hP11a hk11; clear hx)
        | ((with_reducible refine qcz rfl 43 rfl zC qqz ?_); intro P9 W9 hN9 hP9a hk9; have hPw : Hid (w.heap.size ≤ P9 ∧ B3 ≠ P9 ∧ R ≠ P9) := (by have := hN9.out; have := hk.size; have := hB3.lt; have := hR.lt; refine (⟨?_, ?_, ?_⟩ : _ ∧ _ ∧ _) <;> omega))
        | ((with_reducible refine qaz rfl _ _ _ rfl P9 rfl C1 rfl zC hP9a (qfz hz1) (qmz.trans hz1.symm) h1c ?_); intro V9 hP9 q9; have hb8 : Below w9.heap.size w9 V9 := q9.below w9.heap.size w9 (by have := hN9.out; omega) hk9; replace hB3 := hB3.next hb8; replace hR := hR.next hb8; replace hB8 := hB8.next hb8; replace hk := btz hk hb8; clear hN9 hP9a hk9 q9 hb8)
        | ((with_reducible refine qaz rfl _ _ _ rfl P11 rfl C2 rfl zC hP11a (qfz hz3) (qmz.trans hz3.symm) h3c ?_); intro V11 hP11 q11; have hb8 : Below w11.heap.size w11 V11 := q11.below w11.heap.size w11 (by have := hN11.out; omega) hk11; replace hB3 := hB3.next hb8; replace hR := hR.next hb8; replace hB8 := hB8.next hb8; replace hP9 := hP9.next hb8; replace hk := btz hk hb8; clear hN11 hP11a hk11 q11 hb8)
        | (with_reducible refine qbz (by kernel_rfl) _ _ rfl P9 _ rfl _ _ hP9 _ d1 isAgg3 ?_)
        | (go_at_call 42; (with_reducible refine (hsn _ hk).mono ?_); rintro e w10 ⟨rfl, hb8⟩; replace hB3 := hB3.next hb8; replace hR := hR.next hb8; replace hB8 := hB8.next hb8; replace hP9 := hP9.next hb8; replace hP11 := hP11.next hb8; replace hk := btz hk hb8; clear hb8)
        | (with_reducible refine qbz (by kernel_rfl) _ _ rfl P11 _ rfl _ _ hP11 _ z4 isAgg4 ?_)
        | (with_reducible refine qbz (by kernel_rfl) _ _ rfl P9 _ rfl _ _ hP9 _ d5 isAgg28 ?_)
        | (go_at_call 43; (with_reducible refine (hct _ hk).mono ?_); rintro e w14 ⟨rfl, hb8⟩; replace hB3 := hB3.next hb8; replace hR := hR.next hb8; replace hB8 := hB8.next hb8; replace hP9 := hP9.next hb8; replace hP11 := hP11.next hb8; replace hk := btz hk hb8; clear hb8)
        | (with_reducible refine qez (by kernel_rfl) 43 _ rfl P9 rfl C1 hP9 _ underlying43 (by kernel_rfl) (qfz hz1) ?_)
        | (with_reducible refine qez (by kernel_rfl) 43 _ rfl P11 rfl C2 hP11 _ underlying43 (by kernel_rfl) (qfz hz3) ?_)
        | (go_at_call 39; (with_reducible refine (hla _ hk).mono ?_); rintro e w12 ⟨aX, nX, cX, rfl, oX, hb9⟩; have hR9 := hR.next hb9)
        | ((with_reducible refine qaz rfl _ _ _ rfl R rfl _ rfl zW hR9 (hz2 _) (hs2 _) (h12 aX nX cX) ?_); intro W13 hR13 q13))
       refine bodyPost_ret (qPz results12 rfl rfl hR13 rfl) rfl ?_
       have hE : ER = LE := by rw [← hER.out]; unfold linE; rw [if_neg (by rw [hb1, hb2]; decide), if_neg (by rw [hkd.out, hb3]; decide), if_neg (by rw [hb4]; decide), if_neg hj, hLE.out]
       have hY : YR = LX := by rw [← hYR.out]; unfold linX; rw [if_neg (by rw [hb1, hb2]; decide), if_neg (by rw [hkd.out, hb3]; decide), if_neg (by rw [hb4]; decide), if_neg hj, hLX.out]
       rw [hE, hY]
       exact ⟨aX, nX, cX, rfl, (ObsN.store oX q13 hR.lt (fun b hb => by have := hD b hb; have := hRw.out; omega)).low hk.size, q13.below _ _ hRw.out (btz hk hb9)⟩
   ·have k2b : (kd == 2) = false := by simpa using k2
    have kf : decide ((fO X i).kind = 2) = false := decide_eq_false (by rw [hkd.out]; exact k2)
    go_enter func12, ntmps12
    go_wp2_with (first
     | go_skip
     | (with_reducible refine qdz rfl 25 _ rfl G rfl ?_; intro B3 W3 hN3 hB3 hk)
     | ((with_reducible refine qcz rfl 25 rfl zW qNz ?_); intro R W6 hN6 hR hk6; have hRw : Hid (w.heap.size ≤ R) := (by have := hN6.out; have := hk.size; refine (?_ : w.heap.size ≤ R); omega); replace hB3 := hB3.next hk6; replace hk := btz hk hk6; clear hN3 hN6)
     | (with_reducible refine qez (by kernel_rfl) 25 _ rfl B3 rfl G hB3 _ underlying25 (by kernel_rfl) hzw ?_)
     | ((with_reducible refine qpz (by kernel_rfl) _ [(0, .tmp 13)] rfl G ?hf ?_); (case hf => exact hbt))
     | ((with_reducible refine qcz rfl 74 rfl #[.int .i64 0, .int .u64 0, .int .u64 0, .slice none 0 0] Tryz.zeroValue74 ?_); intro B8 W8 hN8 hR8 hk8)
     | ((with_reducible refine qaz rfl _ _ _ rfl B8 rfl G rfl _ hR8 hzv hz4 h14 ?_); intro V8 hB8 o8; have hb8 : Below W6.heap.size W6 V8 := o8.below W6.heap.size W6 (by have := hN8.out; omega) hk8; replace hB3 := hB3.next hb8; replace hR := hR.next hb8; replace hk := btz hk hb8; clear hN8 hR8 hk8 o8 hb8)
     | (with_reducible refine qez (by kernel_rfl) 74 _ rfl B8 rfl G hB8 _ underlying74 (by kernel_rfl) hzv ?_)
     | (go_at_call 37; have hx := hP9; (with_reducible refine (hf2 _ hk).mono ?_); rintro e w11 ⟨rfl, hb8⟩; replace hB3 := hB3.next hb8; replace hR := hR.next hb8; replace hB8 := hB8.next hb8; replace hP9 := hP9.next hb8; replace hk := btz hk hb8; clear hb8 hx)
     | (go_at_call 37; (with_reducible refine (hf1 _ hk).mono ?_); rintro e w9 ⟨rfl, hb8⟩; replace hB3 := hB3.next hb8; replace hR := hR.next hb8; replace hB8 := hB8.next hb8; replace hk := btz hk hb8; clear hb8)
     | ((with_reducible refine qcz rfl 43 rfl zC qqz ?_); have hx := hP9; intro P11 W11 hN11 hP11a hk11; clear hx)
     | ((with_reducible refine qcz rfl 43 rfl zC qqz ?_); intro P9 W9 hN9 hP9a hk9; have hPw : Hid (w.heap.size ≤ P9 ∧ B3 ≠ P9 ∧ R ≠ P9) := (by have := hN9.out; have := hk.size; have := hB3.lt; have := hR.lt; refine (⟨?_, ?_, ?_⟩ : _ ∧ _ ∧ _) <;> omega))
     | ((with_reducible refine qaz rfl _ _ _ rfl P9 rfl C1 rfl zC hP9a (qfz hz1) (qmz.trans hz1.symm) h1c ?_); intro V9 hP9 q9; have hb8 : Below w9.heap.size w9 V9 := q9.below w9.heap.size w9 (by have := hN9.out; omega) hk9; replace hB3 := hB3.next hb8; replace hR := hR.next hb8; replace hB8 := hB8.next hb8; replace hk := btz hk hb8; clear hN9 hP9a hk9 q9 hb8)
     | ((with_reducible refine qaz rfl _ _ _ rfl P11 rfl C2 rfl zC hP11a (qfz hz3) (qmz.trans hz3.symm) h3c ?_); intro V11 hP11 q11; have hb8 : Below w11.heap.size w11 V11 := q11.below w11.heap.size w11 (by have := hN11.out; omega) hk11; replace hB3 := hB3.next hb8; replace hR := hR.next hb8; replace hB8 := hB8.next hb8; replace hP9 := hP9.next hb8; replace hk := btz hk hb8; clear hN11 hP11a hk11 q11 hb8)
     | (with_reducible refine qbz (by kernel_rfl) _ _ rfl P9 _ rfl _ _ hP9 _ d1 isAgg3 ?_)
     | (go_at_call 38; (with_reducible refine (hrf _ hk).mono ?_); rintro e w12 ⟨aX, nX, cX, rfl, oX, hb9⟩; have hR9 := hR.next hb9)
     | ((with_reducible refine qaz rfl _ _ _ rfl R rfl _ rfl zW hR9 (hz2 _) (hs2 _) (h12 aX nX cX) ?_); intro W13 hR13 q13))
    refine bodyPost_ret (qPz results12 rfl rfl hR13 rfl) rfl ?_
    have hE : ER = 3 := by rw [← hER.out]; unfold linE; rw [if_neg (by rw [hb1, hb2]; decide), if_pos (by rw [kf]; rfl)]
    have hY : YR = X := by rw [← hYR.out]; unfold linX; rw [if_neg (by rw [hb1, hb2]; decide), if_pos (by rw [kf]; rfl)]
    rw [hE, hY]
    exact ⟨aX, nX, cX, rfl, (ObsN.store oX q13 hR.lt (fun b hb => by have := hD b hb; have := hRw.out; omega)).low hk.size, q13.below _ _ hRw.out (btz hk hb9)⟩
end
end Go.Proofs.YtklnneiblmakmaaGreat
