/-
 PROVED HERE: what tree.Move returns when it is called (a contract over this translation); plain facts on worlds (no Go text. What is asked stands at each.
-/
import Derived.Test.YtklnneiblmakmaaGreatZ46
import Derived.Test.YtklnneiblmakmaaGreatZ47
namespace Go.Proofs.YtklnneiblmakmaaGreat
set_option maxRecDepth 100000
set_option maxHeartbeats 8000000
set_option linter.unusedVariables false
open Go.Proofs.Tryz
section
open Go.RowKit Go.Shelf
attribute [local go_sem] Oper.semAt_some
theorem sizeN : (prog.info? 3).map (·.size) = some 1 := by kernel_rfl
def useV (X : List Ob) (o : Ob) : Int := pagO o + (o.links.map (qOf X)).sum
def movE (X : List Ob) (i j m : Int) : Int := if ((fnd X i).isSome && (fnd X j).isSome) = false then 1 else if ¬ j ∈ (fO X i).links then 1 else if (fO X j).fixed = true then 8 else if m < -4096 ∨ 4096 < m then 4 else if vvz X (fO X i) < m ∨ ((fO X j).quota + m < useV X (fO X j) ∨ (fO X j).quota + m < 1) ∨ 4096 < (fO X j).quota + m then 5 else 0
def movX (X : List Ob) (i j m : Int) : List Ob := if movE X i j m = 0 then puR X { fO X j with quota := (fO X j).quota + m } else X
theorem move_v {w : World} {t ke ro i j m : Int} {ao : Option Addr} {n cap : Nat} {X : List Ob} {Cf : Nat → Array Value} {D0 : Nat → Prop} (hD : ∀ b, D0 b → b < w.heap.size) (h : ObsF (LtN w) D0 w ao n cap X Cf) (hL : Lays X) (hn16 : n < 1022) :
  Calls prog 16 #[.agg #[.int .i64 t, .int .u64 ke, .int .u64 ro, .slice ao n cap], .int .u64 i, .int .u64 j, .int .i64 m] w fun e w' => ∃ ao2 n2 cap2, e = .returned (.tuple #[.agg #[.int .i64 t, .int .u64 ke, .int .u64 ro, .slice ao2 n2 cap2], .int .i64 (movE X i j m)]) ∧ ObsN w D0 w' ao2 n2 cap2 (movX X i j m) ∧ Below w.heap.size w w' := by
 have hmx : prog.follows .mixedOrders = true := by kernel_rfl
 have hO : ObsD (LtN w) D0 w ao n cap X := h.obs
 have hF : ObsF (LtN w) (LtN w) w ao n cap X Cf := h.wide hD (fun _ hb => hb)
 have hzw : (prog.info? 25).map (·.size) = some (#[.int .i64 t, .int .u64 ke, .int .u64 ro, .slice ao n cap] : Array Value).size := by kernel_rfl
 have hzv : (prog.info? 74).map (·.size) = some (#[.int .i64 t, .int .u64 ke, .int .u64 ro, .slice ao n cap] : Array Value).size := by kernel_rfl
 have hbt : prog.built 74 [(0, .agg #[.int .i64 t, .int .u64 ke, .int .u64 ro, .slice ao n cap])] = some #[.int .i64 t, .int .u64 ke, .int .u64 ro, .slice ao n cap] := by kernel_rfl
 have hz4 : (#[.int .i64 0, .int .u64 0, .int .u64 0, .slice none 0 0] : Array Value).size = (#[.int .i64 t, .int .u64 ke, .int .u64 ro, .slice ao n cap] : Array Value).size := rfl
 have h14 : (#[.int .i64 t, .int .u64 ke, .int .u64 ro, .slice ao n cap] : Array Value).all (·.oneCell') = true := by simp [Value.oneCell']
 have hz2 : ∀ v, (prog.info? 25).map (·.size) = some (#[.int .i64 t, .int .u64 ke, .int .u64 ro, v] : Array Value).size := fun _ => wfz
 have hs2 : ∀ v, zW.size = (#[.int .i64 t, .int .u64 ke, .int .u64 ro, v] : Array Value).size := fun _ => rfl
 have h12 : ∀ ao n cap, (#[.int .i64 t, .int .u64 ke, .int .u64 ro, .slice ao n cap] : Array Value).all (·.oneCell') = true := fun _ _ _ => by kernel_rfl
 have hrf := fun {er : Int} (W : World) (hk : Below w.heap.size w W) => wXz (t := t) (ke := ke) (ro := ro) (er := er) (D0 := D0) (fun b hb => Nat.lt_of_lt_of_le (hD b hb) hk.size) (qUz hO hD hk) hL.srt (by omega) hL.sms hL.nul
 have hf1 := fun (W : World) (hk : Below w.heap.size w W) => xtz (t := t) (ke := ke) (ro := ro) (i := i) (hF.next hk) hL.srt (by omega)
 have hdo := j7z h hL.srt i
 have hz1 := hdo.size
 have h1c := hdo.one
 have hf2 := fun (W : World) (hk : Below w.heap.size w W) => xtz (t := t) (ke := ke) (ro := ro) (i := j) (hF.next hk) hL.srt (by omega)
 have hdo2 := j7z h hL.srt j
 have hdL : ObD (LtN w) w (fC X Cf i) (fO X i) := hdo.wide hD
 have hoL : ObD (LtN w) w (fC X Cf j) (fO X j) := hdo2.wide hD
 have hrm := fun (W : World) (hk : Below w.heap.size w W) => vVz (t := t) (ke := ke) (ro := ro) (hF.next hk) hL.srt (by omega) hL.quo (hdL.next hk) (hL.at i).1 (hL.at i).2.1
 have hus := fun (W : World) (hk : Below w.heap.size w W) => y7z (t := t) (ke := ke) (ro := ro) (hF.next hk) hL.srt (by omega) hL.quo (hoL.next hk) (hL.at j).1
 change ∀ (W : World), Below w.heap.size w W → Calls prog _ _ W fun e w' => e = .returned (.int .i64 (vvz X (fO X i))) ∧ _ at hrm
 change ∀ (W : World), Below w.heap.size w W → Calls prog _ _ W fun e w' => e = .returned (.int .i64 (useV X (fO X j))) ∧ _ at hus
 have hpu := fun (W : World) (hk : Below w.heap.size w W) => put_w (t := t) (ke := ke) (ro := ro) (D0 := D0) (fun b hb => Nat.lt_of_lt_of_le (hD b hb) hk.size) (qUz hO hD hk) hL.srt (by omega) hL.sms (ob_set3 (hdo2.laterK fun b hb => hk.block b (hD b hb)) ((fO X j).quota + m)) (uiz (hL.at j).1 ((fO X j).quota + m))
 obtain ⟨al, nl, cl, d5, hLk⟩ := hdo.links
 have hct := fun (W : World) (hk : Below w.heap.size w W) => ktz (i := j) ((hLk.laterK fun b hb => hk.block b (hD b hb)).wide fun b hb => Nat.lt_of_lt_of_le (hD b hb) hk.size)
 have z4 := hdo2.fixed
 have z3 := hdo2.quota
 have hz3 := hdo2.size
 have h3c := hdo2.one
 have hqj := (hL.at j).2.1
 have hzn : ((fC X Cf j).setIfInBounds 3 (.int .i64 ((fO X j).quota + m))).size = 51 := by rw [Array.size_setIfInBounds]; exact hz3
 have hn3 : ((fC X Cf j).setIfInBounds 3 (.int .i64 ((fO X j).quota + m)))[3]? = some (.int .i64 ((fO X j).quota + m)) := by rw [qDz (by rw [hz3]; omega), if_pos rfl]
 obtain ⟨ER, hER⟩ : ∃ ER, Hid (movE X i j m = ER) := ⟨_, rfl⟩
 obtain ⟨YR, hYR⟩ : ∃ YR, Hid (movX X i j m = YR) := ⟨_, rfl⟩
 rw [hER.out, hYR.out]
 generalize fC X Cf i = C1 at hf1 hz1 h1c hrm d5
 generalize fC X Cf j = C2 at hf2 hz3 h3c hus hpu z4 z3 hzn hn3
 clear hdo hdo2 hLk hdL hoL
 obtain ⟨Cn, hCn⟩ : ∃ Cn, Hid (C2.setIfInBounds 3 (.int .i64 ((fO X j).quota + m)) = Cn) := ⟨_, rfl⟩
 rw [hCn.out] at hzn hn3
 simp only [hCn.out] at hpu
 obtain ⟨rm, hrme⟩ : ∃ rm, Hid (vvz X (fO X i) = rm) := ⟨_, rfl⟩
 simp only [hrme.out] at hrm
 obtain ⟨us, huse⟩ : ∃ us, Hid (useV X (fO X j) = us) := ⟨_, rfl⟩
 simp only [huse.out] at hus
 obtain ⟨q, hqe⟩ : ∃ q, Hid ((fO X j).quota = q) := ⟨_, rfl⟩
 rw [hqe.out] at z3 hqj hn3
 obtain ⟨G, hG⟩ : ∃ G : Array Value, G = #[.int .i64 t, .int .u64 ke, .int .u64 ro, .slice ao n cap] := ⟨_, rfl⟩
 simp only [← hG] at hrf hf1 hf2 hrm hus hpu
 rw [← hG] at hzw hzv hbt hz4 h14
 rw [← hG]
 clear hG
 cases hb1 : (fnd X i).isSome with
 | false =>
  rw [hb1] at hf1
  generalize (fnd X j).isSome = b2 at hf2
  go_enter func16, ntmps16
  go_wp2_with (first
   | go_skip
   | (with_reducible refine qdz rfl 25 _ rfl G rfl ?_; intro B3 W3 hN3 hB3 hk)
   | ((with_reducible refine qcz rfl 25 rfl zW qNz ?_); intro R W6 hN6 hR hk6; have hRw : Hid (w.heap.size ≤ R) := (by have := hN6.out; have := hk.size; refine (?_ : w.heap.size ≤ R); omega); replace hB3 := hB3.next hk6; replace hk := btz hk hk6; clear hN3 hN6)
   | (with_reducible refine qez (by kernel_rfl) 25 _ rfl B3 rfl G hB3 _ underlying25 (by kernel_rfl) hzw ?_)
   | ((with_reducible refine qpz (by kernel_rfl) _ [(0, .tmp 17)] rfl G ?hf ?_); (case hf => exact hbt))
   | ((with_reducible refine qcz rfl 74 rfl #[.int .i64 0, .int .u64 0, .int .u64 0, .slice none 0 0] Tryz.zeroValue74 ?_); intro B8 W8 hN8 hR8 hk8)
   | ((with_reducible refine qaz rfl _ _ _ rfl B8 rfl G rfl _ hR8 hzv hz4 h14 ?_); intro V8 hB8 o8; have hb8 : Below W6.heap.size W6 V8 := o8.below W6.heap.size W6 (by have := hN8.out; omega) hk8; replace hB3 := hB3.next hb8; replace hR := hR.next hb8; replace hk := btz hk hb8; clear hN8 hR8 hk8 o8 hb8)
   | (with_reducible refine qez (by kernel_rfl) 74 _ rfl B8 rfl G hB8 _ underlying74 (by kernel_rfl) hzv ?_)
   | (go_at_call 37; have hx := hP9; (with_reducible refine (hf2 _ hk).mono ?_); rintro e w11 ⟨rfl, hb8⟩; replace hB3 := hB3.next hb8; replace hR := hR.next hb8; replace hB8 := hB8.next hb8; replace hP9 := hP9.next hb8; replace hk := btz hk hb8; clear hb8 hx)
   | (go_at_call 37; (with_reducible refine (hf1 _ hk).mono ?_); rintro e w9 ⟨rfl, hb8⟩; replace hB3 := hB3.next hb8; replace hR := hR.next hb8; replace hB8 := hB8.next hb8; replace hk := btz hk hb8; clear hb8)
   | ((with_reducible refine qcz rfl 43 rfl zC qqz ?_); have hx := hP9; intro P11 W11 hN11 hP11a hk11; have hPw2 : Hid (w.heap.size ≤ P11 ∧ B3 ≠ P11 ∧ R ≠ P11 ∧ B8 ≠ P11 ∧ P9 ≠ P11) := (by have := hN11.out; have := hk.size; have := hB3.lt; have := hR.lt; have := hB8.lt; have := hP9.lt; refine (⟨?_, ?_, ?_, ?_, ?_⟩ : _ ∧ _ ∧ _ ∧ _ ∧ _) <;> omega); clear hx)
   | ((with_reducible refine qcz rfl 43 rfl zC qqz ?_); intro P9 W9 hN9 hP9a hk9; have hPw : Hid (w.heap.size ≤ P9 ∧ B3 ≠ P9 ∧ R ≠ P9) := (by have := hN9.out; have := hk.size; have := hB3.lt; have := hR.lt; refine (⟨?_, ?_, ?_⟩ : _ ∧ _ ∧ _) <;> omega))
   | ((with_reducible refine qaz rfl _ _ _ rfl P9 rfl C1 rfl zC hP9a (qfz hz1) (qmz.trans hz1.symm) h1c ?_); intro V9 hP9 q9; have hb8 : Below w9.heap.size w9 V9 := q9.below w9.heap.size w9 (by have := hN9.out; omega) hk9; replace hB3 := hB3.next hb8; replace hR := hR.next hb8; replace hB8 := hB8.next hb8; replace hk := btz hk hb8; clear hN9 hP9a hk9 q9 hb8)
   | ((with_reducible refine qaz rfl _ _ _ rfl P11 rfl C2 rfl zC hP11a (qfz hz3) (qmz.trans hz3.symm) h3c ?_); intro V11 hP11 q11; have hb8 : Below w11.heap.size w11 V11 := q11.below w11.heap.size w11 (by have := hN11.out; omega) hk11; replace hB3 := hB3.next hb8; replace hR := hR.next hb8; replace hB8 := hB8.next hb8; replace hP9 := hP9.next hb8; replace hk := btz hk hb8; clear hN11 hP11a hk11 q11 hb8)
   | (go_at_call 38; (with_reducible refine (hrf _ hk).mono ?_); rintro e w12 ⟨aX, nX, cX, rfl, oX, hb9⟩; have hR9 := hR.next hb9)
   | ((with_reducible refine qaz rfl _ _ _ rfl R rfl _ rfl zW hR9 (hz2 _) (hs2 _) (h12 aX nX cX) ?_); intro W13 hR13 q13))
  refine bodyPost_ret (qPz results16 rfl rfl hR13 rfl) rfl ?_
  have hE : ER = 1 := by rw [← hER.out]; unfold movE; rw [if_pos (by rw [hb1]; rfl)]
  have hY : YR = X := by rw [← hYR.out]; unfold movX; rw [hER.out, hE]; rfl
  rw [hE, hY]
  exact ⟨aX, nX, cX, rfl, (ObsN.store oX q13 hR.lt (fun b hb => by have := hD b hb; have := hRw.out; omega)).low hk.size, q13.below _ _ hRw.out (btz hk hb9)⟩
 | true =>
  rw [hb1] at hf1
  cases hb2 : (fnd X j).isSome with
  | false =>
   rw [hb2] at hf2
   go_enter func16, ntmps16
   go_wp2_with (first
    | go_skip
    | (with_reducible refine qdz rfl 25 _ rfl G rfl ?_; intro B3 W3 hN3 hB3 hk)
    | ((with_reducible refine qcz rfl 25 rfl zW qNz ?_); intro R W6 hN6 hR hk6; have hRw : Hid (w.heap.size ≤ R) := (by have := hN6.out; have := hk.size; refine (?_ : w.heap.size ≤ R); omega); replace hB3 := hB3.next hk6; replace hk := btz hk hk6; clear hN3 hN6)
    | (with_reducible refine qez (by kernel_rfl) 25 _ rfl B3 rfl G hB3 _ underlying25 (by kernel_rfl) hzw ?_)
    | ((with_reducible refine qpz (by kernel_rfl) _ [(0, .tmp 17)] rfl G ?hf ?_); (case hf => exact hbt))
    | ((with_reducible refine qcz rfl 74 rfl #[.int .i64 0, .int .u64 0, .int .u64 0, .slice none 0 0] Tryz.zeroValue74 ?_); intro B8 W8 hN8 hR8 hk8)
    | ((with_reducible refine qaz rfl _ _ _ rfl B8 rfl G rfl _ hR8 hzv hz4 h14 ?_); intro V8 hB8 o8; have hb8 : Below W6.heap.size W6 V8 := o8.below W6.heap.size W6 (by have := hN8.out; omega) hk8; replace hB3 := hB3.next hb8; replace hR := hR.next hb8; replace hk := btz hk hb8; clear hN8 hR8 hk8 o8 hb8)
    | (with_reducible refine qez (by kernel_rfl) 74 _ rfl B8 rfl G hB8 _ underlying74 (by kernel_rfl) hzv ?_)
    | (go_at_call 37; have hx := hP9; (with_reducible refine (hf2 _ hk).mono ?_); rintro e w11 ⟨rfl, hb8⟩; replace hB3 := hB3.next hb8; replace hR := hR.next hb8; replace hB8 := hB8.next hb8; replace hP9 := hP9.next hb8; replace hk := btz hk hb8; clear hb8 hx)
    | (go_at_call 37; (with_reducible refine (hf1 _ hk).mono ?_); rintro e w9 ⟨rfl, hb8⟩; replace hB3 := hB3.next hb8; replace hR := hR.next hb8; replace hB8 := hB8.next hb8; replace hk := btz hk hb8; clear hb8)
    | ((with_reducible refine qcz rfl 43 rfl zC qqz ?_); have hx := hP9; intro P11 W11 hN11 hP11a hk11; have hPw2 : Hid (w.heap.size ≤ P11 ∧ B3 ≠ P11 ∧ R ≠ P11 ∧ B8 ≠ P11 ∧ P9 ≠ P11) := (by have := hN11.out; have := hk.size; have := hB3.lt; have := hR.lt; have := hB8.lt; have := hP9.lt; refine (⟨?_, ?_, ?_, ?_, ?_⟩ : _ ∧ _ ∧ _ ∧ _ ∧ _) <;> omega); clear hx)
    | ((with_reducible refine qcz rfl 43 rfl zC qqz ?_); intro P9 W9 hN9 hP9a hk9; have hPw : Hid (w.heap.size ≤ P9 ∧ B3 ≠ P9 ∧ R ≠ P9) := (by have := hN9.out; have := hk.size; have := hB3.lt; have := hR.lt; refine (⟨?_, ?_, ?_⟩ : _ ∧ _ ∧ _) <;> omega))
    | ((with_reducible refine qaz rfl _ _ _ rfl P9 rfl C1 rfl zC hP9a (qfz hz1) (qmz.trans hz1.symm) h1c ?_); intro V9 hP9 q9; have hb8 : Below w9.heap.size w9 V9 := q9.below w9.heap.size w9 (by have := hN9.out; omega) hk9; replace hB3 := hB3.next hb8; replace hR := hR.next hb8; replace hB8 := hB8.next hb8; replace hk := btz hk hb8; clear hN9 hP9a hk9 q9 hb8)
    | ((with_reducible refine qaz rfl _ _ _ rfl P11 rfl C2 rfl zC hP11a (qfz hz3) (qmz.trans hz3.symm) h3c ?_); intro V11 hP11 q11; have hb8 : Below w11.heap.size w11 V11 := q11.below w11.heap.size w11 (by have := hN11.out; omega) hk11; replace hB3 := hB3.next hb8; replace hR := hR.next hb8; replace hB8 := hB8.next hb8; replace hP9 := hP9.next hb8; replace hk := btz hk hb8; clear hN11 hP11a hk11 q11 hb8)
    | (go_at_call 38; (with_reducible refine (hrf _ hk).mono ?_); rintro e w12 ⟨aX, nX, cX, rfl, oX, hb9⟩; have hR9 := hR.next hb9)
    | ((with_reducible refine qaz rfl _ _ _ rfl R rfl _ rfl zW hR9 (hz2 _) (hs2 _) (h12 aX nX cX) ?_); intro W13 hR13 q13))
   refine bodyPost_ret (qPz results16 rfl rfl hR13 rfl) rfl ?_
   have hE : ER = 1 := by rw [← hER.out]; unfold movE; rw [if_pos (by rw [hb1, hb2]; rfl)]
   have hY : YR = X := by rw [← hYR.out]; unfold movX; rw [hER.out, hE]; rfl
   rw [hE, hY]
   exact ⟨aX, nX, cX, rfl, (ObsN.store oX q13 hR.lt (fun b hb => by have := hD b hb; have := hRw.out; omega)).low hk.size, q13.below _ _ hRw.out (btz hk hb9)⟩
  | true =>
   rw [hb2] at hf2
   by_cases hj : j ∈ (fO X i).links
   ·replace hct := fun W hk => (hct W hk).yes hj
    cases hb4 : (fO X j).fixed with
    | true =>
     rw [hb4] at z4
     go_enter func16, ntmps16
     go_wp2_with (first
      | go_skip
      | (with_reducible refine qdz rfl 25 _ rfl G rfl ?_; intro B3 W3 hN3 hB3 hk)
      | ((with_reducible refine qcz rfl 25 rfl zW qNz ?_); intro R W6 hN6 hR hk6; have hRw : Hid (w.heap.size ≤ R) := (by have := hN6.out; have := hk.size; refine (?_ : w.heap.size ≤ R); omega); replace hB3 := hB3.next hk6; replace hk := btz hk hk6; clear hN3 hN6)
      | (with_reducible refine qez (by kernel_rfl) 25 _ rfl B3 rfl G hB3 _ underlying25 (by kernel_rfl) hzw ?_)
      | ((with_reducible refine qpz (by kernel_rfl) _ [(0, .tmp 17)] rfl G ?hf ?_); (case hf => exact hbt))
      | ((with_reducible refine qcz rfl 74 rfl #[.int .i64 0, .int .u64 0, .int .u64 0, .slice none 0 0] Tryz.zeroValue74 ?_); intro B8 W8 hN8 hR8 hk8)
      | ((with_reducible refine qaz rfl _ _ _ rfl B8 rfl G rfl _ hR8 hzv hz4 h14 ?_); intro V8 hB8 o8; have hb8 : Below W6.heap.size W6 V8 := o8.below W6.heap.size W6 (by have := hN8.out; omega) hk8; replace hB3 := hB3.next hb8; replace hR := hR.next hb8; replace hk := btz hk hb8; clear hN8 hR8 hk8 o8 hb8)
      | (with_reducible refine qez (by kernel_rfl) 74 _ rfl B8 rfl G hB8 _ underlying74 (by kernel_rfl) hzv ?_)
      | (go_at_call 37; have hx := hP9; (with_reducible refine (hf2 _ hk).mono ?_); rintro e w11 ⟨rfl, hb8⟩; replace hB3 := hB3.next hb8; replace hR := hR.next hb8; replace hB8 := hB8.next hb8; replace hP9 := hP9.next hb8; replace hk := btz hk hb8; clear hb8 hx)
      | (go_at_call 37; (with_reducible refine (hf1 _ hk).mono ?_); rintro e w9 ⟨rfl, hb8⟩; replace hB3 := hB3.next hb8; replace hR := hR.next hb8; replace hB8 := hB8.next hb8; replace hk := btz hk hb8; clear hb8)
      | ((with_reducible refine qcz rfl 43 rfl zC qqz ?_); have hx := hP9; intro P11 W11 hN11 hP11a hk11; have hPw2 : Hid (w.heap.size ≤ P11 ∧ B3 ≠ P11 ∧ R ≠ P11 ∧ B8 ≠ P11 ∧ P9 ≠ P11) := (by have := hN11.out; have := hk.size; have := hB3.lt; have := hR.lt; have := hB8.lt; have := hP9.lt; refine (⟨?_, ?_, ?_, ?_, ?_⟩ : _ ∧ _ ∧ _ ∧ _ ∧ _) <;> omega); clear hx)
      | ((with_reducible refine qcz rfl 43 rfl zC qqz ?_); intro P9 W9 hN9 hP9a hk9; have hPw : Hid (w.heap.size ≤ P9 ∧ B3 ≠ P9 ∧ R ≠ P9) := (by have := hN9.out; have := hk.size; have := hB3.lt; have := hR.lt; refine (⟨?_, ?_, ?_⟩ : _ ∧ _ ∧ _) <;> omega))
      | ((with_reducible refine qaz rfl _ _ _ rfl P9 rfl C1 rfl zC hP9a (qfz hz1) (qmz.trans hz1.symm) h1c ?_); intro V9 hP9 q9; have hb8 : Below w9.heap.size w9 V9 := q9.below w9.heap.size w9 (by have := hN9.out; omega) hk9; replace hB3 := hB3.next hb8; replace hR := hR.next hb8; replace hB8 := hB8.next hb8; replace hk := btz hk hb8; clear hN9 hP9a hk9 q9 hb8)
      | ((with_reducible refine qaz rfl _ _ _ rfl P11 rfl C2 rfl zC hP11a (qfz hz3) (qmz.trans hz3.symm) h3c ?_); intro V11 hP11 q11; have hb8 : Below w11.heap.size w11 V11 := q11.below w11.heap.size w11 (by have := hN11.out; omega) hk11; replace hB3 := hB3.next hb8; replace hR := hR.next hb8; replace hB8 := hB8.next hb8; replace hP9 := hP9.next hb8; replace hk := btz hk hb8; clear hN11 hP11a hk11 q11 hb8)
      | (with_reducible refine qbz (by kernel_rfl) _ _ rfl P9 _ rfl _ _ hP9 _ d5 isAgg28 ?_)
      | (go_at_call 43; (with_reducible refine (hct _ hk).mono ?_); rintro e w14 ⟨rfl, hb8⟩; replace hB3 := hB3.next hb8; replace hR := hR.next hb8; replace hB8 := hB8.next hb8; replace hP9 := hP9.next hb8; replace hP11 := hP11.next hb8; replace hk := btz hk hb8; clear hb8)
      | (with_reducible refine qbz (by kernel_rfl) _ _ rfl P11 _ rfl _ _ hP11 _ z4 isAgg4 ?_)
      | (go_at_call 38; (with_reducible refine (hrf _ hk).mono ?_); rintro e w12 ⟨aX, nX, cX, rfl, oX, hb9⟩; have hR9 := hR.next hb9)
      | ((with_reducible refine qaz rfl _ _ _ rfl R rfl _ rfl zW hR9 (hz2 _) (hs2 _) (h12 aX nX cX) ?_); intro W13 hR13 q13))
     refine bodyPost_ret (qPz results16 rfl rfl hR13 rfl) rfl ?_
     have hE : ER = 8 := by rw [← hER.out]; unfold movE; rw [if_neg (by rw [hb1, hb2]; decide), if_neg (fun c => c hj), if_pos hb4]
     have hY : YR = X := by rw [← hYR.out]; unfold movX; rw [hER.out, hE]; rfl
     rw [hE, hY]
     exact ⟨aX, nX, cX, rfl, (ObsN.store oX q13 hR.lt (fun b hb => by have := hD b hb; have := hRw.out; omega)).low hk.size, q13.below _ _ hRw.out (btz hk hb9)⟩
    | false =>
     rw [hb4] at z4
     by_cases hm1 : m < -4096
     ·have hm : Hid (m < -4096) := hm1
      go_enter func16, ntmps16
      go_wp2_with (first
       | go_skip
       | (with_reducible refine qdz rfl 25 _ rfl G rfl ?_; intro B3 W3 hN3 hB3 hk)
       | ((with_reducible refine qcz rfl 25 rfl zW qNz ?_); intro R W6 hN6 hR hk6; have hRw : Hid (w.heap.size ≤ R) := (by have := hN6.out; have := hk.size; refine (?_ : w.heap.size ≤ R); omega); replace hB3 := hB3.next hk6; replace hk := btz hk hk6; clear hN3 hN6)
       | (with_reducible refine qez (by kernel_rfl) 25 _ rfl B3 rfl G hB3 _ underlying25 (by kernel_rfl) hzw ?_)
       | ((with_reducible refine qpz (by kernel_rfl) _ [(0, .tmp 17)] rfl G ?hf ?_); (case hf => exact hbt))
       | ((with_reducible refine qcz rfl 74 rfl #[.int .i64 0, .int .u64 0, .int .u64 0, .slice none 0 0] Tryz.zeroValue74 ?_); intro B8 W8 hN8 hR8 hk8)
       | ((with_reducible refine qaz rfl _ _ _ rfl B8 rfl G rfl _ hR8 hzv hz4 h14 ?_); intro V8 hB8 o8; have hb8 : Below W6.heap.size W6 V8 := o8.below W6.heap.size W6 (by have := hN8.out; omega) hk8; replace hB3 := hB3.next hb8; replace hR := hR.next hb8; replace hk := btz hk hb8; clear hN8 hR8 hk8 o8 hb8)
       | (with_reducible refine qez (by kernel_rfl) 74 _ rfl B8 rfl G hB8 _ underlying74 (by kernel_rfl) hzv ?_)
       | (go_at_call 37; have hx := hP9; (with_reducible refine (hf2 _ hk).mono ?_); rintro e w11 ⟨rfl, hb8⟩; replace hB3 := hB3.next hb8; replace hR := hR.next hb8; replace hB8 := hB8.next hb8; replace hP9 := hP9.next hb8; replace hk := btz hk hb8; clear hb8 hx)
       | (go_at_call 37; (with_reducible refine (hf1 _ hk).mono ?_); rintro e w9 ⟨rfl, hb8⟩; replace hB3 := hB3.next hb8; replace hR := hR.next hb8; replace hB8 := hB8.next hb8; replace hk := btz hk hb8; clear hb8)
       | ((with_reducible refine qcz rfl 43 rfl zC qqz ?_); have hx := hP9; intro P11 W11 hN11 hP11a hk11; have hPw2 : Hid (w.heap.size ≤ P11 ∧ B3 ≠ P11 ∧ R ≠ P11 ∧ B8 ≠ P11 ∧ P9 ≠ P11) := (by have := hN11.out; have := hk.size; have := hB3.lt; have := hR.lt; have := hB8.lt; have := hP9.lt; refine (⟨?_, ?_, ?_, ?_, ?_⟩ : _ ∧ _ ∧ _ ∧ _ ∧ _) <;> omega); clear hx)
       | ((with_reducible refine qcz rfl 43 rfl zC qqz ?_); intro P9 W9 hN9 hP9a hk9; have hPw : Hid (w.heap.size ≤ P9 ∧ B3 ≠ P9 ∧ R ≠ P9) := (by have := hN9.out; have := hk.size; have := hB3.lt; have := hR.lt; refine (⟨?_, ?_, ?_⟩ : _ ∧ _ ∧ _) <;> omega))
       | ((with_reducible refine qaz rfl _ _ _ rfl P9 rfl C1 rfl zC hP9a (qfz hz1) (qmz.trans hz1.symm) h1c ?_); intro V9 hP9 q9; have hb8 : Below w9.heap.size w9 V9 := q9.below w9.heap.size w9 (by have := hN9.out; omega) hk9; replace hB3 := hB3.next hb8; replace hR := hR.next hb8; replace hB8 := hB8.next hb8; replace hk := btz hk hb8; clear hN9 hP9a hk9 q9 hb8)
       | ((with_reducible refine qaz rfl _ _ _ rfl P11 rfl C2 rfl zC hP11a (qfz hz3) (qmz.trans hz3.symm) h3c ?_); intro V11 hP11 q11; have hb8 : Below w11.heap.size w11 V11 := q11.below w11.heap.size w11 (by have := hN11.out; omega) hk11; replace hB3 := hB3.next hb8; replace hR := hR.next hb8; replace hB8 := hB8.next hb8; replace hP9 := hP9.next hb8; replace hk := btz hk hb8; clear hN11 hP11a hk11 q11 hb8)
       | (with_reducible refine qbz (by kernel_rfl) _ _ rfl P9 _ rfl _ _ hP9 _ d5 isAgg28 ?_)
       | (go_at_call 43; (with_reducible refine (hct _ hk).mono ?_); rintro e w14 ⟨rfl, hb8⟩; replace hB3 := hB3.next hb8; replace hR := hR.next hb8; replace hB8 := hB8.next hb8; replace hP9 := hP9.next hb8; replace hP11 := hP11.next hb8; replace hk := btz hk hb8; clear hb8)
       | (with_reducible refine qbz (by kernel_rfl) _ _ rfl P11 _ rfl _ _ hP11 _ z4 isAgg4 ?_)
       | ((with_reducible refine qgz (by kernel_rfl) .lss 3 _ _ _ rfl (.int .i64 m) (.int .i64 (-4096)) rfl rfl (qWz _ _ _ _ _ _) ?_ ?_) <;> first | (intro f1; exfalso; have h1 := f1.out; have h2 := hm.out; omega) | intro f1)
       | (go_at_call 38; (with_reducible refine (hrf _ hk).mono ?_); rintro e w12 ⟨aX, nX, cX, rfl, oX, hb9⟩; have hR9 := hR.next hb9)
       | ((with_reducible refine qaz rfl _ _ _ rfl R rfl _ rfl zW hR9 (hz2 _) (hs2 _) (h12 aX nX cX) ?_); intro W13 hR13 q13))
      refine bodyPost_ret (qPz results16 rfl rfl hR13 rfl) rfl ?_
      have hE : ER = 4 := by rw [← hER.out]; unfold movE; rw [if_neg (by rw [hb1, hb2]; decide), if_neg (fun c => c hj), if_neg (by rw [hb4]; decide), if_pos (.inl hm1)]
      have hY : YR = X := by rw [← hYR.out]; unfold movX; rw [hER.out, hE]; rfl
      rw [hE, hY]
      exact ⟨aX, nX, cX, rfl, (ObsN.store oX q13 hR.lt (fun b hb => by have := hD b hb; have := hRw.out; omega)).low hk.size, q13.below _ _ hRw.out (btz hk hb9)⟩
     ·by_cases hm2 : 4096 < m
      ·have hm : Hid (4096 < m) := hm2
       go_enter func16, ntmps16
       go_wp2_with (first
        | go_skip
        | (with_reducible refine qdz rfl 25 _ rfl G rfl ?_; intro B3 W3 hN3 hB3 hk)
        | ((with_reducible refine qcz rfl 25 rfl zW qNz ?_); intro R W6 hN6 hR hk6; have hRw : Hid (w.heap.size ≤ R) := (by have := hN6.out; have := hk.size; refine (?_ : w.heap.size ≤ R); omega); replace hB3 := hB3.next hk6; replace hk := btz hk hk6; clear hN3 hN6)
        | (with_reducible refine qez (by kernel_rfl) 25 _ rfl B3 rfl G hB3 _ underlying25 (by kernel_rfl) hzw ?_)
        | ((with_reducible refine qpz (by kernel_rfl) _ [(0, .tmp 17)] rfl G ?hf ?_); (case hf => exact hbt))
        | ((with_reducible refine qcz rfl 74 rfl #[.int .i64 0, .int .u64 0, .int .u64 0, .slice none 0 0] Tryz.zeroValue74 ?_); intro B8 W8 hN8 hR8 hk8)
        | ((with_reducible refine qaz rfl _ _ _ rfl B8 rfl G rfl _ hR8 hzv hz4 h14 ?_); intro V8 hB8 o8; have hb8 : Below W6.heap.size W6 V8 := o8.below W6.heap.size W6 (by have := hN8.out; omega) hk8; replace hB3 := hB3.next hb8; replace hR := hR.next hb8; replace hk := btz hk hb8; clear hN8 hR8 hk8 o8 hb8)
        | (with_reducible refine qez (by kernel_rfl) 74 _ rfl B8 rfl G hB8 _ underlying74 (by kernel_rfl) hzv ?_)
        | (go_at_call 37; have hx := hP9; (with_reducible refine (hf2 _ hk).mono ?_); rintro e w11 ⟨rfl, hb8⟩; replace hB3 := hB3.next hb8; replace hR := hR.next hb8; replace hB8 := hB8.next hb8; replace hP9 := hP9.next hb8; replace hk := btz hk hb8; clear hb8 hx)
        | (go_at_call 37; (with_reducible refine (hf1 _ hk).mono ?_); rintro e w9 ⟨rfl, hb8⟩; replace hB3 := hB3.next hb8; replace hR := hR.next hb8; replace hB8 := hB8.next hb8; replace hk := btz hk hb8; clear hb8)
        | ((with_reducible refine qcz rfl 43 rfl zC qqz ?_); have hx := hP9; intro P11 W11 hN11 hP11a hk11; have hPw2 : Hid (w.heap.size ≤ P11 ∧ B3 ≠ P11 ∧ R ≠ P11 ∧ B8 ≠ P11 ∧ P9 ≠ P11) := (by have := hN11.out; have := hk.size; have := hB3.lt; have := hR.lt; have := hB8.lt; have := hP9.lt; refine (⟨?_, ?_, ?_, ?_, ?_⟩ : _ ∧ _ ∧ _ ∧ _ ∧ _) <;> omega); clear hx)
        | ((with_reducible refine qcz rfl 43 rfl zC qqz ?_); intro P9 W9 hN9 hP9a hk9; have hPw : Hid (w.heap.size ≤ P9 ∧ B3 ≠ P9 ∧ R ≠ P9) := (by have := hN9.out; have := hk.size; have := hB3.lt; have := hR.lt; refine (⟨?_, ?_, ?_⟩ : _ ∧ _ ∧ _) <;> omega))
        | ((with_reducible refine qaz rfl _ _ _ rfl P9 rfl C1 rfl zC hP9a (qfz hz1) (qmz.trans hz1.symm) h1c ?_); intro V9 hP9 q9; have hb8 : Below w9.heap.size w9 V9 := q9.below w9.heap.size w9 (by have := hN9.out; omega) hk9; replace hB3 := hB3.next hb8; replace hR := hR.next hb8; replace hB8 := hB8.next hb8; replace hk := btz hk hb8; clear hN9 hP9a hk9 q9 hb8)
        | ((with_reducible refine qaz rfl _ _ _ rfl P11 rfl C2 rfl zC hP11a (qfz hz3) (qmz.trans hz3.symm) h3c ?_); intro V11 hP11 q11; have hb8 : Below w11.heap.size w11 V11 := q11.below w11.heap.size w11 (by have := hN11.out; omega) hk11; replace hB3 := hB3.next hb8; replace hR := hR.next hb8; replace hB8 := hB8.next hb8; replace hP9 := hP9.next hb8; replace hk := btz hk hb8; clear hN11 hP11a hk11 q11 hb8)
        | (with_reducible refine qbz (by kernel_rfl) _ _ rfl P9 _ rfl _ _ hP9 _ d5 isAgg28 ?_)
        | (go_at_call 43; (with_reducible refine (hct _ hk).mono ?_); rintro e w14 ⟨rfl, hb8⟩; replace hB3 := hB3.next hb8; replace hR := hR.next hb8; replace hB8 := hB8.next hb8; replace hP9 := hP9.next hb8; replace hP11 := hP11.next hb8; replace hk := btz hk hb8; clear hb8)
        | (with_reducible refine qbz (by kernel_rfl) _ _ rfl P11 _ rfl _ _ hP11 _ z4 isAgg4 ?_)
        | ((with_reducible refine qgz (by kernel_rfl) .lss 3 _ _ _ rfl (.int .i64 m) (.int .i64 (-4096)) rfl rfl (qWz _ _ _ _ _ _) ?_ ?_) <;> first | (intro f1; exfalso; have h1 := f1.out; have h2 := hm.out; omega) | intro f1)
        | ((with_reducible refine qgz (by kernel_rfl) .gtr 3 _ _ _ rfl (.int .i64 m) (.int .i64 4096) rfl rfl (qAz _ _ _ _ _ _) ?_ ?_) <;> first | (intro f2; exfalso; have h1 := f2.out; have h2 := hm.out; omega) | intro f2)
        | (go_at_call 38; (with_reducible refine (hrf _ hk).mono ?_); rintro e w12 ⟨aX, nX, cX, rfl, oX, hb9⟩; have hR9 := hR.next hb9)
        | ((with_reducible refine qaz rfl _ _ _ rfl R rfl _ rfl zW hR9 (hz2 _) (hs2 _) (h12 aX nX cX) ?_); intro W13 hR13 q13))
       refine bodyPost_ret (qPz results16 rfl rfl hR13 rfl) rfl ?_
       have hE : ER = 4 := by rw [← hER.out]; unfold movE; rw [if_neg (by rw [hb1, hb2]; decide), if_neg (fun c => c hj), if_neg (by rw [hb4]; decide), if_pos (.inr hm2)]
       have hY : YR = X := by rw [← hYR.out]; unfold movX; rw [hER.out, hE]; rfl
       rw [hE, hY]
       exact ⟨aX, nX, cX, rfl, (ObsN.store oX q13 hR.lt (fun b hb => by have := hD b hb; have := hRw.out; omega)).low hk.size, q13.below _ _ hRw.out (btz hk hb9)⟩
      ·have hm : Hid (-4096 ≤ m ∧ m ≤ 4096) := by refine (⟨?_, ?_⟩ : _ ∧ _) <;> omega
       have hwr : IntKind.i64.wrap (q + m) = q + m := by rw [IntKind.wrap_i64]; omega
       go_enter func16, ntmps16
       go_wp2_with (first
        | go_skip
        | (with_reducible refine qdz rfl 25 _ rfl G rfl ?_; intro B3 W3 hN3 hB3 hk)
        | ((with_reducible refine qcz rfl 25 rfl zW qNz ?_); intro R W6 hN6 hR hk6; have hRw : Hid (w.heap.size ≤ R) := (by have := hN6.out; have := hk.size; refine (?_ : w.heap.size ≤ R); omega); replace hB3 := hB3.next hk6; replace hk := btz hk hk6; clear hN3 hN6)
        | (with_reducible refine qez (by kernel_rfl) 25 _ rfl B3 rfl G hB3 _ underlying25 (by kernel_rfl) hzw ?_)
        | ((with_reducible refine qpz (by kernel_rfl) _ [(0, .tmp 17)] rfl G ?hf ?_); (case hf => exact hbt))
        | ((with_reducible refine qcz rfl 74 rfl #[.int .i64 0, .int .u64 0, .int .u64 0, .slice none 0 0] Tryz.zeroValue74 ?_); intro B8 W8 hN8 hR8 hk8)
        | ((with_reducible refine qaz rfl _ _ _ rfl B8 rfl G rfl _ hR8 hzv hz4 h14 ?_); intro V8 hB8 o8; have hb8 : Below W6.heap.size W6 V8 := o8.below W6.heap.size W6 (by have := hN8.out; omega) hk8; replace hB3 := hB3.next hb8; replace hR := hR.next hb8; replace hk := btz hk hb8; clear hN8 hR8 hk8 o8 hb8)
        | (with_reducible refine qez (by kernel_rfl) 74 _ rfl B8 rfl G hB8 _ underlying74 (by kernel_rfl) hzv ?_)
        | (go_at_call 37; have hx := hP9; (with_reducible refine (hf2 _ hk).mono ?_); rintro e w11 ⟨rfl, hb8⟩; replace hB3 := hB3.next hb8; replace hR := hR.next hb8; replace hB8 := hB8.next hb8; replace hP9 := hP9.next hb8; replace hk := btz hk hb8; clear hb8 hx)
        | (go_at_call 37; (with_reducible refine (hf1 _ hk).mono ?_); rintro e w9 ⟨rfl, hb8⟩; replace hB3 := hB3.next hb8; replace hR := hR.next hb8; replace hB8 := hB8.next hb8; replace hk := btz hk hb8; clear hb8)
        | ((with_reducible refine qcz rfl 43 rfl zC qqz ?_); have hx := hP9; intro P11 W11 hN11 hP11a hk11; have hPw2 : Hid (w.heap.size ≤ P11 ∧ B3 ≠ P11 ∧ R ≠ P11 ∧ B8 ≠ P11 ∧ P9 ≠ P11) := (by have := hN11.out; have := hk.size; have := hB3.lt; have := hR.lt; have := hB8.lt; have := hP9.lt; refine (⟨?_, ?_, ?_, ?_, ?_⟩ : _ ∧ _ ∧ _ ∧ _ ∧ _) <;> omega); clear hx)
        | ((with_reducible refine qcz rfl 43 rfl zC qqz ?_); intro P9 W9 hN9 hP9a hk9; have hPw : Hid (w.heap.size ≤ P9 ∧ B3 ≠ P9 ∧ R ≠ P9) := (by have := hN9.out; have := hk.size; have := hB3.lt; have := hR.lt; refine (⟨?_, ?_, ?_⟩ : _ ∧ _ ∧ _) <;> omega))
        | ((with_reducible refine qaz rfl _ _ _ rfl P9 rfl C1 rfl zC hP9a (qfz hz1) (qmz.trans hz1.symm) h1c ?_); intro V9 hP9 q9; have hb8 : Below w9.heap.size w9 V9 := q9.below w9.heap.size w9 (by have := hN9.out; omega) hk9; replace hB3 := hB3.next hb8; replace hR := hR.next hb8; replace hB8 := hB8.next hb8; replace hk := btz hk hb8; clear hN9 hP9a hk9 q9 hb8)
        | ((with_reducible refine qaz rfl _ _ _ rfl P11 rfl C2 rfl zC hP11a (qfz hz3) (qmz.trans hz3.symm) h3c ?_); intro V11 hP11 q11; have hb8 : Below w11.heap.size w11 V11 := q11.below w11.heap.size w11 (by have := hN11.out; omega) hk11; replace hB3 := hB3.next hb8; replace hR := hR.next hb8; replace hB8 := hB8.next hb8; replace hP9 := hP9.next hb8; replace hk := btz hk hb8; clear hN11 hP11a hk11 q11 hb8)
        | (with_reducible refine qbz (by kernel_rfl) _ _ rfl P9 _ rfl _ _ hP9 _ d5 isAgg28 ?_)
        | (go_at_call 43; (with_reducible refine (hct _ hk).mono ?_); rintro e w14 ⟨rfl, hb8⟩; replace hB3 := hB3.next hb8; replace hR := hR.next hb8; replace hB8 := hB8.next hb8; replace hP9 := hP9.next hb8; replace hP11 := hP11.next hb8; replace hk := btz hk hb8; clear hb8)
        | (with_reducible refine qbz (by kernel_rfl) _ _ rfl P11 _ rfl _ _ hP11 _ z4 isAgg4 ?_)
        | ((with_reducible refine qgz (by kernel_rfl) .lss 3 _ _ _ rfl (.int .i64 m) (.int .i64 (-4096)) rfl rfl (qWz _ _ _ _ _ _) ?_ ?_) <;> first | (intro f1; exfalso; have h1 := f1.out; have h2 := hm.out; omega) | intro f1)
        | ((with_reducible refine qgz (by kernel_rfl) .gtr 3 _ _ _ rfl (.int .i64 m) (.int .i64 4096) rfl rfl (qAz _ _ _ _ _ _) ?_ ?_) <;> first | (intro f2; exfalso; have h1 := f2.out; have h2 := hm.out; omega) | intro f2))
       refine PgM.region_out (S := fun W => Below w14.heap.size w14 W) hmx ((Below.refl _ _).drew) (fun hS => ?_)
       generalize w14.drew = v14 at hS ⊢
       refine qiz (by kernel_rfl) (fun _ _ _ _ _ h => h) hS [(0, some (.agg G)), (1, some (.agg C1)), (3, some (.agg G)), (4, some (.agg C2))] (l' := #[tt, tt, ff, tt, tt, ff, ff, ff]) (a' := { tmps := #[.agg G, .int .u64 i, .int .u64 j, .int .i64 m, .pointer (some ⟨B3, 0, none⟩), undef, undef, undef, .pointer (some ⟨R, 0, none⟩), .int .i64 0, .pointer (some ⟨B8, 0, none⟩), .pointer (some ⟨P9, 0, none⟩), .bool true, .pointer (some ⟨P11, 0, none⟩), .bool true, undef, undef, .agg G, .agg G, .tuple #[.agg C1, .bool true], .agg G, .int .u64 i, .tuple #[.agg C1, .bool true], .agg C1, .bool true, .tuple #[.agg C2, .bool true], .agg G, .int .u64 j, .tuple #[.agg C2, .bool true], .agg C2, .bool true, .bool false, .bool true, .bool false, .bool false, .bool true, .bool false, .bool false, .bool false, .pointer (some ⟨P9, 5, none⟩), .slice al nl cl, .int .u64 j, .bool true, .bool false, .bool false, undef, undef, undef, undef, .bool false, .pointer (some ⟨P11, 4, none⟩), .bool false, undef, undef, undef, undef, .bool false, .int .i64 m, .bool false, .bool false, .int .i64 m, .bool false, .bool false, undef, undef, undef, undef, .agg G, .agg C1, undef, .agg G, .agg C2, undef, undef, undef, undef, undef, undef, undef, undef, undef, undef, undef, undef, undef, undef, undef, undef, undef, undef, undef, undef, undef, undef, undef, undef, undef, undef, undef, undef], defers := [] }) (obs := [.load 74 B8 0 (.agg G), .load 43 P9 0 (.agg C1), .load 74 B8 0 (.agg G), .load 43 P11 0 (.agg C2)]) (n := 4) (by kernel_rfl) (by kernel_rfl) ⟨qwz (fun _ h => hB8.next h) underlying74 (by kernel_rfl) hzv, qwz (fun _ h => hP9.next h) underlying43 (by kernel_rfl) (qfz hz1), qwz (fun _ h => hB8.next h) underlying74 (by kernel_rfl) hzv, qwz (fun _ h => hP11.next h) underlying43 (by kernel_rfl) (qfz hz3), trivial⟩ ?_
       refine qnz (i := 2) (fuel := 3) (f := 47) (vs := [.agg G, .agg C1]) (d := some 69) (by kernel_rfl) (by kernel_rfl) (by kernel_rfl) call47 (hrm _ (btz hk hS)) ?_
       rintro e v15 ⟨rfl, hbv15⟩
       have hSv15 : Below w14.heap.size w14 v15 := btz hS hbv15
       refine ⟨_, rfl, hSv15, ?_⟩
       refine qnz (i := 5) (fuel := 2) (f := 48) (vs := [.agg G, .agg C2]) (d := some 72) (by kernel_rfl) (by kernel_rfl) (by kernel_rfl) call48 (hus _ (btz hk hSv15)) ?_
       rintro e v16 ⟨rfl, hbv16⟩
       have hSv16 : Below w14.heap.size w14 v16 := btz hSv15 hbv16
       refine ⟨_, rfl, hSv16, ?_⟩
       refine qiz (by kernel_rfl) (fun _ _ _ _ _ h => h) hSv16 [(6, none), (7, none)] (l' := #[tt, tt, tt, tt, tt, tt, tt, tt]) (a' := { tmps := #[.agg G, .int .u64 i, .int .u64 j, .int .i64 m, .pointer (some ⟨B3, 0, none⟩), undef, undef, undef, .pointer (some ⟨R, 0, none⟩), .int .i64 0, .pointer (some ⟨B8, 0, none⟩), .pointer (some ⟨P9, 0, none⟩), .bool true, .pointer (some ⟨P11, 0, none⟩), .bool true, .int .i64 rm, .int .i64 us, .agg G, .agg G, .tuple #[.agg C1, .bool true], .agg G, .int .u64 i, .tuple #[.agg C1, .bool true], .agg C1, .bool true, .tuple #[.agg C2, .bool true], .agg G, .int .u64 j, .tuple #[.agg C2, .bool true], .agg C2, .bool true, .bool false, .bool true, .bool false, .bool false, .bool true, .bool false, .bool false, .bool false, .pointer (some ⟨P9, 5, none⟩), .slice al nl cl, .int .u64 j, .bool true, .bool false, .bool false, undef, undef, undef, undef, .bool false, .pointer (some ⟨P11, 4, none⟩), .bool false, undef, undef, undef, undef, .bool false, .int .i64 m, .bool false, .bool false, .int .i64 m, .bool false, .bool false, undef, undef, undef, undef, .agg G, .agg C1, .int .i64 rm, .agg G, .agg C2, .int .i64 us, undef, undef, undef, undef, undef, undef, undef, undef, undef, undef, undef, undef, undef, undef, undef, undef, undef, undef, undef, undef, undef, undef, undef, undef, undef, undef, undef], defers := [] }) (obs := []) (n := 0) (by kernel_rfl) (by kernel_rfl) trivial ?_
       refine wpAnyH_done (by kernel_rfl) ?_ _
       replace hB3 := hB3.next hSv16
       replace hR := hR.next hSv16
       replace hB8 := hB8.next hSv16
       replace hP9 := hP9.next hSv16
       replace hP11 := hP11.next hSv16
       replace hk := btz hk hSv16
       clear hS hSv15 hSv16 hbv15 hbv16
       by_cases c1 : rm < m
       ·have hc : Hid (rm < m) := c1
        go_wp2_with (first
         | go_skip
         | (with_reducible refine qbz (by kernel_rfl) _ _ rfl P11 _ rfl _ _ hP11 _ z3 isAgg3 ?_)
         | ((with_reducible refine qjz rfl _ _ _ rfl P11 3 rfl (.int .i64 (q + m)) rfl rfl C2 _ hP11 sizeN (by rw [hz3]; omega) rfl ?_); intro V17 hQn q17; rw [← hqe.out, hCn.out] at hQn; replace hB3 := hB3.other q17 hPw2.out.2.1; replace hR := hR.other q17 hPw2.out.2.2.1; replace hB8 := hB8.other q17 hPw2.out.2.2.2.1; replace hk := q17.below _ _ hPw2.out.1 hk; clear hP11; have hQ11 := hQn)
         | (with_reducible refine qbz (by kernel_rfl) _ _ rfl P11 _ rfl _ _ hQ11 _ hn3 isAgg3 ?_)
         | ((with_reducible refine qgz (by kernel_rfl) .gtr 3 _ _ _ rfl (.int .i64 m) _ rfl rfl (qAz _ _ _ _ _ _) ?_ ?_) <;> first | (intro g1; exfalso; have h1 := g1.out; have h2 := hc.out; omega) | intro g1)
         | ((with_reducible refine qgz (by kernel_rfl) .lss 3 _ _ _ rfl (.int .i64 (q + m)) _ rfl rfl (qWz _ _ _ _ _ _) ?_ ?_) <;> first | (intro g2; exfalso; have h1 := g2.out; have h2 := hc.out; omega) | intro g2)
         | ((with_reducible refine qgz (by kernel_rfl) .gtr 3 _ _ _ rfl (.int .i64 (q + m)) _ rfl rfl (qAz _ _ _ _ _ _) ?_ ?_) <;> first | (intro g3; exfalso; have h1 := g3.out; have h2 := hc.out; omega) | intro g3)
         | (with_reducible refine qez (by kernel_rfl) 74 _ rfl B8 rfl G hB8 _ underlying74 (by kernel_rfl) hzv ?_)
         | (go_at_call 38; (with_reducible refine (hrf _ hk).mono ?_); rintro e w12 ⟨aX, nX, cX, rfl, oX, hb9⟩; have hR9 := hR.next hb9)
         | ((with_reducible refine qaz rfl _ _ _ rfl R rfl _ rfl zW hR9 (hz2 _) (hs2 _) (h12 aX nX cX) ?_); intro W13 hR13 q13))
        all_goals
         refine bodyPost_ret (qPz results16 rfl rfl hR13 rfl) rfl ?_
         have hE : ER = 5 := by rw [← hER.out]; unfold movE; rw [if_neg (by rw [hb1, hb2]; decide), if_neg (fun c => c hj), if_neg (by rw [hb4]; decide), if_neg (by have := hm.out; omega), if_pos (by rw [hrme.out, huse.out, hqe.out]; have h2 := hc.out; omega)]
         have hY : YR = X := by rw [← hYR.out]; unfold movX; rw [hER.out, hE]; rfl
         rw [hE, hY]
         exact ⟨aX, nX, cX, rfl, (ObsN.store oX q13 hR.lt (fun b hb => by have := hD b hb; have := hRw.out; omega)).low hk.size, q13.below _ _ hRw.out (btz hk hb9)⟩
       ·by_cases c2 : q + m < max us 1
        ·have hc : Hid (¬ rm < m ∧ q + m < max us 1) := ⟨c1, c2⟩
         go_wp2_with (first
          | go_skip
          | (with_reducible refine qbz (by kernel_rfl) _ _ rfl P11 _ rfl _ _ hP11 _ z3 isAgg3 ?_)
          | ((with_reducible refine qjz rfl _ _ _ rfl P11 3 rfl (.int .i64 (q + m)) rfl rfl C2 _ hP11 sizeN (by rw [hz3]; omega) rfl ?_); intro V17 hQn q17; rw [← hqe.out, hCn.out] at hQn; replace hB3 := hB3.other q17 hPw2.out.2.1; replace hR := hR.other q17 hPw2.out.2.2.1; replace hB8 := hB8.other q17 hPw2.out.2.2.2.1; replace hk := q17.below _ _ hPw2.out.1 hk; clear hP11; have hQ11 := hQn)
          | (with_reducible refine qbz (by kernel_rfl) _ _ rfl P11 _ rfl _ _ hQ11 _ hn3 isAgg3 ?_)
          | ((with_reducible refine qgz (by kernel_rfl) .gtr 3 _ _ _ rfl (.int .i64 m) _ rfl rfl (qAz _ _ _ _ _ _) ?_ ?_) <;> first | (intro g1; exfalso; have h1 := g1.out; have h2 := hc.out; omega) | intro g1)
          | ((with_reducible refine qgz (by kernel_rfl) .lss 3 _ _ _ rfl (.int .i64 (q + m)) _ rfl rfl (qWz _ _ _ _ _ _) ?_ ?_) <;> first | (intro g2; exfalso; have h1 := g2.out; have h2 := hc.out; omega) | intro g2)
          | ((with_reducible refine qgz (by kernel_rfl) .gtr 3 _ _ _ rfl (.int .i64 (q + m)) _ rfl rfl (qAz _ _ _ _ _ _) ?_ ?_) <;> first | (intro g3; exfalso; have h1 := g3.out; have h2 := hc.out; omega) | intro g3)
          | (with_reducible refine qez (by kernel_rfl) 74 _ rfl B8 rfl G hB8 _ underlying74 (by kernel_rfl) hzv ?_)
          | (go_at_call 38; (with_reducible refine (hrf _ hk).mono ?_); rintro e w12 ⟨aX, nX, cX, rfl, oX, hb9⟩; have hR9 := hR.next hb9)
          | ((with_reducible refine qaz rfl _ _ _ rfl R rfl _ rfl zW hR9 (hz2 _) (hs2 _) (h12 aX nX cX) ?_); intro W13 hR13 q13))
         all_goals
          refine bodyPost_ret (qPz results16 rfl rfl hR13 rfl) rfl ?_
          have hE : ER = 5 := by rw [← hER.out]; unfold movE; rw [if_neg (by rw [hb1, hb2]; decide), if_neg (fun c => c hj), if_neg (by rw [hb4]; decide), if_neg (by have := hm.out; omega), if_pos (by rw [hrme.out, huse.out, hqe.out]; have h2 := hc.out; omega)]
          have hY : YR = X := by rw [← hYR.out]; unfold movX; rw [hER.out, hE]; rfl
          rw [hE, hY]
          exact ⟨aX, nX, cX, rfl, (ObsN.store oX q13 hR.lt (fun b hb => by have := hD b hb; have := hRw.out; omega)).low hk.size, q13.below _ _ hRw.out (btz hk hb9)⟩
        ·by_cases c3 : 4096 < q + m
         ·have hc : Hid (¬ rm < m ∧ ¬ q + m < max us 1 ∧ 4096 < q + m) := ⟨c1, c2, c3⟩
          go_wp2_with (first
           | go_skip
           | (with_reducible refine qbz (by kernel_rfl) _ _ rfl P11 _ rfl _ _ hP11 _ z3 isAgg3 ?_)
           | ((with_reducible refine qjz rfl _ _ _ rfl P11 3 rfl (.int .i64 (q + m)) rfl rfl C2 _ hP11 sizeN (by rw [hz3]; omega) rfl ?_); intro V17 hQn q17; rw [← hqe.out, hCn.out] at hQn; replace hB3 := hB3.other q17 hPw2.out.2.1; replace hR := hR.other q17 hPw2.out.2.2.1; replace hB8 := hB8.other q17 hPw2.out.2.2.2.1; replace hk := q17.below _ _ hPw2.out.1 hk; clear hP11; have hQ11 := hQn)
           | (with_reducible refine qbz (by kernel_rfl) _ _ rfl P11 _ rfl _ _ hQ11 _ hn3 isAgg3 ?_)
           | ((with_reducible refine qgz (by kernel_rfl) .gtr 3 _ _ _ rfl (.int .i64 m) _ rfl rfl (qAz _ _ _ _ _ _) ?_ ?_) <;> first | (intro g1; exfalso; have h1 := g1.out; have h2 := hc.out; omega) | intro g1)
           | ((with_reducible refine qgz (by kernel_rfl) .lss 3 _ _ _ rfl (.int .i64 (q + m)) _ rfl rfl (qWz _ _ _ _ _ _) ?_ ?_) <;> first | (intro g2; exfalso; have h1 := g2.out; have h2 := hc.out; omega) | intro g2)
           | ((with_reducible refine qgz (by kernel_rfl) .gtr 3 _ _ _ rfl (.int .i64 (q + m)) _ rfl rfl (qAz _ _ _ _ _ _) ?_ ?_) <;> first | (intro g3; exfalso; have h1 := g3.out; have h2 := hc.out; omega) | intro g3)
           | (with_reducible refine qez (by kernel_rfl) 74 _ rfl B8 rfl G hB8 _ underlying74 (by kernel_rfl) hzv ?_)
           | (go_at_call 38; (with_reducible refine (hrf _ hk).mono ?_); rintro e w12 ⟨aX, nX, cX, rfl, oX, hb9⟩; have hR9 := hR.next hb9)
           | ((with_reducible refine qaz rfl _ _ _ rfl R rfl _ rfl zW hR9 (hz2 _) (hs2 _) (h12 aX nX cX) ?_); intro W13 hR13 q13))
          all_goals
           refine bodyPost_ret (qPz results16 rfl rfl hR13 rfl) rfl ?_
           have hE : ER = 5 := by rw [← hER.out]; unfold movE; rw [if_neg (by rw [hb1, hb2]; decide), if_neg (fun c => c hj), if_neg (by rw [hb4]; decide), if_neg (by have := hm.out; omega), if_pos (by rw [hrme.out, huse.out, hqe.out]; have h2 := hc.out; omega)]
           have hY : YR = X := by rw [← hYR.out]; unfold movX; rw [hER.out, hE]; rfl
           rw [hE, hY]
           exact ⟨aX, nX, cX, rfl, (ObsN.store oX q13 hR.lt (fun b hb => by have := hD b hb; have := hRw.out; omega)).low hk.size, q13.below _ _ hRw.out (btz hk hb9)⟩
         ·have hc : Hid (¬ rm < m ∧ ¬ q + m < max us 1 ∧ ¬ 4096 < q + m) := ⟨c1, c2, c3⟩
          go_wp2_with (first
           | go_skip
           | (with_reducible refine qbz (by kernel_rfl) _ _ rfl P11 _ rfl _ _ hP11 _ z3 isAgg3 ?_)
           | ((with_reducible refine qjz rfl _ _ _ rfl P11 3 rfl (.int .i64 (q + m)) rfl rfl C2 _ hP11 sizeN (by rw [hz3]; omega) rfl ?_); intro V17 hQn q17; rw [← hqe.out, hCn.out] at hQn; replace hB3 := hB3.other q17 hPw2.out.2.1; replace hR := hR.other q17 hPw2.out.2.2.1; replace hB8 := hB8.other q17 hPw2.out.2.2.2.1; replace hk := q17.below _ _ hPw2.out.1 hk; clear hP11; have hQ11 := hQn)
           | (with_reducible refine qbz (by kernel_rfl) _ _ rfl P11 _ rfl _ _ hQ11 _ hn3 isAgg3 ?_)
           | ((with_reducible refine qgz (by kernel_rfl) .gtr 3 _ _ _ rfl (.int .i64 m) _ rfl rfl (qAz _ _ _ _ _ _) ?_ ?_) <;> first | (intro g1; exfalso; have h1 := g1.out; have h2 := hc.out; omega) | intro g1)
           | ((with_reducible refine qgz (by kernel_rfl) .lss 3 _ _ _ rfl (.int .i64 (q + m)) _ rfl rfl (qWz _ _ _ _ _ _) ?_ ?_) <;> first | (intro g2; exfalso; have h1 := g2.out; have h2 := hc.out; omega) | intro g2)
           | ((with_reducible refine qgz (by kernel_rfl) .gtr 3 _ _ _ rfl (.int .i64 (q + m)) _ rfl rfl (qAz _ _ _ _ _ _) ?_ ?_) <;> first | (intro g3; exfalso; have h1 := g3.out; have h2 := hc.out; omega) | intro g3)
           | (with_reducible refine qez (by kernel_rfl) 25 _ rfl B3 rfl G hB3 _ underlying25 (by kernel_rfl) hzw ?_)
           | (with_reducible refine qez (by kernel_rfl) 43 _ rfl P11 rfl Cn hQ11 _ underlying43 (by kernel_rfl) (qfz hzn) ?_)
           | (go_at_call 46; (with_reducible refine (hpu _ hk).mono ?_); rintro e w12 ⟨aX, nX, cX, rfl, oX, hb9⟩; have hR9 := hR.next hb9)
           | ((with_reducible refine qaz rfl _ _ _ rfl R rfl _ rfl zW hR9 (hz2 _) (hs2 _) (h12 aX nX cX) ?_); intro W13 hR13 q13))
          all_goals
           refine bodyPost_ret (qPz results16 rfl rfl hR13 rfl) rfl ?_
           have hE : ER = 0 := by rw [← hER.out]; unfold movE; rw [if_neg (by rw [hb1, hb2]; decide), if_neg (fun c => c hj), if_neg (by rw [hb4]; decide), if_neg (by have := hm.out; omega), if_neg (by rw [hrme.out, huse.out, hqe.out]; have h2 := hc.out; omega)]
           have hY : YR = puR X { fO X j with quota := (fO X j).quota + m } := by rw [← hYR.out]; unfold movX; rw [hER.out, hE]; rfl
           rw [hE, hY]
           exact ⟨aX, nX, cX, rfl, (ObsN.store oX q13 hR.lt (fun b hb => by have := hD b hb; have := hRw.out; omega)).low hk.size, q13.below _ _ hRw.out (btz hk hb9)⟩
   ·replace hct := fun W hk => (hct W hk).no hj
    go_enter func16, ntmps16
    go_wp2_with (first
     | go_skip
     | (with_reducible refine qdz rfl 25 _ rfl G rfl ?_; intro B3 W3 hN3 hB3 hk)
     | ((with_reducible refine qcz rfl 25 rfl zW qNz ?_); intro R W6 hN6 hR hk6; have hRw : Hid (w.heap.size ≤ R) := (by have := hN6.out; have := hk.size; refine (?_ : w.heap.size ≤ R); omega); replace hB3 := hB3.next hk6; replace hk := btz hk hk6; clear hN3 hN6)
     | (with_reducible refine qez (by kernel_rfl) 25 _ rfl B3 rfl G hB3 _ underlying25 (by kernel_rfl) hzw ?_)
     | ((with_reducible refine qpz (by kernel_rfl) _ [(0, .tmp 17)] rfl G ?hf ?_); (case hf => exact hbt))
     | ((with_reducible refine qcz rfl 74 rfl #[.int .i64 0, .int .u64 0, .int .u64 0, .slice none 0 0] Tryz.zeroValue74 ?_); intro B8 W8 hN8 hR8 hk8)
     | ((with_reducible refine qaz rfl _ _ _ rfl B8 rfl G rfl _ hR8 hzv hz4 h14 ?_); intro V8 hB8 o8; have hb8 : Below W6.heap.size W6 V8 := o8.below W6.heap.size W6 (by have := hN8.out; omega) hk8; replace hB3 := hB3.next hb8; replace hR := hR.next hb8; replace hk := btz hk hb8; clear hN8 hR8 hk8 o8 hb8)
     | (with_reducible refine qez (by kernel_rfl) 74 _ rfl B8 rfl G hB8 _ underlying74 (by kernel_rfl) hzv ?_)
     | (go_at_call 37; have hx := hP9; (with_reducible refine (hf2 _ hk).mono ?_); rintro e w11 ⟨rfl, hb8⟩; replace hB3 := hB3.next hb8; replace hR := hR.next hb8; replace hB8 := hB8.next hb8; replace hP9 := hP9.next hb8; replace hk := btz hk hb8; clear hb8 hx)
     | (go_at_call 37; (with_reducible refine (hf1 _ hk).mono ?_); rintro e w9 ⟨rfl, hb8⟩; replace hB3 := hB3.next hb8; replace hR := hR.next hb8; replace hB8 := hB8.next hb8; replace hk := btz hk hb8; clear hb8)
     | ((with_reducible refine qcz rfl 43 rfl zC qqz ?_); have hx := hP9; intro P11 W11 hN11 hP11a hk11; have hPw2 : Hid (w.heap.size ≤ P11 ∧ B3 ≠ P11 ∧ R ≠ P11 ∧ B8 ≠ P11 ∧ P9 ≠ P11) := (by have := hN11.out; have := hk.size; have := hB3.lt; have := hR.lt; have := hB8.lt; have := hP9.lt; refine (⟨?_, ?_, ?_, ?_, ?_⟩ : _ ∧ _ ∧ _ ∧ _ ∧ _) <;> omega); clear hx)
     | ((with_reducible refine qcz rfl 43 rfl zC qqz ?_); intro P9 W9 hN9 hP9a hk9; have hPw : Hid (w.heap.size ≤ P9 ∧ B3 ≠ P9 ∧ R ≠ P9) := (by have := hN9.out; have := hk.size; have := hB3.lt; have := hR.lt; refine (⟨?_, ?_, ?_⟩ : _ ∧ _ ∧ _) <;> omega))
     | ((with_reducible refine qaz rfl _ _ _ rfl P9 rfl C1 rfl zC hP9a (qfz hz1) (qmz.trans hz1.symm) h1c ?_); intro V9 hP9 q9; have hb8 : Below w9.heap.size w9 V9 := q9.below w9.heap.size w9 (by have := hN9.out; omega) hk9; replace hB3 := hB3.next hb8; replace hR := hR.next hb8; replace hB8 := hB8.next hb8; replace hk := btz hk hb8; clear hN9 hP9a hk9 q9 hb8)
     | ((with_reducible refine qaz rfl _ _ _ rfl P11 rfl C2 rfl zC hP11a (qfz hz3) (qmz.trans hz3.symm) h3c ?_); intro V11 hP11 q11; have hb8 : Below w11.heap.size w11 V11 := q11.below w11.heap.size w11 (by have := hN11.out; omega) hk11; replace hB3 := hB3.next hb8; replace hR := hR.next hb8; replace hB8 := hB8.next hb8; replace hP9 := hP9.next hb8; replace hk := btz hk hb8; clear hN11 hP11a hk11 q11 hb8)
     | (with_reducible refine qbz (by kernel_rfl) _ _ rfl P9 _ rfl _ _ hP9 _ d5 isAgg28 ?_)
     | (go_at_call 43; (with_reducible refine (hct _ hk).mono ?_); rintro e w14 ⟨rfl, hb8⟩; replace hB3 := hB3.next hb8; replace hR := hR.next hb8; replace hB8 := hB8.next hb8; replace hP9 := hP9.next hb8; replace hP11 := hP11.next hb8; replace hk := btz hk hb8; clear hb8)
     | (go_at_call 38; (with_reducible refine (hrf _ hk).mono ?_); rintro e w12 ⟨aX, nX, cX, rfl, oX, hb9⟩; have hR9 := hR.next hb9)
     | ((with_reducible refine qaz rfl _ _ _ rfl R rfl _ rfl zW hR9 (hz2 _) (hs2 _) (h12 aX nX cX) ?_); intro W13 hR13 q13))
    refine bodyPost_ret (qPz results16 rfl rfl hR13 rfl) rfl ?_
    have hE : ER = 1 := by rw [← hER.out]; unfold movE; rw [if_neg (by rw [hb1, hb2]; decide), if_pos hj]
    have hY : YR = X := by rw [← hYR.out]; unfold movX; rw [hER.out, hE]; rfl
    rw [hE, hY]
    exact ⟨aX, nX, cX, rfl, (ObsN.store oX q13 hR.lt (fun b hb => by have := hD b hb; have := hRw.out; omega)).low hk.size, q13.below _ _ hRw.out (btz hk hb9)⟩
end
section
theorem k5z {X : List Ob} {i : Int} {x : Ob} (h : fnd X i = some x) : qOf X i = x.quota := by unfold qOf; rw [h]
theorem xGz {X : List Ob} {i : Int} {x : Ob} (h : fnd X i = some x) : fO X i = x := by unfold fO; rw [h]; rfl
theorem ins_sum (L : List Int) (i : Int) (f : Int → Int) : ((insW L i).map f).sum = (L.map f).sum + f i := by
 unfold insW
 rw [List.map_append, List.map_cons, List.sum_append_int, List.sum_cons]
 conv => rhs; rw [← List.take_append_drop (ahW L i) L, List.map_append, List.sum_append_int]
 omega
theorem ins_mem {L : List Int} {i j : Int} : j ∈ insW L i ↔ j = i ∨ j ∈ L := by
 unfold insW
 rw [List.mem_append, List.mem_cons]
 conv => rhs; rw [← List.take_append_drop (ahW L i) L, List.mem_append]
 constructor
 ·rintro (h | h | h)
  ·exact .inr (.inl h)
  ·exact .inl h
  ·exact .inr (.inr h)
 ·rintro (h | h | h)
  ·exact .inr (.inl h)
  ·exact .inl h
  ·exact .inr (.inr h)
theorem ins_len (L : List Int) (i : Int) : (insW L i).length = L.length + 1 := by
 unfold insW
 rw [List.length_append, List.length_cons]
 conv => rhs; rw [← List.take_append_drop (ahW L i) L, List.length_append]
 omega
theorem ubz {j m : Int} {f : Int → Int} : ∀ {L : List Int}, L.Nodup → (L.map fun i => if i = j then f i + m else f i).sum = (L.map f).sum + (if j ∈ L then m else 0)
 | [], _ => by simp
 | a :: L, h => by
  have ih := ubz (j := j) (m := m) (f := f) (List.nodup_cons.1 h).2
  have hn := (List.nodup_cons.1 h).1
  rw [List.map_cons, List.sum_cons, List.map_cons, List.sum_cons, ih]
  by_cases e : a = j
  ·subst e
   rw [if_pos rfl, if_neg hn, if_pos (List.mem_cons_self ..)]; omega
  ·rw [if_neg e]
   by_cases q : j ∈ L
   ·rw [if_pos q, if_pos (List.mem_cons_of_mem _ q)]; omega
   ·rw [if_neg q, if_neg (fun r => by rcases List.mem_cons.1 r with r | r; exact e r.symm; exact q r)]; omega
theorem ysz {X Y : List Ob} {c : Ob} (h : ∀ l ∈ c.links, qOf Y l = qOf X l) : useV Y c = useV X c := by
 unfold useV
 rw [List.map_congr_left h]
section
variable {X : List Ob} {o d : Ob}
abbrev layY (X : List Ob) (d o : Ob) : List Ob := puR (puR X o) { d with links := insW d.links o.id }
theorem jdz (hs : Srt X) (hne : o.id ≠ d.id) (i : Int) : fnd (layY X d o) i = if i = d.id then some { d with links := insW d.links o.id } else if i = o.id then some o else fnd X i := by
 by_cases e : i = d.id
 ·rw [if_pos e, e]; exact kqz (wCz hs o) { d with links := insW d.links o.id }
 ·rw [if_neg e, xdz (wCz hs o) (o := { d with links := insW d.links o.id }) e]
  by_cases e2 : i = o.id
  ·rw [if_pos e2, e2]; exact kqz hs o
  ·rw [if_neg e2]; exact xdz hs e2
theorem lay_q (hs : Srt X) (hd : fnd X d.id = some d) (hne : o.id ≠ d.id) (ho : fnd X o.id = none ∨ fnd X o.id = some o) {l : Int} (hl : (fnd X l).isSome = true) : qOf (layY X d o) l = qOf X l := by
 unfold qOf
 rw [jdz hs hne]
 by_cases e : l = d.id
 ·rw [if_pos e, e, hd]
 ·rw [if_neg e]
  by_cases e2 : l = o.id
  ·rw [if_pos e2]
   rw [e2] at hl ⊢
   rcases ho with ho | ho
   ·rw [ho] at hl; cases hl
   ·rw [ho]
  ·rw [if_neg e2]
theorem lay_use (hs : Srt X) (hlk : ∀ c ∈ X, ∀ l ∈ c.links, (fnd X l).isSome = true) (hd : fnd X d.id = some d) (hne : o.id ≠ d.id) (ho : fnd X o.id = none ∨ fnd X o.id = some o) {c : Ob} (hc : c ∈ X) :
  (fnd (layY X d o) c.id).isSome = true ∧ useV (layY X d o) (fO (layY X d o) c.id) = useV X c + (if c.id = d.id then o.quota else 0) := by
 have hcf : fnd X c.id = some c := (wvz hs).2 ⟨hc, rfl⟩
 have hq := fun {l : Int} (hl : (fnd X l).isSome = true) => lay_q hs hd hne ho hl
 by_cases e : c.id = d.id
 ·have hcd : c = d := by rw [e, hd] at hcf; injection hcf with q; exact q.symm
  subst hcd
  have hf : fnd (layY X c o) c.id = some { c with links := insW c.links o.id } := by rw [jdz hs hne, if_pos rfl]
  refine ⟨by rw [hf]; rfl, ?_⟩
  rw [xGz hf, if_pos rfl]
  unfold useV
  show pagO c + ((insW c.links o.id).map (qOf (layY X c o))).sum = _
  rw [ins_sum, List.map_congr_left (fun l hl => hq (hlk c hc l hl))]
  have : qOf (layY X c o) o.id = o.quota := k5z (by rw [jdz hs hne, if_neg hne, if_pos rfl])
  rw [this]
  exact (Int.add_assoc _ _ _).symm
 ·have hf : fnd (layY X d o) c.id = some c := by
   rw [jdz hs hne, if_neg e]
   by_cases e2 : c.id = o.id
   ·rw [if_pos e2]
    rcases ho with ho | ho
    ·rw [e2, ho] at hcf; cases hcf
    ·rw [e2, ho] at hcf; injection hcf with q; rw [q]
   ·rw [if_neg e2]; exact hcf
  refine ⟨by rw [hf]; rfl, ?_⟩
  rw [xGz hf, if_neg e, ysz fun l hl => hq (hlk c hc l hl)]; omega
end
theorem kSz {p : Ob → Bool} {x : Ob} : ∀ {l : List Ob}, Srt l → x ∈ l → (∀ y ∈ l, p y = true ↔ y = x) → l.filter p = [x]
 | [], _, h, _ => by cases h
 | a :: l, hs, h, hp => by
  have hs' := List.pairwise_cons.1 hs
  rcases List.mem_cons.1 h with rfl | h
  ·rw [List.filter_cons_of_pos ((hp x (List.mem_cons_self ..)).2 rfl)]
   congr 1
   rw [List.filter_eq_nil_iff]
   intro y hy q
   have e := (hp y (List.mem_cons_of_mem _ hy)).1 q
   have := hs'.1 y hy
   rw [e] at this; omega
  ·have hne : a ≠ x := fun e => by have := hs'.1 x h; rw [e] at this; omega
   rw [List.filter_cons_of_neg (fun q => hne ((hp a (List.mem_cons_self ..)).1 q))]
   exact kSz hs'.2 h fun y hy => hp y (List.mem_cons_of_mem _ hy)
theorem hol_len {t : Int} {key : Nat} {ro : Int} {X : List Ob} (h : fitD t key ro X = true) {o : Ob} (ho : o ∈ X) (hf : o.fixed = false) : (holL X o.id).length ≤ 1 := by
 unfold fitD at h
 simp only [Bool.and_eq_true] at h
 have hlp := h.2.1
 rw [gCz (p := fun o => lnkB X o && plaB X ro o)] at hlp
 have h2 := hlp o ho
 rw [Bool.and_eq_true] at h2
 have h3 := h2.2
 unfold plaB at h3
 by_cases e : o.id = ro
 ·rw [if_pos e] at h3
  simp only [Bool.and_eq_true, decide_eq_true_eq] at h3
  omega
 ·rw [if_neg e, hf] at h3
  simp only [Bool.and_eq_true, decide_eq_true_eq, Bool.not_false, Bool.true_or, Bool.and_true, Bool.not_eq_true', decide_eq_false_iff_not] at h3
  omega
theorem hol_uniq {X : List Ob} {i : Int} (h : (holL X i).length ≤ 1) {c d : Ob} (hc : c ∈ X) (hd : d ∈ X) (ic : i ∈ c.links) (jd : i ∈ d.links) : c = d := by
 unfold holL at h
 rw [List.length_map] at h
 have m1 : c ∈ X.filter (fun d => decide (i ∈ d.links)) := List.mem_filter.2 ⟨hc, by simpa using ic⟩
 have m2 : d ∈ X.filter (fun d => decide (i ∈ d.links)) := List.mem_filter.2 ⟨hd, by simpa using jd⟩
 generalize X.filter (fun d => decide (i ∈ d.links)) = l at h m1 m2
 cases l with
 | nil => cases m1
 | cons a r =>
  have hr : r = [] := List.eq_nil_of_length_eq_zero (by rw [List.length_cons] at h; omega)
  subst hr
  rw [List.mem_singleton.1 m1, List.mem_singleton.1 m2]
theorem lay_hol {X : List Ob} {d o : Ob} (hs : Srt X) (hlk : ∀ c ∈ X, ∀ l ∈ c.links, (fnd X l).isSome = true) (hne : o.id ≠ d.id) (ho : fnd X o.id = none) (hol : o.links = []) : holL (layY X d o) o.id = [d.id] := by
 have hs' : Srt (layY X d o) := wCz (wCz hs o) _
 have hm : ({ d with links := insW d.links o.id } : Ob) ∈ layY X d o := wPz.2 (.inl rfl)
 unfold holL
 rw [kSz (x := { d with links := insW d.links o.id }) hs' hm]
 ·rfl
 ·intro y hy
  rw [decide_eq_true_iff]
  constructor
  ·intro q
   rcases wPz.1 hy with e | ⟨hy, hyd⟩
   ·exact e
   ·rcases wPz.1 hy with e | ⟨hy, hyo⟩
    ·rw [e, hol] at q; cases q
    ·have := hlk y hy _ q
     rw [ho] at this; cases this
  ·intro e
   rw [e]
   exact ins_mem.2 (.inl rfl)
theorem mov_use {X : List Ob} {x : Ob} {m : Int} (hs : Srt X) (hx : fnd X x.id = some x) (hnd : ∀ c ∈ X, c.links.Nodup) {c : Ob} (hc : c ∈ X) :
  (fnd (puR X { x with quota := x.quota + m }) c.id).isSome = true ∧ useV (puR X { x with quota := x.quota + m }) (fO (puR X { x with quota := x.quota + m }) c.id) = useV X c + (if x.id ∈ c.links then m else 0) := by
 have hcf : fnd X c.id = some c := (wvz hs).2 ⟨hc, rfl⟩
 have hq : ∀ l, qOf (puR X { x with quota := x.quota + m }) l = if l = x.id then qOf X l + m else qOf X l := by
  intro l
  by_cases e : l = x.id
  ·rw [if_pos e, e, k5z hx]
   exact k5z (kqz hs { x with quota := x.quota + m })
  ·rw [if_neg e]
   unfold qOf
   rw [xdz hs (o := { x with quota := x.quota + m }) e]
 have hu : ∀ (l : List Int), l.Nodup → (l.map (qOf (puR X { x with quota := x.quota + m }))).sum = (l.map (qOf X)).sum + (if x.id ∈ l then m else 0) := by
  intro l hl
  rw [List.map_congr_left (fun i _ => hq i)]
  exact ubz hl
 by_cases e : c.id = x.id
 ·have hcx : c = x := by rw [e, hx] at hcf; injection hcf with q; exact q.symm
  subst hcx
  have hf := kqz hs { c with quota := c.quota + m }
  replace hf : fnd (puR X { c with quota := c.quota + m }) c.id = some { c with quota := c.quota + m } := hf
  refine ⟨by rw [hf]; rfl, ?_⟩
  rw [xGz hf]
  unfold useV
  show pagO c + (c.links.map (qOf (puR X { c with quota := c.quota + m }))).sum = _
  rw [hu _ (hnd c hc)]; omega
 ·have hf : fnd (puR X { x with quota := x.quota + m }) c.id = some c := by rw [xdz hs (o := { x with quota := x.quota + m }) e]; exact hcf
  refine ⟨by rw [hf]; rfl, ?_⟩
  rw [xGz hf]
  unfold useV
  rw [hu _ (hnd c hc)]; omega
end
section
theorem xTz {X : List Ob} {ro : Int} (h : Tre X ro) : Lays X := by
 have hc := fun (x : Ob) (hx : x ∈ X) => qMz.1 (quz.1 (h.snd x hx)).1
 refine ⟨h.srt, fun x hx => wTz (h.snd x hx), ?_, fun x hx => ⟨by have := (hc x hx).2.1; omega, (hc x hx).2.2.1⟩, fun x hx => ?_, fun x hx => ?_⟩
 ·rw [x2z]
  intro x hx e
  have h1 := (hc x hx).1
  rw [e] at h1
  exact absurd h1 (by decide)
 ·have := (qxz.1 (hc x hx).2.2.2.1).1
  omega
 ·by_cases k2 : x.kind = 2
  ·have ho := (quz.1 (h.snd x hx)).2.1
   unfold ownB at ho
   rw [if_neg (by rw [k2]; decide), if_pos k2] at ho
   simp only [Bool.and_eq_true, decide_eq_true_eq] at ho
   refine ⟨?_, by omega⟩
   have h3 := ho.2.2
   unfold risB at h3
   exact of_decide_eq_true h3
  ·rw [jZz (h.snd x hx) k2]; exact ⟨List.Pairwise.nil, by decide⟩
structure Chd (X Y : List Ob) (i q : Int) : Prop where
 srt : Srt Y
 quo : ∀ x ∈ Y, 0 ≤ x.quota ∧ x.quota ≤ 4096
 sms : wbz Y
 len : Y.length ≤ X.length + 2
 ch : ∀ c ∈ X, (fnd Y c.id).isSome = true ∧ useV Y (fO Y c.id) = useV X c + (if c.id = i then q else 0)
theorem u2z {X : List Ob} {d o : Ob} (hL : Lays X) (hlk : ∀ c ∈ X, ∀ l ∈ c.links, (fnd X l).isSome = true) (hd : fnd X d.id = some d) (hne : o.id ≠ d.id) (ho : fnd X o.id = none ∨ fnd X o.id = some o) (hq : 0 ≤ o.quota ∧ o.quota ≤ 4096) (hs : Small o) : Chd X (layY X d o) d.id o.quota := by
 have hdm := ((wvz hL.srt).1 hd).1
 have hds := hL.sms d hdm
 have hd' : Small { d with links := insW d.links o.id } := ⟨hds.c2, by show (insW d.links o.id).length < _; rw [ins_len]; have := (hL.ris d hdm).2; omega, hds.c6, hds.c7, hds.c25, hds.c36, hds.c39, hds.c40, hds.c41, hds.c42, hds.c43, hds.c44, hds.c49, hds.c50⟩
 refine ⟨wCz (wCz hL.srt o) _, ?_, w7z (w7z hL.sms hs) hd', ?_, fun c hc => lay_use hL.srt hlk hd hne ho hc⟩
 ·intro x hx
  rcases wPz.1 hx with e | ⟨hx, _⟩
  ·rw [e]; exact hL.quo d hdm
  ·rcases wPz.1 hx with e | ⟨hx, _⟩
   ·rw [e]; exact hq
   ·exact hL.quo x hx
 ·have h1 := k6z X o
  have h2 := k6z (puR X o) { d with links := insW d.links o.id }
  exact Nat.le_trans h2 (by omega)
theorem goz {X : List Ob} {i : Int} (h : (fnd X i).isSome = true) : (fO X i).id = i ∧ fO X i ∈ X ∧ fnd X i = some (fO X i) := by
 obtain ⟨x, hx⟩ := Option.isSome_iff_exists.1 h
 have := xRz hx
 rw [xGz hx]
 exact ⟨this.1, this.2, hx⟩
theorem att_zero {X : List Ob} {i : Int} {o : Ob} (h : attE X i o = 0) : (fnd X i).isSome = true ∧ (fO X i).kind = 2 ∧ fnd X o.id = none ∧ attX X i o = layY X (fO X i) o := by
 unfold attE at h
 by_cases h1 : (fnd X i).isSome = false
 ·rw [if_pos h1] at h; omega
 ·rw [if_neg h1] at h
  by_cases h2 : (fO X i).kind ≠ 2
  ·rw [if_pos h2] at h; omega
  ·rw [if_neg h2] at h
   by_cases h3 : (fnd X o.id).isSome = true
   ·rw [if_pos h3] at h; omega
   ·rw [if_neg h3] at h
    refine ⟨eq_true_of_ne_false h1, Classical.not_not.1 h2, Option.not_isSome_iff_eq_none.1 h3, ?_⟩
    unfold attX
    rw [if_neg h1, if_neg h2, if_neg h3]
    unfold layX
    rw [if_pos h]
theorem att_chd {X : List Ob} {ro i : Int} {o : Ob} (hT : Tre X ro) (hs : q3z o = true) (hl : o.links = []) (h : attE X i o = 0) : Chd X (attX X i o) i o.quota ∧ holL (attX X i o) o.id = [i] := by
 obtain ⟨h1, h2, h3, h4⟩ := att_zero h
 obtain ⟨e1, e2, e3⟩ := goz h1
 have hlk := fun (c : Ob) (hc : c ∈ X) (l : Int) (hl : l ∈ c.links) => (hT.lnk c hc l hl).1
 have hne : o.id ≠ (fO X i).id := by rw [e1]; intro q; rw [q, e3] at h3; cases h3
 have hc := qMz.1 (quz.1 hs).1
 have hd : fnd X (fO X i).id = some (fO X i) := by rw [e1]; exact e3
 have r := u2z (xTz hT) hlk hd hne (.inl h3) ⟨by have := hc.2.1; omega, hc.2.2.1⟩ (wTz hs)
 have r2 := lay_hol hT.srt hlk hne h3 hl
 rw [h4]
 rw [e1] at r r2
 exact ⟨r, r2⟩
theorem lin_chd {X : List Ob} {ro i j : Int} (hT : Tre X ro) (h : linE X i j = 0) : Chd X (linX X i j) i (fO X j).quota := by
 have hX : linX X i j = layX X (fO X i) (fO X j) ∧ ((fnd X i).isSome && (fnd X j).isSome) = true ∧ (decide ((fO X i).kind = 2) && !sngO (fO X j)) = true ∧ layE X (fO X i) (fO X j) = 0 := by
  unfold linE at h
  unfold linX
  by_cases h1 : ((fnd X i).isSome && (fnd X j).isSome) = false
  ·rw [if_pos h1] at h; omega
  ·rw [if_neg h1] at h ⊢
   by_cases h2 : (decide ((fO X i).kind = 2) && !sngO (fO X j)) = false
   ·rw [if_pos h2] at h; omega
   ·rw [if_neg h2] at h ⊢
    by_cases h3 : (fO X j).fixed = false
    ·rw [if_pos h3] at h; omega
    ·rw [if_neg h3] at h ⊢
     by_cases h4 : j ∈ (fO X i).links
     ·rw [if_pos h4] at h; omega
     ·rw [if_neg h4] at h ⊢
      exact ⟨rfl, eq_true_of_ne_false h1, eq_true_of_ne_false h2, h⟩
 obtain ⟨hX, h1, h2, h3⟩ := hX
 rw [Bool.and_eq_true] at h1 h2
 obtain ⟨e1, e2, e3⟩ := goz h1.1
 obtain ⟨g1, g2, g3⟩ := goz h1.2
 have hlk := fun (c : Ob) (hc : c ∈ X) (l : Int) (hl : l ∈ c.links) => (hT.lnk c hc l hl).1
 have hk2 : (fO X i).kind = 2 := of_decide_eq_true h2.1
 have hne : (fO X j).id ≠ (fO X i).id := by
  intro q
  rw [g1, e1] at q
  rw [q] at h2
  unfold sngO at h2
  rw [hk2] at h2
  exact absurd h2.2 (by decide)
 have hd : fnd X (fO X i).id = some (fO X i) := by rw [e1]; exact e3
 have hL := xTz hT
 have r := u2z hL hlk hd hne (.inr (by rw [g1]; exact g3)) (hL.quo _ g2) (hL.sms _ g2)
 rw [hX]
 unfold layX
 rw [if_pos h3]
 rw [e1] at r
 exact r
theorem mov_chd {t : Int} {key : Nat} {ro i j m : Int} {X : List Ob} (hF : fitD t key ro X = true) (h : movE X i j m = 0) : Chd X (movX X i j m) i m ∧ (fO (movX X i j m) j).quota = (fO X j).quota + m := by
 have hT := tre_of hF
 have hL := xTz hT
 have hE := h
 have hz : ((fnd X i).isSome && (fnd X j).isSome) = true ∧ j ∈ (fO X i).links ∧ (fO X j).fixed = false ∧ 1 ≤ (fO X j).quota + m ∧ (fO X j).quota + m ≤ 4096 := by
  unfold movE at h
  by_cases h1 : ((fnd X i).isSome && (fnd X j).isSome) = false
  ·rw [if_pos h1] at h; omega
  ·rw [if_neg h1] at h
   by_cases h2 : ¬ j ∈ (fO X i).links
   ·rw [if_pos h2] at h; omega
   ·rw [if_neg h2] at h
    by_cases h3 : (fO X j).fixed = true
    ·rw [if_pos h3] at h; omega
    ·rw [if_neg h3] at h
     by_cases h4 : m < -4096 ∨ 4096 < m
     ·rw [if_pos h4] at h; omega
     ·rw [if_neg h4] at h
      by_cases h5 : vvz X (fO X i) < m ∨ ((fO X j).quota + m < useV X (fO X j) ∨ (fO X j).quota + m < 1) ∨ 4096 < (fO X j).quota + m
      ·rw [if_pos h5] at h; omega
      ·exact ⟨eq_true_of_ne_false h1, Classical.not_not.1 h2, eq_false_of_ne_true h3, by omega, by omega⟩
 obtain ⟨h1, h2, h3, h4, h5⟩ := hz
 rw [Bool.and_eq_true] at h1
 obtain ⟨e1, e2, e3⟩ := goz h1.1
 obtain ⟨g1, g2, g3⟩ := goz h1.2
 have hX : movX X i j m = puR X { fO X j with quota := (fO X j).quota + m } := by unfold movX; rw [if_pos hE]
 have hx : fnd X (fO X j).id = some (fO X j) := by rw [g1]; exact g3
 have hnd : ∀ c ∈ X, c.links.Nodup := fun c hc => ((hL.ris c hc).1.imp fun h => by omega)
 have hds := hL.sms _ g2
 have hone := hol_len hF g2 h3
 rw [hX]
 refine ⟨⟨wCz hL.srt _, ?_, w7z hL.sms ⟨hds.c2, hds.c5, hds.c6, hds.c7, hds.c25, hds.c36, hds.c39, hds.c40, hds.c41, hds.c42, hds.c43, hds.c44, hds.c49, hds.c50⟩, by have := k6z X { fO X j with quota := (fO X j).quota + m }; omega, ?_⟩, ?_⟩
 ·intro x hx
  rcases wPz.1 hx with e | ⟨hx, _⟩
  ·rw [e]; exact ⟨by show 0 ≤ (fO X j).quota + m; omega, h5⟩
  ·exact hL.quo x hx
 ·intro c hc
  have r := mov_use (m := m) hL.srt hx hnd hc
  refine ⟨r.1, r.2.trans ?_⟩
  congr 1
  by_cases q : c.id = i
  ·have hci : c = fO X i := by
    have := (wvz hL.srt).2 ⟨hc, q⟩
    rw [e3] at this; injection this with this; exact this.symm
   rw [if_pos q, if_pos (by rw [hci, g1]; exact h2)]
  ·rw [if_neg q, if_neg]
   intro hin
   have := hol_uniq hone hc e2 hin (by rw [g1]; exact h2)
   rw [this] at q
   exact q e1
 ·have hf := kqz hL.srt { fO X j with quota := (fO X j).quota + m }
  replace hf : fnd (puR X { fO X j with quota := (fO X j).quota + m }) (fO X j).id = some { fO X j with quota := (fO X j).quota + m } := hf
  rw [g1] at hf
  rw [xGz hf]
end
end Go.Proofs.YtklnneiblmakmaaGreat
