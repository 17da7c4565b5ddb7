/-
 PROVED HERE: what tree.Attach returns when it is called (a contract over this translation); chapter 14's examples as the la. What is asked stands at each.
-/
import Derived.Test.YtnhjfjhbmekamaaGreatZ28
import Derived.Test.YtnhjfjhbmekamaaGreatZ34
namespace Go.Proofs.YtnhjfjhbmekamaaGreat
set_option maxRecDepth 100000
set_option maxHeartbeats 8000000
open Go.RowKit Go.Shelf
set_option linter.unusedVariables false
attribute [local go_sem] Oper.semAt_some

def attE (X : List Ob) (i : Int) (o : Ob) : Int := if (fnd X i).isSome = false then 1 else if (fO X i).kind ≠ 2 then 3 else if (fnd X o.id).isSome = true then 12 else layE X (fO X i) o
def attX (X : List Ob) (i : Int) (o : Ob) : List Ob := if (fnd X i).isSome = false then X else if (fO X i).kind ≠ 2 then X else if (fnd X o.id).isSome = true then X else layX X (fO X i) o
theorem obsF_next {w w' : World} {D0 : Nat → Prop} {ao : Option Addr} {n cap : Nat} {X : List Ob} {Cf : Nat → Array Value} (h : ObsF (LtN w) D0 w ao n cap X Cf) (hD : ∀ b, D0 b → b < w.heap.size) (k : Below w.heap.size w w') : ObsF (LtN w') D0 w' ao n cap X Cf :=
 (h.laterK (fun b hb => k.block b (hD b hb)) (fun b hb => k.block b hb)).wide (fun _ hb => hb) (fun b hb => Nat.lt_of_lt_of_le hb k.size)
structure Lays (X : List Ob) : Prop where
 srt : Srt X
 sms : Smalls X
 nul : fnd X 0 = none
 quo : ∀ x ∈ X, 0 ≤ x.quota ∧ x.quota ≤ 4096
 lab : ∀ x ∈ X, x.label.length < 1048576
 ris : ∀ x ∈ X, x.links.Pairwise (· < ·) ∧ x.links.length ≤ 4000
theorem Lays.at {X : List Ob} (h : Lays X) (i : Int) : Small (fO X i) ∧ (0 ≤ (fO X i).quota ∧ (fO X i).quota ≤ 4096) ∧ (fO X i).label.length < 1048576 ∧ ((fO X i).links.Pairwise (· < ·) ∧ (fO X i).links.length ≤ 4000) := by
 unfold fO
 cases hf : fnd X i with
 | none => exact ⟨⟨by decide, by decide, by decide, by decide, by decide, by decide, by decide, by decide, by decide, by decide, by decide, by decide, by decide, by decide⟩, by decide, by decide, List.Pairwise.nil, by decide⟩
 | some x => exact ⟨h.sms x (fnd_id hf).2, h.quo x (fnd_id hf).2, h.lab x (fnd_id hf).2, h.ris x (fnd_id hf).2⟩
theorem attach_v {w : World} {t ke ro i : Int} {ao : Option Addr} {n cap : Nat} {X : List Ob} {Cf : Nat → Array Value} {D0 : Nat → Prop} {Co : Array Value} {o : Ob} (hD : ∀ b, D0 b → b < w.heap.size) (h : ObsF (LtN w) D0 w ao n cap X Cf) (hL : Lays X) (hn16 : n < 1022) (ho : ObD D0 w Co o) (hos : Small o) (hol : o.label.length < 1048576) :
  Calls Tryz.prog 23 #[.agg #[.int .i64 t, .int .u64 ke, .int .u64 ro, .slice ao n cap], .int .u64 i, .agg Co] w fun e w' => ∃ ao2 n2 cap2, e = .returned (.tuple #[.agg #[.int .i64 t, .int .u64 ke, .int .u64 ro, .slice ao2 n2 cap2], .int .i64 (attE X i o)]) ∧ ObsN w D0 w' ao2 n2 cap2 (attX X i o) ∧ Below w.heap.size w w' := by
 have hO : ObsD (LtN w) D0 w ao n cap X := h.obs
 have hF : ObsF (LtN w) (LtN w) w ao n cap X Cf := h.wide hD (fun _ hb => hb)
 have hzw : (Tryz.prog.info? 25).map (·.size) = some (#[.int .i64 t, .int .u64 ke, .int .u64 ro, .slice ao n cap] : Array Value).size := by kernel_rfl
 have hzv : (Tryz.prog.info? 70).map (·.size) = some (#[.int .i64 t, .int .u64 ke, .int .u64 ro, .slice ao n cap] : Array Value).size := by kernel_rfl
 have hbt : Tryz.prog.built 70 [(0, .agg #[.int .i64 t, .int .u64 ke, .int .u64 ro, .slice ao n cap])] = some #[.int .i64 t, .int .u64 ke, .int .u64 ro, .slice ao n cap] := by kernel_rfl
 have hz4 : (#[.int .i64 0, .int .u64 0, .int .u64 0, .slice none 0 0] : Array Value).size = (#[.int .i64 t, .int .u64 ke, .int .u64 ro, .slice ao n cap] : Array Value).size := rfl
 have h14 : (#[.int .i64 t, .int .u64 ke, .int .u64 ro, .slice ao n cap] : Array Value).all (·.oneCell') = true := by simp [Value.oneCell']
 have hz2 : ∀ v, (Tryz.prog.info? 25).map (·.size) = some (#[.int .i64 t, .int .u64 ke, .int .u64 ro, v] : Array Value).size := fun _ => size43
 have hs2 : ∀ v, zW.size = (#[.int .i64 t, .int .u64 ke, .int .u64 ro, v] : Array Value).size := fun _ => rfl
 have h12 : ∀ ao n cap, (#[.int .i64 t, .int .u64 ke, .int .u64 ro, .slice ao n cap] : Array Value).all (·.oneCell') = true := fun _ _ _ => by kernel_rfl
 have hrf := fun {er : Int} (W : World) (hk : Below w.heap.size w W) => refused_v (t := t) (ke := ke) (ro := ro) (er := er) (D0 := D0) (fun b hb => Nat.lt_of_lt_of_le (hD b hb) hk.size) (obsD_next hO hD hk) hL.srt (by omega) hL.sms hL.nul
 have hf1 := fun (W : World) (hk : Below w.heap.size w W) => find_v (t := t) (ke := ke) (ro := ro) (i := i) (hF.next hk) hL.srt (by omega)
 have hf2 := fun (W : World) (hk : Below w.heap.size w W) => find_v (t := t) (ke := ke) (ro := ro) (i := o.id) (hF.next hk) hL.srt (by omega)
 have hdo := fC_ob h hL.srt i
 have hdo2 := fC_ob h hL.srt o.id
 have hla := fun (W : World) (hk : Below w.heap.size w W) => laid_v (t := t) (ke := ke) (ro := ro) (D0 := D0) (fun b hb => Nat.lt_of_lt_of_le (hD b hb) hk.size) (obsF_next h hD hk) hL.srt hn16 hL.sms hL.nul hL.quo (hdo.laterK fun b hb => hk.block b (hD b hb)) (hL.at i).1 (hL.at i).2.1 (hL.at i).2.2.1 (hL.at i).2.2.2.1 (hL.at i).2.2.2.2 (ho.laterK fun b hb => hk.block b (hD b hb)) hos hol
 have hz1 := hdo.size
 have h1c := hdo.one
 have d1 := hdo.kind
 have hz3 := hdo2.size
 have h3c := hdo2.one
 have hzo := ho.size
 have e0 := ho.id
 obtain ⟨ER, hER⟩ : ∃ ER, Hid (attE X i o = ER) := ⟨_, rfl⟩
 obtain ⟨YR, hYR⟩ : ∃ YR, Hid (attX X i o = YR) := ⟨_, rfl⟩
 rw [hER.out, hYR.out]
 generalize fC X Cf i = C1 at hf1 hz1 h1c d1 hla
 generalize fC X Cf o.id = C2 at hf2 hz3 h3c
 clear hdo hdo2
 obtain ⟨LE, hLE⟩ : ∃ LE, Hid (layE X (fO X i) o = LE) := ⟨_, rfl⟩
 obtain ⟨LX, hLX⟩ : ∃ LX, Hid (layX X (fO X i) o = LX) := ⟨_, rfl⟩
 simp only [hLE.out, hLX.out] at hla
 obtain ⟨kd, hkd⟩ : ∃ kd, Hid ((fO X i).kind = kd) := ⟨_, rfl⟩
 rw [hkd.out] at d1
 obtain ⟨G, hG⟩ : ∃ G : Array Value, G = #[.int .i64 t, .int .u64 ke, .int .u64 ro, .slice ao n cap] := ⟨_, rfl⟩
 simp only [← hG] at hrf hf1 hf2 hla
 rw [← hG] at hzw hzv hbt hz4 h14
 rw [← hG]
 clear hG
 cases hb1 : (fnd X i).isSome with
 | false =>
  rw [hb1] at hf1
  generalize (fnd X o.id).isSome = b2 at hf2
  go_enter Tryz.func23, Tryz.ntmps23
  go_wp2_with (first
   | (with_reducible refine wpList_box rfl 25 _ rfl G rfl ?_; intro B3 W3 hN3 hB3 hk)
   | (with_reducible refine wpList_box rfl 43 _ rfl Co rfl ?_; intro B5 W5 hN5 hB5 hk5; replace hB3 := hB3.next hk5; replace hk := hk.trans (hk5.mono hk.size))
   | ((with_reducible refine wpList_alloc rfl 25 rfl zW zero43 ?_); intro R W6 hN6 hR hk6; have hRw : Hid (w.heap.size ≤ R) := (by have := hN6.out; have := hk.size; refine (?_ : w.heap.size ≤ R); omega); replace hB3 := hB3.next hk6; replace hB5 := hB5.next hk6; replace hk := hk.trans (hk6.mono hk.size); clear hN3 hN5 hN6)
   | (with_reducible refine wpList_loadb (by kernel_rfl) 25 _ rfl B3 rfl G hB3 _ Tryz.underlying25 (by kernel_rfl) hzw ?_)
   | ((with_reducible refine wpList_buildw (by kernel_rfl) _ [(0, .tmp 13)] rfl G ?hf ?_); (case hf => exact hbt))
   | ((with_reducible refine wpList_alloc rfl 70 rfl #[.int .i64 0, .int .u64 0, .int .u64 0, .slice none 0 0] Tryz.zeroValue70 ?_); intro B8 W8 hN8 hR8 hk8)
   | ((with_reducible refine wpList_store_blk rfl _ _ _ rfl B8 rfl G rfl _ hR8 hzv hz4 h14 ?_); intro V8 hB8 o8; have hb8 : Below W6.heap.size W6 V8 := o8.below W6.heap.size W6 (by have := hN8.out; omega) hk8; replace hB3 := hB3.next hb8; replace hB5 := hB5.next hb8; replace hR := hR.next hb8; replace hk := hk.trans (hb8.mono hk.size); clear hN8 hR8 hk8 o8 hb8)
   | (with_reducible refine wpList_loadb (by kernel_rfl) 70 _ rfl B8 rfl G hB8 _ Tryz.underlying70 (by kernel_rfl) hzv ?_)
   | (with_reducible refine wpList_load1 (by kernel_rfl) _ _ rfl B5 _ rfl _ _ hB5 _ e0 Tryz.isAgg22 ?_)
   | (go_at_call 59; have hx := hP9; (with_reducible refine (hf2 _ hk).mono ?_); rintro e w11 ⟨rfl, hb8⟩; replace hB3 := hB3.next hb8; replace hB5 := hB5.next hb8; replace hR := hR.next hb8; replace hB8 := hB8.next hb8; replace hP9 := hP9.next hb8; replace hk := hk.trans (hb8.mono hk.size); clear hb8 hx)
   | (go_at_call 59; (with_reducible refine (hf1 _ hk).mono ?_); rintro e w9 ⟨rfl, hb8⟩; replace hB3 := hB3.next hb8; replace hB5 := hB5.next hb8; replace hR := hR.next hb8; replace hB8 := hB8.next hb8; replace hk := hk.trans (hb8.mono hk.size); clear hb8)
   | ((with_reducible refine wpList_alloc rfl 43 rfl zC zero40 ?_); have hx := hP9; intro P11 W11 hN11 hP11a hk11; clear hx)
   | ((with_reducible refine wpList_alloc rfl 43 rfl zC zero40 ?_); intro P9 W9 hN9 hP9a hk9)
   | ((with_reducible refine wpList_store_blk rfl _ _ _ rfl P9 rfl C1 rfl zC hP9a (size40C hz1) (zC_size.trans hz1.symm) h1c ?_); intro V9 hP9 q9; have hb8 : Below w9.heap.size w9 V9 := q9.below w9.heap.size w9 (by have := hN9.out; omega) hk9; replace hB3 := hB3.next hb8; replace hB5 := hB5.next hb8; replace hR := hR.next hb8; replace hB8 := hB8.next hb8; replace hk := hk.trans (hb8.mono hk.size); clear hN9 hP9a hk9 q9 hb8)
   | ((with_reducible refine wpList_store_blk rfl _ _ _ rfl P11 rfl C2 rfl zC hP11a (size40C hz3) (zC_size.trans hz3.symm) h3c ?_); intro V11 hP11 q11; have hb8 : Below w11.heap.size w11 V11 := q11.below w11.heap.size w11 (by have := hN11.out; omega) hk11; replace hB3 := hB3.next hb8; replace hB5 := hB5.next hb8; replace hR := hR.next hb8; replace hB8 := hB8.next hb8; replace hP9 := hP9.next hb8; replace hk := hk.trans (hb8.mono hk.size); clear hN11 hP11a hk11 q11 hb8)
   | (with_reducible refine wpList_load1 (by kernel_rfl) _ _ rfl P9 _ rfl _ _ hP9 _ d1 Tryz.isAgg3 ?_)
   | (go_at_call 60; (with_reducible refine (hrf _ hk).mono ?_); rintro e w12 ⟨aX, nX, cX, rfl, oX, hb9⟩; have hR9 := hR.next hb9)
   | ((with_reducible refine wpList_store_blk rfl _ _ _ rfl R rfl _ rfl zW hR9 (hz2 _) (hs2 _) (h12 aX nX cX) ?_); intro W13 hR13 q13))
  refine bodyPost_ret (res43b Tryz.results23 rfl rfl hR13 rfl) rfl ?_
  have hE : ER = 1 := by rw [← hER.out]; unfold attE; rw [if_pos hb1]
  have hY : YR = X := by rw [← hYR.out]; unfold attX; rw [if_pos hb1]
  rw [hE, hY]
  exact ⟨aX, nX, cX, rfl, (ObsN.store oX q13 hR.lt (fun b hb => by have := hD b hb; have := hRw.out; omega)).low hk.size, q13.below _ _ hRw.out (hk.trans (hb9.mono hk.size))⟩
 | true =>
  rw [hb1] at hf1
  by_cases k2 : kd = 2
  ·subst k2
   cases hb2 : (fnd X o.id).isSome with
   | true =>
    rw [hb2] at hf2
    go_enter Tryz.func23, Tryz.ntmps23
    go_wp2_with (first
     | (with_reducible refine wpList_box rfl 25 _ rfl G rfl ?_; intro B3 W3 hN3 hB3 hk)
     | (with_reducible refine wpList_box rfl 43 _ rfl Co rfl ?_; intro B5 W5 hN5 hB5 hk5; replace hB3 := hB3.next hk5; replace hk := hk.trans (hk5.mono hk.size))
     | ((with_reducible refine wpList_alloc rfl 25 rfl zW zero43 ?_); intro R W6 hN6 hR hk6; have hRw : Hid (w.heap.size ≤ R) := (by have := hN6.out; have := hk.size; refine (?_ : w.heap.size ≤ R); omega); replace hB3 := hB3.next hk6; replace hB5 := hB5.next hk6; replace hk := hk.trans (hk6.mono hk.size); clear hN3 hN5 hN6)
     | (with_reducible refine wpList_loadb (by kernel_rfl) 25 _ rfl B3 rfl G hB3 _ Tryz.underlying25 (by kernel_rfl) hzw ?_)
     | ((with_reducible refine wpList_buildw (by kernel_rfl) _ [(0, .tmp 13)] rfl G ?hf ?_); (case hf => exact hbt))
     | ((with_reducible refine wpList_alloc rfl 70 rfl #[.int .i64 0, .int .u64 0, .int .u64 0, .slice none 0 0] Tryz.zeroValue70 ?_); intro B8 W8 hN8 hR8 hk8)
     | ((with_reducible refine wpList_store_blk rfl _ _ _ rfl B8 rfl G rfl _ hR8 hzv hz4 h14 ?_); intro V8 hB8 o8; have hb8 : Below W6.heap.size W6 V8 := o8.below W6.heap.size W6 (by have := hN8.out; omega) hk8; replace hB3 := hB3.next hb8; replace hB5 := hB5.next hb8; replace hR := hR.next hb8; replace hk := hk.trans (hb8.mono hk.size); clear hN8 hR8 hk8 o8 hb8)
     | (with_reducible refine wpList_loadb (by kernel_rfl) 70 _ rfl B8 rfl G hB8 _ Tryz.underlying70 (by kernel_rfl) hzv ?_)
     | (with_reducible refine wpList_load1 (by kernel_rfl) _ _ rfl B5 _ rfl _ _ hB5 _ e0 Tryz.isAgg22 ?_)
     | (go_at_call 59; have hx := hP9; (with_reducible refine (hf2 _ hk).mono ?_); rintro e w11 ⟨rfl, hb8⟩; replace hB3 := hB3.next hb8; replace hB5 := hB5.next hb8; replace hR := hR.next hb8; replace hB8 := hB8.next hb8; replace hP9 := hP9.next hb8; replace hk := hk.trans (hb8.mono hk.size); clear hb8 hx)
     | (go_at_call 59; (with_reducible refine (hf1 _ hk).mono ?_); rintro e w9 ⟨rfl, hb8⟩; replace hB3 := hB3.next hb8; replace hB5 := hB5.next hb8; replace hR := hR.next hb8; replace hB8 := hB8.next hb8; replace hk := hk.trans (hb8.mono hk.size); clear hb8)
     | ((with_reducible refine wpList_alloc rfl 43 rfl zC zero40 ?_); have hx := hP9; intro P11 W11 hN11 hP11a hk11; clear hx)
     | ((with_reducible refine wpList_alloc rfl 43 rfl zC zero40 ?_); intro P9 W9 hN9 hP9a hk9)
     | ((with_reducible refine wpList_store_blk rfl _ _ _ rfl P9 rfl C1 rfl zC hP9a (size40C hz1) (zC_size.trans hz1.symm) h1c ?_); intro V9 hP9 q9; have hb8 : Below w9.heap.size w9 V9 := q9.below w9.heap.size w9 (by have := hN9.out; omega) hk9; replace hB3 := hB3.next hb8; replace hB5 := hB5.next hb8; replace hR := hR.next hb8; replace hB8 := hB8.next hb8; replace hk := hk.trans (hb8.mono hk.size); clear hN9 hP9a hk9 q9 hb8)
     | ((with_reducible refine wpList_store_blk rfl _ _ _ rfl P11 rfl C2 rfl zC hP11a (size40C hz3) (zC_size.trans hz3.symm) h3c ?_); intro V11 hP11 q11; have hb8 : Below w11.heap.size w11 V11 := q11.below w11.heap.size w11 (by have := hN11.out; omega) hk11; replace hB3 := hB3.next hb8; replace hB5 := hB5.next hb8; replace hR := hR.next hb8; replace hB8 := hB8.next hb8; replace hP9 := hP9.next hb8; replace hk := hk.trans (hb8.mono hk.size); clear hN11 hP11a hk11 q11 hb8)
     | (with_reducible refine wpList_load1 (by kernel_rfl) _ _ rfl P9 _ rfl _ _ hP9 _ d1 Tryz.isAgg3 ?_)
     | (go_at_call 60; (with_reducible refine (hrf _ hk).mono ?_); rintro e w12 ⟨aX, nX, cX, rfl, oX, hb9⟩; have hR9 := hR.next hb9)
     | ((with_reducible refine wpList_store_blk rfl _ _ _ rfl R rfl _ rfl zW hR9 (hz2 _) (hs2 _) (h12 aX nX cX) ?_); intro W13 hR13 q13))
    refine bodyPost_ret (res43b Tryz.results23 rfl rfl hR13 rfl) rfl ?_
    have hE : ER = 12 := by rw [← hER.out]; unfold attE; rw [if_neg (by rw [hb1]; decide), if_neg (by rw [hkd.out]; decide), if_pos hb2]
    have hY : YR = X := by rw [← hYR.out]; unfold attX; rw [if_neg (by rw [hb1]; decide), if_neg (by rw [hkd.out]; decide), if_pos hb2]
    rw [hE, hY]
    exact ⟨aX, nX, cX, rfl, (ObsN.store oX q13 hR.lt (fun b hb => by have := hD b hb; have := hRw.out; omega)).low hk.size, q13.below _ _ hRw.out (hk.trans (hb9.mono hk.size))⟩
   | false =>
    rw [hb2] at hf2
    go_enter Tryz.func23, Tryz.ntmps23
    go_wp2_with (first
     | (with_reducible refine wpList_box rfl 25 _ rfl G rfl ?_; intro B3 W3 hN3 hB3 hk)
     | (with_reducible refine wpList_box rfl 43 _ rfl Co rfl ?_; intro B5 W5 hN5 hB5 hk5; replace hB3 := hB3.next hk5; replace hk := hk.trans (hk5.mono hk.size))
     | ((with_reducible refine wpList_alloc rfl 25 rfl zW zero43 ?_); intro R W6 hN6 hR hk6; have hRw : Hid (w.heap.size ≤ R) := (by have := hN6.out; have := hk.size; refine (?_ : w.heap.size ≤ R); omega); replace hB3 := hB3.next hk6; replace hB5 := hB5.next hk6; replace hk := hk.trans (hk6.mono hk.size); clear hN3 hN5 hN6)
     | (with_reducible refine wpList_loadb (by kernel_rfl) 25 _ rfl B3 rfl G hB3 _ Tryz.underlying25 (by kernel_rfl) hzw ?_)
     | ((with_reducible refine wpList_buildw (by kernel_rfl) _ [(0, .tmp 13)] rfl G ?hf ?_); (case hf => exact hbt))
     | ((with_reducible refine wpList_alloc rfl 70 rfl #[.int .i64 0, .int .u64 0, .int .u64 0, .slice none 0 0] Tryz.zeroValue70 ?_); intro B8 W8 hN8 hR8 hk8)
     | ((with_reducible refine wpList_store_blk rfl _ _ _ rfl B8 rfl G rfl _ hR8 hzv hz4 h14 ?_); intro V8 hB8 o8; have hb8 : Below W6.heap.size W6 V8 := o8.below W6.heap.size W6 (by have := hN8.out; omega) hk8; replace hB3 := hB3.next hb8; replace hB5 := hB5.next hb8; replace hR := hR.next hb8; replace hk := hk.trans (hb8.mono hk.size); clear hN8 hR8 hk8 o8 hb8)
     | (with_reducible refine wpList_loadb (by kernel_rfl) 70 _ rfl B8 rfl G hB8 _ Tryz.underlying70 (by kernel_rfl) hzv ?_)
     | (with_reducible refine wpList_load1 (by kernel_rfl) _ _ rfl B5 _ rfl _ _ hB5 _ e0 Tryz.isAgg22 ?_)
     | (go_at_call 59; have hx := hP9; (with_reducible refine (hf2 _ hk).mono ?_); rintro e w11 ⟨rfl, hb8⟩; replace hB3 := hB3.next hb8; replace hB5 := hB5.next hb8; replace hR := hR.next hb8; replace hB8 := hB8.next hb8; replace hP9 := hP9.next hb8; replace hk := hk.trans (hb8.mono hk.size); clear hb8 hx)
     | (go_at_call 59; (with_reducible refine (hf1 _ hk).mono ?_); rintro e w9 ⟨rfl, hb8⟩; replace hB3 := hB3.next hb8; replace hB5 := hB5.next hb8; replace hR := hR.next hb8; replace hB8 := hB8.next hb8; replace hk := hk.trans (hb8.mono hk.size); clear hb8)
     | ((with_reducible refine wpList_alloc rfl 43 rfl zC zero40 ?_); have hx := hP9; intro P11 W11 hN11 hP11a hk11; clear hx)
     | ((with_reducible refine wpList_alloc rfl 43 rfl zC zero40 ?_); intro P9 W9 hN9 hP9a hk9)
     | ((with_reducible refine wpList_store_blk rfl _ _ _ rfl P9 rfl C1 rfl zC hP9a (size40C hz1) (zC_size.trans hz1.symm) h1c ?_); intro V9 hP9 q9; have hb8 : Below w9.heap.size w9 V9 := q9.below w9.heap.size w9 (by have := hN9.out; omega) hk9; replace hB3 := hB3.next hb8; replace hB5 := hB5.next hb8; replace hR := hR.next hb8; replace hB8 := hB8.next hb8; replace hk := hk.trans (hb8.mono hk.size); clear hN9 hP9a hk9 q9 hb8)
     | ((with_reducible refine wpList_store_blk rfl _ _ _ rfl P11 rfl C2 rfl zC hP11a (size40C hz3) (zC_size.trans hz3.symm) h3c ?_); intro V11 hP11 q11; have hb8 : Below w11.heap.size w11 V11 := q11.below w11.heap.size w11 (by have := hN11.out; omega) hk11; replace hB3 := hB3.next hb8; replace hB5 := hB5.next hb8; replace hR := hR.next hb8; replace hB8 := hB8.next hb8; replace hP9 := hP9.next hb8; replace hk := hk.trans (hb8.mono hk.size); clear hN11 hP11a hk11 q11 hb8)
     | (with_reducible refine wpList_load1 (by kernel_rfl) _ _ rfl P9 _ rfl _ _ hP9 _ d1 Tryz.isAgg3 ?_)
     | (with_reducible refine wpList_loadb (by kernel_rfl) 43 _ rfl P9 rfl C1 hP9 _ Tryz.underlying43 (by kernel_rfl) (size40C hz1) ?_)
     | (with_reducible refine wpList_loadb (by kernel_rfl) 43 _ rfl B5 rfl Co hB5 _ Tryz.underlying43 (by kernel_rfl) (size40C hzo) ?_)
     | (go_at_call 61; (with_reducible refine (hla _ hk).mono ?_); rintro e w12 ⟨aX, nX, cX, rfl, oX, hb9⟩; have hR9 := hR.next hb9)
     | ((with_reducible refine wpList_store_blk rfl _ _ _ rfl R rfl _ rfl zW hR9 (hz2 _) (hs2 _) (h12 aX nX cX) ?_); intro W13 hR13 q13))
    refine bodyPost_ret (res43b Tryz.results23 rfl rfl hR13 rfl) rfl ?_
    have hE : ER = LE := by rw [← hER.out]; unfold attE; rw [if_neg (by rw [hb1]; decide), if_neg (by rw [hkd.out]; decide), if_neg (by rw [hb2]; decide), hLE.out]
    have hY : YR = LX := by rw [← hYR.out]; unfold attX; rw [if_neg (by rw [hb1]; decide), if_neg (by rw [hkd.out]; decide), if_neg (by rw [hb2]; decide), hLX.out]
    rw [hE, hY]
    exact ⟨aX, nX, cX, rfl, (ObsN.store oX q13 hR.lt (fun b hb => by have := hD b hb; have := hRw.out; omega)).low hk.size, q13.below _ _ hRw.out (hk.trans (hb9.mono hk.size))⟩
  ·have k2b : (kd == 2) = false := by simpa using k2
   generalize (fnd X o.id).isSome = b2 at hf2
   go_enter Tryz.func23, Tryz.ntmps23
   go_wp2_with (first
    | (with_reducible refine wpList_box rfl 25 _ rfl G rfl ?_; intro B3 W3 hN3 hB3 hk)
    | (with_reducible refine wpList_box rfl 43 _ rfl Co rfl ?_; intro B5 W5 hN5 hB5 hk5; replace hB3 := hB3.next hk5; replace hk := hk.trans (hk5.mono hk.size))
    | ((with_reducible refine wpList_alloc rfl 25 rfl zW zero43 ?_); intro R W6 hN6 hR hk6; have hRw : Hid (w.heap.size ≤ R) := (by have := hN6.out; have := hk.size; refine (?_ : w.heap.size ≤ R); omega); replace hB3 := hB3.next hk6; replace hB5 := hB5.next hk6; replace hk := hk.trans (hk6.mono hk.size); clear hN3 hN5 hN6)
    | (with_reducible refine wpList_loadb (by kernel_rfl) 25 _ rfl B3 rfl G hB3 _ Tryz.underlying25 (by kernel_rfl) hzw ?_)
    | ((with_reducible refine wpList_buildw (by kernel_rfl) _ [(0, .tmp 13)] rfl G ?hf ?_); (case hf => exact hbt))
    | ((with_reducible refine wpList_alloc rfl 70 rfl #[.int .i64 0, .int .u64 0, .int .u64 0, .slice none 0 0] Tryz.zeroValue70 ?_); intro B8 W8 hN8 hR8 hk8)
    | ((with_reducible refine wpList_store_blk rfl _ _ _ rfl B8 rfl G rfl _ hR8 hzv hz4 h14 ?_); intro V8 hB8 o8; have hb8 : Below W6.heap.size W6 V8 := o8.below W6.heap.size W6 (by have := hN8.out; omega) hk8; replace hB3 := hB3.next hb8; replace hB5 := hB5.next hb8; replace hR := hR.next hb8; replace hk := hk.trans (hb8.mono hk.size); clear hN8 hR8 hk8 o8 hb8)
    | (with_reducible refine wpList_loadb (by kernel_rfl) 70 _ rfl B8 rfl G hB8 _ Tryz.underlying70 (by kernel_rfl) hzv ?_)
    | (with_reducible refine wpList_load1 (by kernel_rfl) _ _ rfl B5 _ rfl _ _ hB5 _ e0 Tryz.isAgg22 ?_)
    | (go_at_call 59; have hx := hP9; (with_reducible refine (hf2 _ hk).mono ?_); rintro e w11 ⟨rfl, hb8⟩; replace hB3 := hB3.next hb8; replace hB5 := hB5.next hb8; replace hR := hR.next hb8; replace hB8 := hB8.next hb8; replace hP9 := hP9.next hb8; replace hk := hk.trans (hb8.mono hk.size); clear hb8 hx)
    | (go_at_call 59; (with_reducible refine (hf1 _ hk).mono ?_); rintro e w9 ⟨rfl, hb8⟩; replace hB3 := hB3.next hb8; replace hB5 := hB5.next hb8; replace hR := hR.next hb8; replace hB8 := hB8.next hb8; replace hk := hk.trans (hb8.mono hk.size); clear hb8)
    | ((with_reducible refine wpList_alloc rfl 43 rfl zC zero40 ?_); have hx := hP9; intro P11 W11 hN11 hP11a hk11; clear hx)
    | ((with_reducible refine wpList_alloc rfl 43 rfl zC zero40 ?_); intro P9 W9 hN9 hP9a hk9)
    | ((with_reducible refine wpList_store_blk rfl _ _ _ rfl P9 rfl C1 rfl zC hP9a (size40C hz1) (zC_size.trans hz1.symm) h1c ?_); intro V9 hP9 q9; have hb8 : Below w9.heap.size w9 V9 := q9.below w9.heap.size w9 (by have := hN9.out; omega) hk9; replace hB3 := hB3.next hb8; replace hB5 := hB5.next hb8; replace hR := hR.next hb8; replace hB8 := hB8.next hb8; replace hk := hk.trans (hb8.mono hk.size); clear hN9 hP9a hk9 q9 hb8)
    | ((with_reducible refine wpList_store_blk rfl _ _ _ rfl P11 rfl C2 rfl zC hP11a (size40C hz3) (zC_size.trans hz3.symm) h3c ?_); intro V11 hP11 q11; have hb8 : Below w11.heap.size w11 V11 := q11.below w11.heap.size w11 (by have := hN11.out; omega) hk11; replace hB3 := hB3.next hb8; replace hB5 := hB5.next hb8; replace hR := hR.next hb8; replace hB8 := hB8.next hb8; replace hP9 := hP9.next hb8; replace hk := hk.trans (hb8.mono hk.size); clear hN11 hP11a hk11 q11 hb8)
    | (with_reducible refine wpList_load1 (by kernel_rfl) _ _ rfl P9 _ rfl _ _ hP9 _ d1 Tryz.isAgg3 ?_)
    | (go_at_call 60; (with_reducible refine (hrf _ hk).mono ?_); rintro e w12 ⟨aX, nX, cX, rfl, oX, hb9⟩; have hR9 := hR.next hb9)
    | ((with_reducible refine wpList_store_blk rfl _ _ _ rfl R rfl _ rfl zW hR9 (hz2 _) (hs2 _) (h12 aX nX cX) ?_); intro W13 hR13 q13))
   refine bodyPost_ret (res43b Tryz.results23 rfl rfl hR13 rfl) rfl ?_
   have hE : ER = 3 := by rw [← hER.out]; unfold attE; rw [if_neg (by rw [hb1]; decide), if_pos (by rw [hkd.out]; exact k2)]
   have hY : YR = X := by rw [← hYR.out]; unfold attX; rw [if_neg (by rw [hb1]; decide), if_pos (by rw [hkd.out]; exact k2)]
   rw [hE, hY]
   exact ⟨aX, nX, cX, rfl, (ObsN.store oX q13 hR.lt (fun b hb => by have := hD b hb; have := hRw.out; omega)).low hk.size, q13.below _ _ hRw.out (hk.trans (hb9.mono hk.size))⟩
end Go.Proofs.YtnhjfjhbmekamaaGreat
namespace Go.Proofs.YtnhjfjhbmekamaaGreat
set_option maxRecDepth 100000
set_option maxHeartbeats 8000000
open Go.RowKit Go.Shelf
set_option linter.unusedVariables false
attribute [local go_sem] Oper.semAt_some

def awD : Ob := ⟨1, 2, [], 3, false, [], [], [], zTh, zGt, [], []⟩
def awS (q : Int) : Ob := ⟨2, 1, [], q, false, [], [], [], zTh, zGt, [], []⟩
def awE : Ob := ⟨1, 2, [], 3, false, [2], [], [], zTh, zGt, [], []⟩
theorem aw_e3 : attE [awD] 1 (awS 3) = 5 := by decide +kernel
theorem aw_e2 : attE [awD] 1 (awS 2) = 0 := by decide +kernel
theorem aw_x2 : attX [awD] 1 (awS 2) = [awE, awS 2] := by decide +kernel
theorem aw_fit : fitT 0 0 1 [awD] = true := by decide +kernel
theorem aw_room : awE.quota - (pagO awE + (awE.links.map (qOf [awE, awS 2])).sum) = 0 := by decide +kernel
theorem small_com0 (i k q : Int) (f : Bool) (l : List Int) (hl : l.length < 4294967296) : Small ⟨i, k, [], q, f, l, [], [], zTh, zGt, [], []⟩ := ⟨by simp, hl, by simp, by simp, by simp [zTh], by simp [zTh], by simp [zTh], by simp [zTh], by simp [zTh], by simp [zTh], by simp [zGt], by simp [zGt], by simp, by simp⟩
theorem lays_aw : Lays [awD] := ⟨idsB_iff.1 (by decide +kernel), fun x hx => by rw [List.mem_singleton.1 hx]; exact small_com0 _ _ _ _ _ (by simp), by decide +kernel, fun x hx => by rw [List.mem_singleton.1 hx]; decide, fun x hx => by rw [List.mem_singleton.1 hx]; decide, fun x hx => by rw [List.mem_singleton.1 hx]; exact ⟨List.Pairwise.nil, by decide⟩⟩
theorem com_set3 (a b c d e v : Value) : (comC a b c d e).setIfInBounds 3 v = comC a b c v e := by kernel_rfl
theorem sizeI : (Tryz.prog.info? 3).map (·.size) = some 1 := by kernel_rfl
theorem aw_obs {W : World} {B : Nat} {D : Nat → Prop} (h : Blk W B (comC (.int .u64 1) (.int .i64 2) (.slice none 0 0) (.int .i64 3) (.bool false)) 43) : ObsD (LtN W) D W (some ⟨B, 0, none⟩) 1 1 [awD] := obs_one h (comC_d (LabD.nil D W))
theorem aw_at3 {W : World} {B : Nat} (h : Blk W B (comC (.int .u64 1) (.int .i64 2) (.slice none 0 0) (.int .i64 3) (.bool false)) 43) : Calls Tryz.prog 23 #[.agg #[.int .i64 0, .int .u64 0, .int .u64 1, .slice (some ⟨B, 0, none⟩) 1 1], .int .u64 1, .agg (comC (.int .u64 2) (.int .i64 1) (.slice none 0 0) (.int .i64 3) (.bool false))] W fun e w' => ∃ ao2 n2 cap2, e = .returned (.tuple #[.agg #[.int .i64 0, .int .u64 0, .int .u64 1, .slice ao2 n2 cap2], .int .i64 5]) ∧ ObsN W (fun _ => False) w' ao2 n2 cap2 (attX [awD] 1 (awS 3)) ∧ Below W.heap.size W w' := by
 obtain ⟨Cf, hF⟩ := (aw_obs (D := fun _ => False) h).fam
 have := attach_v (t := 0) (ke := 0) (ro := 1) (i := 1) (D0 := fun _ => False) (o := awS 3) (fun _ h => h.elim) hF lays_aw (by omega) (comC_d (LabD.nil _ W)) (small_com0 _ _ _ _ _ (by simp)) (by decide)
 rw [aw_e3] at this
 exact this
theorem aw_at2 {W : World} {B : Nat} (h : Blk W B (comC (.int .u64 1) (.int .i64 2) (.slice none 0 0) (.int .i64 3) (.bool false)) 43) : Calls Tryz.prog 23 #[.agg #[.int .i64 0, .int .u64 0, .int .u64 1, .slice (some ⟨B, 0, none⟩) 1 1], .int .u64 1, .agg (comC (.int .u64 2) (.int .i64 1) (.slice none 0 0) (.int .i64 2) (.bool false))] W fun e w' => ∃ ao2 n2 cap2, e = .returned (.tuple #[.agg #[.int .i64 0, .int .u64 0, .int .u64 1, .slice ao2 n2 cap2], .int .i64 0]) ∧ ObsN W (fun _ => False) w' ao2 n2 cap2 [awE, awS 2] ∧ Below W.heap.size W w' := by
 obtain ⟨Cf, hF⟩ := (aw_obs (D := fun _ => False) h).fam
 have := attach_v (t := 0) (ke := 0) (ro := 1) (i := 1) (D0 := fun _ => False) (o := awS 2) (fun _ h => h.elim) hF lays_aw (by omega) (comC_d (LabD.nil _ W)) (small_com0 _ _ _ _ _ (by simp)) (by decide)
 rw [aw_e2, aw_x2] at this
 exact this
theorem aw_ft {W : World} {B : Nat} (h : Blk W B (comC (.int .u64 1) (.int .i64 2) (.slice none 0 0) (.int .i64 3) (.bool false)) 43) : Calls Tryz.prog 10 #[.agg #[.int .i64 0, .int .u64 0, .int .u64 1, .slice (some ⟨B, 0, none⟩) 1 1]] W fun e w' => e = .returned (.bool true) ∧ Below W.heap.size W w' := by
 obtain ⟨Cf, hF⟩ := (aw_obs (D := LtN W) h).fam
 have := tfit_v (t := 0) (key := 0) (ro := 1) hF (fun _ => lays_aw.sms) (fun x hx => by rw [List.mem_singleton.1 hx]; unfold WdO; decide)
 rw [aw_fit] at this
 exact this
theorem aw_rm {W : World} {ao : Option Addr} {cap : Nat} {C : Array Value} (hO : Obs W ao 2 cap [awE, awS 2]) (hC : ObD (LtN W) W C awE) : Calls Tryz.prog 16 #[.agg #[.int .i64 0, .int .u64 0, .int .u64 1, .slice ao 2 cap], .agg C] W fun e w' => e = .returned (.int .i64 0) ∧ Below W.heap.size W w' := by
 obtain ⟨Cf, hF⟩ := hO.fam
 have := room_w (t := 0) (ke := 0) (ro := 1) hF (idsB_iff.1 (by decide +kernel)) (by omega) (by decide) hC (small_com0 _ _ _ _ _ (by simp)) (by decide)
 rw [aw_room] at this
 exact this
theorem awake14_any (w : World) : Calls Tryz.prog 9 #[] w fun e w' => e = .returned (.bool true) ∧ Below w.heap.size w w' := by
 have hmx : Tryz.prog.follows .mixedOrders = true := by kernel_rfl
 have hzd : (comC (.int .u64 1) (.int .i64 2) (.slice none 0 0) (.int .i64 3) (.bool false)).size = 51 := by kernel_rfl
 have hz3s : (comC (.int .u64 2) (.int .i64 1) (.slice none 0 0) (.int .i64 3) (.bool false)).size = 51 := by kernel_rfl
 have hs3 : ∀ (D : Nat → Prop) (w : World), ObD D w (comC (.int .u64 2) (.int .i64 1) (.slice none 0 0) (.int .i64 3) (.bool false)) (awS 3) := fun D w => comC_d (LabD.nil D w)
 have hs2o : ∀ (D : Nat → Prop) (w : World), ObD D w (comC (.int .u64 2) (.int .i64 1) (.slice none 0 0) (.int .i64 2) (.bool false)) (awS 2) := fun D w => comC_d (LabD.nil D w)
 have hz2 : ∀ v, (Tryz.prog.info? 25).map (·.size) = some (#[.int .i64 0, .int .u64 0, .int .u64 1, v] : Array Value).size := fun _ => size43
 have hs2 : ∀ v, zW.size = (#[.int .i64 0, .int .u64 0, .int .u64 1, v] : Array Value).size := fun _ => rfl
 have h12 : ∀ ao n cap, (#[.int .i64 0, .int .u64 0, .int .u64 1, .slice ao n cap] : Array Value).all (·.oneCell') = true := fun _ _ _ => by kernel_rfl
 have hat1 := fun {B : Nat} (W : World) (h : Blk W B (comC (.int .u64 1) (.int .i64 2) (.slice none 0 0) (.int .i64 3) (.bool false)) 43) => aw_at3 h
 have hat2 := fun {B : Nat} (W : World) (h : Blk W B (comC (.int .u64 1) (.int .i64 2) (.slice none 0 0) (.int .i64 3) (.bool false)) 43) => aw_at2 h
 have hfit := fun {B : Nat} (W : World) (h : Blk W B (comC (.int .u64 1) (.int .i64 2) (.slice none 0 0) (.int .i64 3) (.bool false)) 43) => aw_ft h
 go_enter Tryz.func9, Tryz.ntmps9
 go_wp2_with (first
  | ((with_reducible refine wpList_buildw (by kernel_rfl) 43 [(0, .const (.int .u64 1)), (1, .const (.int .i64 2)), (3, .const (.int .i64 3))] rfl (comC (.int .u64 1) (.int .i64 2) (.slice none 0 0) (.int .i64 3) (.bool false)) ?hf ?_); (case hf => kernel_rfl))
  | ((with_reducible refine wpList_bs1 rfl _ rfl (comC (.int .u64 1) (.int .i64 2) (.slice none 0 0) (.int .i64 3) (.bool false)) rfl hzd ?_); intro Bx Wx hNx hBx hk)
  | ((with_reducible refine wpList_buildw (by kernel_rfl) 25 [(2, .const (.int .u64 1)), (3, .tmp 8)] rfl #[.int .i64 0, .int .u64 0, .int .u64 1, .slice (some ⟨Bx, 0, none⟩) 1 1] ?hf ?_); (case hf => kernel_rfl))
  | ((with_reducible refine wpList_alloc rfl 25 rfl zW zero43 ?_); have hx := hP3; intro P5 W5 hN5 hP5a hk5; clear hx)
  | ((with_reducible refine wpList_alloc rfl 25 rfl zW zero43 ?_); have hx := hP2; intro P3 W3 hN3 hP3a hk3; have hne : Hid (Bx ≠ P2 ∧ P1 ≠ P2 ∧ P3 ≠ P2 ∧ w.heap.size ≤ P2) := (by have := hN3.out; have := hlt.out; have := hP2.lt; refine (⟨?_, ?_, ?_, ?_⟩ : _ ∧ _ ∧ _ ∧ _) <;> omega); clear hx)
  | ((with_reducible refine wpList_alloc rfl 25 rfl zW zero43 ?_); intro P1 W1 hN1 hP1a hk1)
  | ((with_reducible refine wpList_store_blk rfl _ _ _ rfl P1 rfl #[.int .i64 0, .int .u64 0, .int .u64 1, .slice (some ⟨Bx, 0, none⟩) 1 1] rfl zW hP1a (hz2 _) (hs2 _) (h12 _ _ _) ?_); intro V1 hP1 q1; have hb8 : Below Wx.heap.size Wx V1 := q1.below Wx.heap.size Wx (by have := hN1.out; omega) hk1; replace hBx := hBx.next hb8; replace hk := hk.trans (hb8.mono hk.size); clear hN1 hP1a hk1 q1 hb8)
  | ((with_reducible refine wpList_buildw (by kernel_rfl) 43 [(0, .const (.int .u64 2)), (1, .const (.int .i64 1)), (3, .const (.int .i64 3))] rfl (comC (.int .u64 2) (.int .i64 1) (.slice none 0 0) (.int .i64 3) (.bool false)) ?hf ?_); (case hf => kernel_rfl))
  | ((with_reducible refine wpList_alloc rfl 43 rfl zC zero40 ?_); intro P2 W2 hN2 hP2a hk2; have hlt : Hid (Bx < P2 ∧ P1 < P2 ∧ w.heap.size ≤ P2) := (by have := hN2.out; have := hk.size; have := hBx.lt; have := hP1.lt; refine (⟨?_, ?_, ?_⟩ : _ ∧ _ ∧ _) <;> omega))
  | ((with_reducible refine wpList_store_blk rfl _ _ _ rfl P2 rfl (comC (.int .u64 2) (.int .i64 1) (.slice none 0 0) (.int .i64 3) (.bool false)) rfl zC hP2a (size40C (hs3 (fun _ => True) w).size) (zC_size.trans (hs3 (fun _ => True) w).size.symm) (hs3 (fun _ => True) w).one ?_); intro V2 hP2 q2; have hb8 : Below V1.heap.size V1 V2 := q2.below V1.heap.size V1 (by have := hN2.out; omega) hk2; replace hBx := hBx.next hb8; replace hP1 := hP1.next hb8; replace hk := hk.trans (hb8.mono hk.size); clear hN2 hP2a hk2 q2 hb8)
  | (with_reducible refine wpList_loadb (by kernel_rfl) 25 _ rfl P1 rfl _ hP1 _ Tryz.underlying25 (by kernel_rfl) (hz2 _) ?_)
  | (with_reducible refine wpList_loadb (by kernel_rfl) 43 _ rfl P2 rfl _ hP2 _ Tryz.underlying43 (by kernel_rfl) (size40C (by kernel_rfl)) ?_)
  | (go_at_call 23; have hx := hP3; (with_reducible refine (hat2 _ hBx).mono ?_); rintro e w5 ⟨aX, nX, cX, rfl, oX, hb8⟩; replace hBx := hBx.next hb8; replace hP1 := hP1.next hb8; replace hP2 := hP2.next hb8; replace hP3 := hP3.next hb8; replace hk := hk.trans (hb8.mono hk.size); clear hb8 hx; obtain rfl : 2 = nX := oX.1)
  | (go_at_call 23; (with_reducible refine (hat1 _ hBx).mono ?_); rintro e w3 ⟨aZ, nZ, cZ, rfl, oZ, hb8⟩; replace hBx := hBx.next hb8; replace hP1 := hP1.next hb8; replace hP2 := hP2.next hb8; replace hk := hk.trans (hb8.mono hk.size); clear hb8 oZ)
  | ((with_reducible refine wpList_store_blk rfl _ _ _ rfl P3 rfl _ rfl zW hP3a (hz2 _) (hs2 _) (h12 aZ nZ cZ) ?_); intro V3 hP3 q3; have hb8 : Below w3.heap.size w3 V3 := q3.below w3.heap.size w3 (by have := hN3.out; omega) hk3; replace hBx := hBx.next hb8; replace hP1 := hP1.next hb8; replace hP2 := hP2.next hb8; replace hk := hk.trans (hb8.mono hk.size); clear hN3 hP3a hk3 q3 hb8)
  | ((with_reducible refine wpList_store_cell rfl _ _ _ rfl P2 3 rfl (.int .i64 2) rfl rfl _ _ hP2 sizeI (by rw [hz3s]; omega) rfl ?_); intro V4 hP2n q4; replace hBx := hBx.other q4 hne.out.1; replace hP1 := hP1.other q4 hne.out.2.1; replace hP3 := hP3.other q4 hne.out.2.2.1; replace hk := q4.below _ _ hne.out.2.2.2 hk; rw [com_set3] at hP2n; clear hP2; have hP2 := hP2n; clear hP2n q4)
  | ((with_reducible refine wpList_store_blk rfl _ _ _ rfl P5 rfl _ rfl zW hP5a (hz2 _) (hs2 _) (h12 aX 2 cX) ?_); intro V5 hP5 q5; have hb8 : Below w5.heap.size w5 V5 := q5.below w5.heap.size w5 (by have := hN5.out; omega) hk5; replace oX := ObsN.next oX (fun _ h => h.elim) hb8; replace hP1 := hP1.next hb8; replace hBx := hBx.next hb8; replace hk := hk.trans (hb8.mono hk.size); clear hN5 hP5a hk5 q5 hb8))
 have r5 : Hid ((5 : Int) = 5) := rfl
 have r0 : Hid ((0 : Int) = 0) := rfl
 have r2 : Hid (((2 : Nat) : Int) = 2) := rfl
 obtain ⟨bX, oX0, C0, e0, hbX0, hC0, hr0⟩ := obs_atD oX (i := 0) (by omega)
 cases e0
 have hbX : bX < V5.heap.size := hbX0.2
 have hroom := fun (W : World) (hk : Below V5.heap.size V5 W) => aw_rm (obs_next (oX.wide (fun b hb => by rcases hb with q | q; exact q.elim; exact q.2) (fun b hb => hb.2)) hk) ((hC0.laterK fun b hb => hk.block b (by rcases hb with q | q; exact q.elim; exact q.2)).wide fun b hb => Nat.lt_of_lt_of_le (by rcases hb with q | q; exact q.elim; exact q.2) hk.size)
 refine PgM.region_out (S := fun W => Below V5.heap.size V5 W) hmx ((Below.refl _ _).drew) (fun hS => ?_)
 generalize V5.drew = v5 at hS ⊢
 refine wpAnyH_sym (by kernel_rfl) (fun _ _ _ _ _ h => h) hS [(0, some (.agg #[.int .i64 0, .int .u64 0, .int .u64 1, .slice (some ⟨Bx, 0, none⟩) 1 1]))] (l' := #[true, false, false, false, false, false, false, false, false, false, false, false, false, false, false, false, false, false, false, false, false, false, false, false, false, false]) (a' := { tmps := #[.bool false, .pointer (some ⟨P1, 0, none⟩), .pointer (some ⟨P2, 0, none⟩), .pointer (some ⟨P3, 0, none⟩), .int .i64 5, .pointer (some ⟨P5, 0, none⟩), .int .i64 0, .agg (comC (.int .u64 1) (.int .i64 2) (.slice none 0 0) (.int .i64 3) (.bool false)), .slice (some ⟨Bx, 0, none⟩) 1 1, .agg #[.int .i64 0, .int .u64 0, .int .u64 1, .slice (some ⟨Bx, 0, none⟩) 1 1], .agg (comC (.int .u64 2) (.int .i64 1) (.slice none 0 0) (.int .i64 3) (.bool false)), .tuple #[.agg #[.int .i64 0, .int .u64 0, .int .u64 1, .slice aZ nZ cZ], .int .i64 5], .agg #[.int .i64 0, .int .u64 0, .int .u64 1, .slice (some ⟨Bx, 0, none⟩) 1 1], .agg (comC (.int .u64 2) (.int .i64 1) (.slice none 0 0) (.int .i64 3) (.bool false)), .tuple #[.agg #[.int .i64 0, .int .u64 0, .int .u64 1, .slice aZ nZ cZ], .int .i64 5], .agg #[.int .i64 0, .int .u64 0, .int .u64 1, .slice aZ nZ cZ], .int .i64 5, .pointer (some ⟨P2, 3, none⟩), .tuple #[.agg #[.int .i64 0, .int .u64 0, .int .u64 1, .slice (some ⟨bX, oX0, none⟩) 2 cX], .int .i64 0], .agg #[.int .i64 0, .int .u64 0, .int .u64 1, .slice (some ⟨Bx, 0, none⟩) 1 1], .agg (comC (.int .u64 2) (.int .i64 1) (.slice none 0 0) (.int .i64 2) (.bool false)), .tuple #[.agg #[.int .i64 0, .int .u64 0, .int .u64 1, .slice (some ⟨bX, oX0, none⟩) 2 cX], .int .i64 0], .agg #[.int .i64 0, .int .u64 0, .int .u64 1, .slice (some ⟨bX, oX0, none⟩) 2 cX], .int .i64 0, .agg #[.int .i64 0, .int .u64 0, .int .u64 1, .slice (some ⟨Bx, 0, none⟩) 1 1], ud, ud, ud, ud, ud, ud, ud, ud, ud, ud, ud, ud, ud, ud, ud, ud, ud, ud, ud, ud, ud, ud, ud, undef], defers := [] }) (obs := [.load 25 P1 0 (.agg #[.int .i64 0, .int .u64 0, .int .u64 1, .slice (some ⟨Bx, 0, none⟩) 1 1])]) (n := 25) (by kernel_rfl) (by kernel_rfl) ⟨ob_loadb (fun _ h => hP1.next h) Tryz.underlying25 (by kernel_rfl) (hz2 _), trivial⟩ ?_
 refine wpAnyH_callL (i := 1) (fuel := 24) (f := 10) (vs := [.agg #[.int .i64 0, .int .u64 0, .int .u64 1, .slice (some ⟨Bx, 0, none⟩) 1 1]]) (d := some 25) (by kernel_rfl) (by kernel_rfl) (by kernel_rfl) Tryz.call10 (hfit _ (hBx.next hS)) ?_
 rintro e v6 ⟨rfl, hb⟩
 have hS6 : Below V5.heap.size V5 v6 := hS.trans (hb.mono hS.size)
 refine ⟨_, rfl, hS6, ?_⟩
 refine wpAnyH_sym (by kernel_rfl) (fun _ _ _ _ _ h => h) hS6 [(2, none), (3, none), (4, some (.bool true)), (5, none), (6, none), (7, none), (8, some (.bool true)), (9, none), (10, none), (11, none), (12, some (.slice (some ⟨bX, oX0, none⟩) 2 cX)), (13, some (.int .i64 2)), (14, some (.bool true)), (15, none), (16, none), (17, some (.agg #[.int .i64 0, .int .u64 0, .int .u64 1, .slice (some ⟨bX, oX0, none⟩) 2 cX])), (18, none), (19, some (.slice (some ⟨bX, oX0, none⟩) 2 cX)), (20, some (.pointer (some ⟨bX, oX0 + 0 * 51, none⟩))), (21, some (.agg C0))] (l' := #[true, true, true, true, true, true, true, true, true, true, true, true, true, true, true, true, true, true, true, true, true, true, false, false, false, false]) (a' := { tmps := #[.bool false, .pointer (some ⟨P1, 0, none⟩), .pointer (some ⟨P2, 0, none⟩), .pointer (some ⟨P3, 0, none⟩), .int .i64 5, .pointer (some ⟨P5, 0, none⟩), .int .i64 0, .agg (comC (.int .u64 1) (.int .i64 2) (.slice none 0 0) (.int .i64 3) (.bool false)), .slice (some ⟨Bx, 0, none⟩) 1 1, .agg #[.int .i64 0, .int .u64 0, .int .u64 1, .slice (some ⟨Bx, 0, none⟩) 1 1], .agg (comC (.int .u64 2) (.int .i64 1) (.slice none 0 0) (.int .i64 3) (.bool false)), .tuple #[.agg #[.int .i64 0, .int .u64 0, .int .u64 1, .slice aZ nZ cZ], .int .i64 5], .agg #[.int .i64 0, .int .u64 0, .int .u64 1, .slice (some ⟨Bx, 0, none⟩) 1 1], .agg (comC (.int .u64 2) (.int .i64 1) (.slice none 0 0) (.int .i64 3) (.bool false)), .tuple #[.agg #[.int .i64 0, .int .u64 0, .int .u64 1, .slice aZ nZ cZ], .int .i64 5], .agg #[.int .i64 0, .int .u64 0, .int .u64 1, .slice aZ nZ cZ], .int .i64 5, .pointer (some ⟨P2, 3, none⟩), .tuple #[.agg #[.int .i64 0, .int .u64 0, .int .u64 1, .slice (some ⟨bX, oX0, none⟩) 2 cX], .int .i64 0], .agg #[.int .i64 0, .int .u64 0, .int .u64 1, .slice (some ⟨Bx, 0, none⟩) 1 1], .agg (comC (.int .u64 2) (.int .i64 1) (.slice none 0 0) (.int .i64 2) (.bool false)), .tuple #[.agg #[.int .i64 0, .int .u64 0, .int .u64 1, .slice (some ⟨bX, oX0, none⟩) 2 cX], .int .i64 0], .agg #[.int .i64 0, .int .u64 0, .int .u64 1, .slice (some ⟨bX, oX0, none⟩) 2 cX], .int .i64 0, .agg #[.int .i64 0, .int .u64 0, .int .u64 1, .slice (some ⟨Bx, 0, none⟩) 1 1], .bool true, .bool true, .int .i64 5, .bool true, .bool true, .bool true, .int .i64 0, .bool true, .bool true, .bool true, .pointer (some ⟨P5, 3, none⟩), .slice (some ⟨bX, oX0, none⟩) 2 cX, .int .i64 2, .bool true, .bool true, .bool true, .agg #[.int .i64 0, .int .u64 0, .int .u64 1, .slice (some ⟨bX, oX0, none⟩) 2 cX], .pointer (some ⟨P5, 3, none⟩), .slice (some ⟨bX, oX0, none⟩) 2 cX, .pointer (some ⟨bX, oX0 + 0 * 51, none⟩), .agg C0, ud, ud, undef], defers := [] }) (obs := [.test .eql 51 (.tmp 27) (.const (.int .i64 5)) (.int .i64 5) (.int .i64 5) (.bool true), .test .eql 51 (.tmp 31) (.const (.int .i64 0)) (.int .i64 0) (.int .i64 0) (.bool true), .load 23 P5 3 (.slice (some ⟨bX, oX0, none⟩) 2 cX), .ln 23 3 (.slice (some ⟨bX, oX0, none⟩) 2 cX) (.int .i64 2), .test .eql 3 (.tmp 37) (.const (.int .i64 2)) (.int .i64 2) (.int .i64 2) (.bool true), .load 25 P5 0 (.agg #[.int .i64 0, .int .u64 0, .int .u64 1, .slice (some ⟨bX, oX0, none⟩) 2 cX]), .load 23 P5 3 (.slice (some ⟨bX, oX0, none⟩) 2 cX), .ia 23 (.slice (some ⟨bX, oX0, none⟩) 2 cX) (.int .i64 0) (.pointer (some ⟨bX, oX0 + 0 * 51, none⟩)), .load 43 bX (oX0 + 0 * 51) (.agg C0)]) (n := 4) (by kernel_rfl) (by kernel_rfl) ⟨ob_yes (fun _ => eqg_int _ _ _ _ _ _) r5, ob_yes (fun _ => eqg_int _ _ _ _ _ _) r0, ob_load1 (fun _ h => hP5.next h) rfl Tryz.isAgg23, ob_ln (n := 2), ob_yes (fun _ => eqg_int _ _ _ _ _ _) r2, ob_loadb (fun _ h => hP5.next h) Tryz.underlying25 (by kernel_rfl) (hz2 _), ob_load1 (fun _ h => hP5.next h) rfl Tryz.isAgg23, ia_at (i := 0) (by omega), ob_loadm (fun _ h => range_block hr0 (h.block bX hbX)) Tryz.underlying43 (by kernel_rfl) (size40C hC0.size), trivial⟩ ?_
 refine wpAnyH_callL (i := 22) (fuel := 3) (f := 16) (vs := [.agg #[.int .i64 0, .int .u64 0, .int .u64 1, .slice (some ⟨bX, oX0, none⟩) 2 cX], .agg C0]) (d := some 46) (by kernel_rfl) (by kernel_rfl) (by kernel_rfl) Tryz.call16 (hroom _ hS6) ?_
 rintro e v7 ⟨rfl, hb⟩
 have hS7 : Below V5.heap.size V5 v7 := hS6.trans (hb.mono hS6.size)
 refine ⟨_, rfl, hS7, ?_⟩
 refine wpAnyH_sym (by kernel_rfl) (fun _ _ _ _ _ h => h) hS7 [(23, some (.bool true)), (24, none), (25, none)] (l' := #[true, true, true, true, true, true, true, true, true, true, true, true, true, true, true, true, true, true, true, true, true, true, true, true, true, true]) (a' := { tmps := #[.bool true, .pointer (some ⟨P1, 0, none⟩), .pointer (some ⟨P2, 0, none⟩), .pointer (some ⟨P3, 0, none⟩), .int .i64 5, .pointer (some ⟨P5, 0, none⟩), .int .i64 0, .agg (comC (.int .u64 1) (.int .i64 2) (.slice none 0 0) (.int .i64 3) (.bool false)), .slice (some ⟨Bx, 0, none⟩) 1 1, .agg #[.int .i64 0, .int .u64 0, .int .u64 1, .slice (some ⟨Bx, 0, none⟩) 1 1], .agg (comC (.int .u64 2) (.int .i64 1) (.slice none 0 0) (.int .i64 3) (.bool false)), .tuple #[.agg #[.int .i64 0, .int .u64 0, .int .u64 1, .slice aZ nZ cZ], .int .i64 5], .agg #[.int .i64 0, .int .u64 0, .int .u64 1, .slice (some ⟨Bx, 0, none⟩) 1 1], .agg (comC (.int .u64 2) (.int .i64 1) (.slice none 0 0) (.int .i64 3) (.bool false)), .tuple #[.agg #[.int .i64 0, .int .u64 0, .int .u64 1, .slice aZ nZ cZ], .int .i64 5], .agg #[.int .i64 0, .int .u64 0, .int .u64 1, .slice aZ nZ cZ], .int .i64 5, .pointer (some ⟨P2, 3, none⟩), .tuple #[.agg #[.int .i64 0, .int .u64 0, .int .u64 1, .slice (some ⟨bX, oX0, none⟩) 2 cX], .int .i64 0], .agg #[.int .i64 0, .int .u64 0, .int .u64 1, .slice (some ⟨Bx, 0, none⟩) 1 1], .agg (comC (.int .u64 2) (.int .i64 1) (.slice none 0 0) (.int .i64 2) (.bool false)), .tuple #[.agg #[.int .i64 0, .int .u64 0, .int .u64 1, .slice (some ⟨bX, oX0, none⟩) 2 cX], .int .i64 0], .agg #[.int .i64 0, .int .u64 0, .int .u64 1, .slice (some ⟨bX, oX0, none⟩) 2 cX], .int .i64 0, .agg #[.int .i64 0, .int .u64 0, .int .u64 1, .slice (some ⟨Bx, 0, none⟩) 1 1], .bool true, .bool true, .int .i64 5, .bool true, .bool true, .bool true, .int .i64 0, .bool true, .bool true, .bool true, .pointer (some ⟨P5, 3, none⟩), .slice (some ⟨bX, oX0, none⟩) 2 cX, .int .i64 2, .bool true, .bool true, .bool true, .agg #[.int .i64 0, .int .u64 0, .int .u64 1, .slice (some ⟨bX, oX0, none⟩) 2 cX], .pointer (some ⟨P5, 3, none⟩), .slice (some ⟨bX, oX0, none⟩) 2 cX, .pointer (some ⟨bX, oX0 + 0 * 51, none⟩), .agg C0, .int .i64 0, .bool true, .bool true], defers := [] }) (obs := [.test .eql 3 (.tmp 46) (.const (.int .i64 0)) (.int .i64 0) (.int .i64 0) (.bool true)]) (n := 0) (by kernel_rfl) (by kernel_rfl) ⟨ob_yes (fun _ => eqg_int _ _ _ _ _ _) r0, trivial⟩ ?_
 refine wpAnyH_done (by kernel_rfl) ?_ _
 go_wp2
 go_ret
 exact ⟨rfl, hk.trans (hS7.mono hk.size)⟩
end Go.Proofs.YtnhjfjhbmekamaaGreat
