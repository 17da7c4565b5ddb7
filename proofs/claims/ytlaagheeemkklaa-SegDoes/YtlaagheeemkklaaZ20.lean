/-
 PROVED HERE: small facts for the laws' walks: answers that are known ahead; rows of objects that keep off some blocks; thre. What is asked stands at each.
-/
import Derived.Test.YtlaagheeemkklaaZ15
import Derived.Test.YtlaagheeemkklaaZ19
namespace Go.Proofs.Ytlaagheeemkklaa
set_option maxRecDepth 100000
set_option maxHeartbeats 8000000
open Go.RowKit Go.Shelf
set_option linter.unusedVariables false
attribute [local go_sem] Oper.semAt_some

theorem Asks.val {f : FuncId} {args : Array Value} {X : Prop} {W : World} {b : Bool} (h : Asks f args X W) (hb : Hid (b = true ↔ X)) : Calls Try.prog f args W fun e w' => e = .returned (.bool b) ∧ Below W.heap.size W w' := by
 refine h.mono ?_
 rintro e w' ⟨b', rfl, h', k⟩
 refine ⟨?_, k⟩
 have := hb.out
 have := h'.out
 cases b <;> cases b' <;> simp_all
theorem Asks.sure {f : FuncId} {args : Array Value} {X : Prop} {W : World} (h : Asks f args X W) (hX : X) : Calls Try.prog f args W fun e w' => e = .returned (.bool true) ∧ Below W.heap.size W w' := h.val (b := true) (by show _ ↔ _; exact ⟨fun _ => hX, fun _ => rfl⟩)
theorem bool_of (X : Prop) : ∃ b : Bool, Hid (b = true ↔ X) := by
 rcases Classical.em X with h | h
 ·exact ⟨true, fun _ => h, fun _ => rfl⟩
 ·exact ⟨false, fun e => absurd e Bool.false_ne_true, fun e => absurd e h⟩
theorem labD_next {w w' : World} {ao : Option Addr} {n cap : Nat} {L : Lb} (h : LabD (LtN w) w ao n cap L) (k : Below w.heap.size w w') : LabD (LtN w') w' ao n cap L := (LabD.laterK h fun b hb => k.block b hb).wide fun b hb => Nat.lt_of_lt_of_le hb k.size
theorem small_z : Small zOb := by
 refine ⟨?_, ?_, ?_, ?_, ?_, ?_, ?_, ?_, ?_, ?_, ?_, ?_, ?_, ?_⟩ <;> decide
end Go.Proofs.Ytlaagheeemkklaa
namespace Go.Proofs.Ytlaagheeemkklaa
set_option maxRecDepth 100000
set_option maxHeartbeats 8000000
open Go.RowKit Go.Shelf
set_option linter.unusedVariables false
attribute [local go_sem] Oper.semAt_some

def cpE (x : Ob) (i : Int) (L : Lb) (q : Int) : Int := if x.kind = 1 then (if q < 1 ∨ rooN q < x.data.length then 5 else if soundB (sgO i L q false x.data) = true then 0 else 4) else 3
def cpO (x : Ob) (i : Int) (L : Lb) (q : Int) : Ob := if cpE x i L q = 0 then sgO i L q false x.data else zOb
theorem sg_d {D : Nat → Prop} {w : World} {i q : Int} {ao a6 : Option Addr} {n c n6 c6 : Nat} {L : Lb} {d : List Int} (h : LabD D w ao n c L) (k : CtD D w a6 n6 c6 d) : ObD D w ((comC (.int .u64 i) (.int .i64 1) (.slice ao n c) (.int .i64 q) (.bool false)).setIfInBounds 6 (.slice a6 n6 c6)) (sgO i L q false d) :=
 (comC_d h).set6 ⟨_, _, _, rfl, k⟩ rfl
theorem sg_small {x : Ob} (hs : Small x) {i q : Int} {L : Lb} {f : Bool} (hL : L.length < 4294967296) : Small (sgO i L q f x.data) :=
 ⟨hL, small_z.c5, hs.c6, small_z.c7, small_z.c25, small_z.c36, small_z.c39, small_z.c40, small_z.c41, small_z.c42, small_z.c43, small_z.c44, small_z.c49, small_z.c50⟩
theorem CtV.ct_of {D : Nat → Prop} {w : World} {v : Option Value} {d : List Int} {a6 : Option Addr} {n6 c6 : Nat} (h : CtV D w v d) (e : v = some (.slice a6 n6 c6)) : CtD D w a6 n6 c6 d := by
 obtain ⟨a, n, c, e', k⟩ := h
 rw [e] at e'
 cases e'
 exact k
theorem copy_any {w : World} {C : Array Value} {x : Ob} (h : ObD (LtN w) w C x) (hs : Small x) {i q : Int} {ao : Option Addr} {n cap : Nat} {L : Lb} (hL : LabD (LtN w) w ao n cap L) (hn : L.length < 4294967296) : Calls Try.prog 15 #[.agg C, .int .u64 i, .slice ao n cap, .int .i64 q] w fun e w' => ∃ C', e = .returned (.tuple #[.agg C', .int .i64 (cpE x i L q)]) ∧ ObD (New w w') w' C' (cpO x i L q) ∧ Below w.heap.size w w' := by
 have ga2 := Try.isAgg3
 have ga4 := Try.isAgg25
 have hki := h.kind
 have hz := h.size
 obtain ⟨a6, n6, c6, e6, l6⟩ := h.data
 have hn6 : Hid (x.data.length = n6) := l6.1
 have hc6 : n6 < 9223372036854775808 := by have := l6.2.1; have := l6.2.2.1.1; omega
 have hMk := fun (W : World) (hk : Below w.heap.size w W) => (sg_d (i := i) (q := q) (labD_next hL hk) ((h.next hk).data.ct_of e6)).wide (D' := LtN W) fun _ hb => hb
 have hCz := (hMk w (Below.refl _ _)).size
 have hCo := (hMk w (Below.refl _ _)).one
 have hsm := sg_small hs (i := i) (q := q) (f := false) hn
 unfold cpO cpE
 rw [hn6.out]
 have hroom := fun w => room_any q w
 by_cases h1 : x.kind = 1
 ·rw [h1] at hki
  rw [if_pos h1]
  by_cases hq : q < 1
  ·rw [if_pos (.inl hq), if_neg (by omega)]
   clear l6 h hMk hCz hCo hsm hs hL
   go_enter Try.func15, Try.ntmps15
   go_wp2_with (first
    | (with_reducible refine wpList_box rfl _ _ rfl C rfl ?_; intro B W hB hb hk)
    | ((with_reducible refine wpList_alloc rfl _ rfl zC zero40 ?_); intro R W1 hB1 hR hk1; have hBl := hb.lt; replace hb := hb.next hk1; replace hk := hk.trans (hk1.mono hk.size))
    | (with_reducible refine wpList_load1 (by kernel_rfl) _ _ rfl B 1 rfl _ _ hb _ hki ga2 ?_))
   go_quiet (fail)
   have hkd := PgM.below_drewN (Below.refl W1.heap.size W1) nq
   replace hb := hb.next hkd
   replace hR := hR.next hkd
   replace hk := hk.trans (hkd.mono hk.size)
   clear hkd
   go_wp2_with (first
    | ((with_reducible refine wpList_build rfl _ [] rfl zC ?hf ?_); (case hf => exact built_z))
    | ((with_reducible refine wpList_store_blk rfl _ _ _ rfl R rfl zC rfl zC hR (size40C zC_size) rfl (zC_d (fun _ => True) w).one ?_); intro W8 hR8 o8))
   have hRw : w.heap.size ≤ R := by have := hB1.out; have := hB.out; omega
   refine bodyPost_ret (v := .tuple #[.agg zC, .int .i64 5]) (res40b Try.results15 rfl rfl hR8 zC_size) rfl ?_
   exact ⟨zC, rfl, zC_d _ _, o8.below _ _ hRw hk⟩
  ·by_cases hr : rooN q < n6
   ·rw [if_pos (.inr hr), if_neg (by omega)]
    clear l6 h hMk hCz hCo hsm hs hL
    obtain ⟨ro, hro⟩ : ∃ ro, rooN q = ro := ⟨_, rfl⟩
    rw [hro] at hr hroom
    clear hro
    have hr' : ro < (n6 : Int) := hr
    go_enter Try.func15, Try.ntmps15
    go_wp2_with (first
     | (with_reducible refine wpList_box rfl _ _ rfl C rfl ?_; intro B W hB hb hk)
     | ((with_reducible refine wpList_alloc rfl _ rfl zC zero40 ?_); intro R W1 hB1 hR hk1; have hBl := hb.lt; replace hb := hb.next hk1; replace hk := hk.trans (hk1.mono hk.size))
     | (with_reducible refine wpList_load1 (by kernel_rfl) _ _ rfl B 1 rfl _ _ hb _ hki ga2 ?_))
    have h6c : W1.cell? ⟨B, 6, none⟩ = some (.slice a6 n6 c6) := (hb.cell 6).trans e6
    go_quiet (first | (go_at_call 27; refine Calls.quiet_of_same (hroom _)))
    have hkd := PgM.below_drewN (Below.refl W1.heap.size W1) nq
    replace hb := hb.next hkd
    replace hR := hR.next hkd
    replace hk := hk.trans (hkd.mono hk.size)
    clear hkd
    go_wp2_with (first
     | ((with_reducible refine wpList_build rfl _ [] rfl zC ?hf ?_); (case hf => exact built_z))
     | ((with_reducible refine wpList_store_blk rfl _ _ _ rfl R rfl zC rfl zC hR (size40C zC_size) rfl (zC_d (fun _ => True) w).one ?_); intro W8 hR8 o8))
    have hRw : w.heap.size ≤ R := by have := hB1.out; have := hB.out; omega
    refine bodyPost_ret (v := .tuple #[.agg zC, .int .i64 5]) (res40b Try.results15 rfl rfl hR8 zC_size) rfl ?_
    exact ⟨zC, rfl, zC_d _ _, o8.below _ _ hRw hk⟩
   ·rw [if_neg (by intro q; rcases q with q | q <;> omega)]
    obtain ⟨ro, hro⟩ : ∃ ro, rooN q = ro := ⟨_, rfl⟩
    rw [hro] at hr hroom
    clear hro
    by_cases hso : soundB (sgO i L q false x.data) = true
    ·rw [if_pos hso, if_pos rfl]
     go_enter Try.func15, Try.ntmps15
     go_wp2_with (first
      | (with_reducible refine wpList_box rfl _ _ rfl C rfl ?_; intro B W hB hb hk)
      | ((with_reducible refine wpList_alloc rfl _ rfl zC zero40 ?_); intro R W1 hB1 hR hk1; have hBl := hb.lt; replace hb := hb.next hk1; replace hk := hk.trans (hk1.mono hk.size))
      | (with_reducible refine wpList_load1 (by kernel_rfl) _ _ rfl B 1 rfl _ _ hb _ hki ga2 ?_))
     have h6c : W1.cell? ⟨B, 6, none⟩ = some (.slice a6 n6 c6) := (hb.cell 6).trans e6
     go_quiet (first | (go_at_call 27; refine Calls.quiet_of_same (hroom _)))
     have hkd := PgM.below_drewN (Below.refl W1.heap.size W1) nq
     replace hb := hb.next hkd
     replace hR := hR.next hkd
     replace hk := hk.trans (hkd.mono hk.size)
     clear hkd
     go_wp2_with (first
      | (with_reducible refine wpList_load1 (by kernel_rfl) _ _ rfl B 6 rfl _ _ hb _ e6 ga4 ?_)
      | ((with_reducible refine wpList_build rfl _ [(0, _), (1, _), (2, _), (3, _), (6, _)] rfl _ ?hf ?_); (case hf => exact built_sg _ _ _ _ _ _ _ _))
      | ((with_reducible refine wpList_alloc rfl _ rfl zC zero40 ?_); intro P W3 hB3 hP hk3; have hRP : R < P := (by have := hR.lt; have := hB3.out.1; omega); replace hb := hb.next hk3; replace hR := hR.next hk3; replace hk := hk.trans (hk3.mono hk.size))
      | ((with_reducible refine wpList_store_blk rfl _ _ _ rfl P rfl _ rfl zC hP (size40C hCz) (zC_size.trans hCz.symm) hCo ?_); intro W4 hP4 o4; replace hk := o4.below _ _ (by have := hB1.out; have := hB.out; omega) hk; replace hR := hR.other o4 (by omega))
      | (with_reducible refine wpList_load_blk rfl _ _ rfl P rfl _ hP4 _ Try.underlying40 rfl (size40C hCz) ?_)
      | (go_at_call 28; (with_reducible refine ((sound_any (hMk _ hk)).yes hso).mono ?_); rintro e w5 ⟨rfl, hk5⟩; replace hP4 := hP4.next hk5; replace hR := hR.next hk5; replace hk := hk.trans (hk5.mono hk.size))
      | (go_at_call 24; (with_reducible refine (alone_any (hMk _ hk) hsm).mono ?_); rintro e w6 ⟨CR, rfl, hA, hk6⟩; have hRl := hR.lt; have hwv := hk.size; replace hR := hR.next hk6; have hzR := hA.1.size; have hoR := hA.1.one; replace hk := hk.trans (hk6.mono hk.size))
      | ((with_reducible refine wpList_store_blk rfl _ _ _ rfl R rfl CR rfl zC hR (size40C hzR) (zC_size.trans hzR.symm) hoR ?_); intro W8 hR8 o8; have hOR : ObD (New w W8) W8 CR (sgO i L q false x.data) := (hA.oth o8 hRl).1.wide fun b hb => ⟨Nat.le_trans hwv hb.1, hb.2⟩))
     have hRw : w.heap.size ≤ R := by have := hB1.out; have := hB.out; omega
     refine bodyPost_ret (v := .tuple #[.agg CR, .int .i64 0]) (res40b Try.results15 rfl rfl hR8 hzR) rfl ?_
     exact ⟨CR, rfl, hOR, o8.below _ _ hRw hk⟩
    ·rw [if_neg hso, if_neg (by omega)]
     go_enter Try.func15, Try.ntmps15
     go_wp2_with (first
      | (with_reducible refine wpList_box rfl _ _ rfl C rfl ?_; intro B W hB hb hk)
      | ((with_reducible refine wpList_alloc rfl _ rfl zC zero40 ?_); intro R W1 hB1 hR hk1; have hBl := hb.lt; replace hb := hb.next hk1; replace hk := hk.trans (hk1.mono hk.size))
      | (with_reducible refine wpList_load1 (by kernel_rfl) _ _ rfl B 1 rfl _ _ hb _ hki ga2 ?_))
     have h6c : W1.cell? ⟨B, 6, none⟩ = some (.slice a6 n6 c6) := (hb.cell 6).trans e6
     go_quiet (first | (go_at_call 27; refine Calls.quiet_of_same (hroom _)))
     have hkd := PgM.below_drewN (Below.refl W1.heap.size W1) nq
     replace hb := hb.next hkd
     replace hR := hR.next hkd
     replace hk := hk.trans (hkd.mono hk.size)
     clear hkd
     go_wp2_with (first
      | (with_reducible refine wpList_load1 (by kernel_rfl) _ _ rfl B 6 rfl _ _ hb _ e6 ga4 ?_)
      | ((with_reducible refine wpList_build rfl _ [(0, _), (1, _), (2, _), (3, _), (6, _)] rfl _ ?hf ?_); (case hf => exact built_sg _ _ _ _ _ _ _ _))
      | ((with_reducible refine wpList_alloc rfl _ rfl zC zero40 ?_); intro P W3 hB3 hP hk3; have hRP : R < P := (by have := hR.lt; have := hB3.out.1; omega); replace hb := hb.next hk3; replace hR := hR.next hk3; replace hk := hk.trans (hk3.mono hk.size))
      | ((with_reducible refine wpList_store_blk rfl _ _ _ rfl P rfl _ rfl zC hP (size40C hCz) (zC_size.trans hCz.symm) hCo ?_); intro W4 hP4 o4; replace hk := o4.below _ _ (by have := hB1.out; have := hB.out; omega) hk; replace hR := hR.other o4 (by omega))
      | (with_reducible refine wpList_load_blk rfl _ _ rfl P rfl _ hP4 _ Try.underlying40 rfl (size40C hCz) ?_)
      | (go_at_call 28; (with_reducible refine ((sound_any (hMk _ hk)).no hso).mono ?_); rintro e w5 ⟨rfl, hk5⟩; replace hP4 := hP4.next hk5; replace hR := hR.next hk5; replace hk := hk.trans (hk5.mono hk.size))
      | ((with_reducible refine wpList_build rfl _ [] rfl zC ?hf ?_); (case hf => exact built_z))
      | ((with_reducible refine wpList_store_blk rfl _ _ _ rfl R rfl zC rfl zC hR (size40C zC_size) rfl (zC_d (fun _ => True) w).one ?_); intro W8 hR8 o8))
     have hRw : w.heap.size ≤ R := by have := hB1.out; have := hB.out; omega
     refine bodyPost_ret (v := .tuple #[.agg zC, .int .i64 4]) (res40b Try.results15 rfl rfl hR8 zC_size) rfl ?_
     exact ⟨zC, rfl, zC_d _ _, o8.below _ _ hRw hk⟩
 ·have h1' : (x.kind == 1) = false := by simpa using h1
  rw [if_neg h1, if_neg (by omega)]
  go_enter Try.func15, Try.ntmps15
  go_wp2_with (first
   | (with_reducible refine wpList_box rfl _ _ rfl C rfl ?_; intro B W hB hb hk)
   | ((with_reducible refine wpList_alloc rfl _ rfl zC zero40 ?_); intro R W1 hB1 hR hk1; have hBl := hb.lt; replace hb := hb.next hk1; replace hk := hk.trans (hk1.mono hk.size))
   | (with_reducible refine wpList_load1 (by kernel_rfl) _ _ rfl B 1 rfl _ _ hb _ hki ga2 ?_)
   | ((with_reducible refine wpList_build rfl _ [] rfl zC ?hf ?_); (case hf => exact built_z))
   | ((with_reducible refine wpList_store_blk rfl _ _ _ rfl R rfl zC rfl zC hR (size40C zC_size) rfl (zC_d (fun _ => True) w).one ?_); intro W8 hR8 o8))
  have hRw : w.heap.size ≤ R := by have := hB1.out; have := hB.out; omega
  refine bodyPost_ret (v := .tuple #[.agg zC, .int .i64 3]) (res40b Try.results15 rfl rfl hR8 zC_size) rfl ?_
  exact ⟨zC, rfl, zC_d _ _, o8.below _ _ hRw hk⟩
theorem rcopy_any {w : World} {C : Array Value} {x : Ob} (h : ObD (LtN w) w C x) (hs : Small x) {i q : Int} {ao : Option Addr} {n cap : Nat} {L : Lb} (hL : LabD (LtN w) w ao n cap L) (hn : L.length < 4294967296) (hroo : x.data.length ≤ 65520) : Calls Try.prog 16 #[.agg C, .int .u64 i, .slice ao n cap, .int .i64 q] w fun e w' => ∃ C', e = .returned (.tuple #[.agg C', .int .i64 (cpE x i L q)]) ∧ ObD (LtN w') w' C' (cpO x i L q) ∧ Below w.heap.size w w' := by
 have ga2 := Try.isAgg3
 have ga4 := Try.isAgg25
 have hki := h.kind
 have hz := h.size
 obtain ⟨a6, n6, c6, e6, l6⟩ := h.data
 have hn6 : Hid (x.data.length = n6) := l6.1
 have hc6 : n6 < 9223372036854775808 := by have := l6.2.1; have := l6.2.2.1.1; omega
 have hMk := fun (W : World) (hk : Below w.heap.size w W) => (sg_d (i := i) (q := q) (labD_next hL hk) ((h.next hk).data.ct_of e6)).wide (D' := LtN W) fun _ hb => hb
 have hCz := (hMk w (Below.refl _ _)).size
 have hCo := (hMk w (Below.refl _ _)).one
 have hsm := sg_small hs (i := i) (q := q) (f := false) hn
 unfold cpO cpE
 rw [hn6.out]
 rw [hn6.out] at hroo
 by_cases h1 : x.kind = 1
 ·rw [h1] at hki
  rw [if_pos h1]
  by_cases hq : q < 1
  ·rw [if_pos (.inl hq), if_neg (by omega)]
   clear l6 h hMk hCz hCo hsm hs hL
   go_enter Try.func16, Try.ntmps16
   go_wp2_with (first
    | (with_reducible refine wpList_box rfl _ _ rfl C rfl ?_; intro B W hB hb hk)
    | ((with_reducible refine wpList_alloc rfl _ rfl zC zero40 ?_); intro P W3 hB3 hP hk3; have hRP : R < P := (by have := hR.lt; have := hB3.out.1; omega); replace hb := hb.next hk3; replace hR := hR.next hk3; replace hk := hk.trans (hk3.mono hk.size))
    | ((with_reducible refine wpList_alloc rfl _ rfl zC zero40 ?_); intro R W1 hB1 hR hk1; have hBl := hb.lt; replace hb := hb.next hk1; replace hk := hk.trans (hk1.mono hk.size))
    | (with_reducible refine wpList_load1 (by kernel_rfl) _ _ rfl B 1 rfl _ _ hb _ hki ga2 ?_)
    | (with_reducible refine wpList_load1 (by kernel_rfl) _ _ rfl B 6 rfl _ _ hb _ e6 ga4 ?_)
    | (go_at_call 25; (with_reducible refine (hrv _).mono ?_); rintro e w2 ⟨rfl, rfl⟩)
    | ((with_reducible refine wpList_build rfl _ [] rfl zC ?hf ?_); (case hf => exact built_z))
    | ((with_reducible refine wpList_store_blk rfl _ _ _ rfl R rfl zC rfl zC hR (size40C zC_size) rfl (zC_d (fun _ => True) w).one ?_); intro W8 hR8 o8))
   have hRw : w.heap.size ≤ R := by have := hB1.out; have := hB.out; omega
   refine bodyPost_ret (v := .tuple #[.agg zC, .int .i64 5]) (res40b Try.results16 rfl rfl hR8 zC_size) rfl ?_
   exact ⟨zC, rfl, zC_d _ _, o8.below _ _ hRw hk⟩
  ·by_cases hr : rooN q < n6
   ·rw [if_pos (.inr hr), if_neg (by omega)]
    clear l6 h hMk hCz hCo hsm hs hL
    have hq46 : 1 ≤ q ∧ q ≤ 4096 := by unfold rooN at hr; omega
    have hr' : ¬ (n6 : Int) ≤ 16 * (q - 1) := by unfold rooN at hr; omega
    have hq4 : q ≤ 4096 := hq46.2
    have hrv := fun w => rroom_any (n6 : Int) q w hq46
    simp only [decide_eq_false hr'] at hrv
    clear hr
    go_enter Try.func16, Try.ntmps16
    go_wp2_with (first
     | (with_reducible refine wpList_box rfl _ _ rfl C rfl ?_; intro B W hB hb hk)
     | ((with_reducible refine wpList_alloc rfl _ rfl zC zero40 ?_); intro P W3 hB3 hP hk3; have hRP : R < P := (by have := hR.lt; have := hB3.out.1; omega); replace hb := hb.next hk3; replace hR := hR.next hk3; replace hk := hk.trans (hk3.mono hk.size))
     | ((with_reducible refine wpList_alloc rfl _ rfl zC zero40 ?_); intro R W1 hB1 hR hk1; have hBl := hb.lt; replace hb := hb.next hk1; replace hk := hk.trans (hk1.mono hk.size))
     | (with_reducible refine wpList_load1 (by kernel_rfl) _ _ rfl B 1 rfl _ _ hb _ hki ga2 ?_)
     | (with_reducible refine wpList_load1 (by kernel_rfl) _ _ rfl B 6 rfl _ _ hb _ e6 ga4 ?_)
     | (go_at_call 25; (with_reducible refine (hrv _).mono ?_); rintro e w2 ⟨rfl, rfl⟩)
     | ((with_reducible refine wpList_build rfl _ [] rfl zC ?hf ?_); (case hf => exact built_z))
     | ((with_reducible refine wpList_store_blk rfl _ _ _ rfl R rfl zC rfl zC hR (size40C zC_size) rfl (zC_d (fun _ => True) w).one ?_); intro W8 hR8 o8))
    have hRw : w.heap.size ≤ R := by have := hB1.out; have := hB.out; omega
    refine bodyPost_ret (v := .tuple #[.agg zC, .int .i64 5]) (res40b Try.results16 rfl rfl hR8 zC_size) rfl ?_
    exact ⟨zC, rfl, zC_d _ _, o8.below _ _ hRw hk⟩
   ·rw [if_neg (by intro q; rcases q with q | q <;> omega)]
    by_cases hso : soundB (sgO i L q false x.data) = true
    ·rw [if_pos hso, if_pos rfl]
     by_cases hq4 : q ≤ 4096
     ·have hq46 : 1 ≤ q ∧ q ≤ 4096 := by omega
      have hr' : (n6 : Int) ≤ 16 * (q - 1) := by unfold rooN at hr; omega
      have hrv := fun w => rroom_any (n6 : Int) q w hq46
      simp only [decide_eq_true hr'] at hrv
      clear hr
      go_enter Try.func16, Try.ntmps16
      go_wp2_with (first
       | (with_reducible refine wpList_box rfl _ _ rfl C rfl ?_; intro B W hB hb hk)
       | ((with_reducible refine wpList_alloc rfl _ rfl zC zero40 ?_); intro P W3 hB3 hP hk3; have hRP : R < P := (by have := hR.lt; have := hB3.out.1; omega); replace hb := hb.next hk3; replace hR := hR.next hk3; replace hk := hk.trans (hk3.mono hk.size))
       | ((with_reducible refine wpList_alloc rfl _ rfl zC zero40 ?_); intro R W1 hB1 hR hk1; have hBl := hb.lt; replace hb := hb.next hk1; replace hk := hk.trans (hk1.mono hk.size))
       | (with_reducible refine wpList_load1 (by kernel_rfl) _ _ rfl B 1 rfl _ _ hb _ hki ga2 ?_)
       | (with_reducible refine wpList_load1 (by kernel_rfl) _ _ rfl B 6 rfl _ _ hb _ e6 ga4 ?_)
       | (go_at_call 25; (with_reducible refine (hrv _).mono ?_); rintro e w2 ⟨rfl, rfl⟩)
       | ((with_reducible refine wpList_build rfl _ [(0, _), (1, _), (2, _), (3, _), (6, _)] rfl _ ?hf ?_); (case hf => exact built_sg _ _ _ _ _ _ _ _))
       | ((with_reducible refine wpList_store_blk rfl _ _ _ rfl P rfl _ rfl zC hP (size40C hCz) (zC_size.trans hCz.symm) hCo ?_); intro W4 hP4 o4; replace hk := o4.below _ _ (by have := hB1.out; have := hB.out; omega) hk; replace hR := hR.other o4 (by omega))
       | (with_reducible refine wpList_load_blk rfl _ _ rfl P rfl _ hP4 _ Try.underlying40 rfl (size40C hCz) ?_)
       | (go_at_call 20; (with_reducible refine ((rsound_any (hMk _ hk)).yes hso).mono ?_); rintro e w5 ⟨rfl, hk5⟩; replace hP4 := hP4.next hk5; replace hR := hR.next hk5; replace hk := hk.trans (hk5.mono hk.size))
       | ((with_reducible refine wpList_store_blk rfl _ _ _ rfl R rfl _ rfl zC hR (size40C hCz) (zC_size.trans hCz.symm) hCo ?_); intro W8 hR8 o8; have hOR := hMk _ (o8.below _ _ (by have := hB1.out; have := hB.out; omega) hk)))
      have hRw : w.heap.size ≤ R := by have := hB1.out; have := hB.out; omega
      refine bodyPost_ret (v := .tuple #[.agg _, .int .i64 0]) (res40b Try.results16 rfl rfl hR8 hCz) rfl ?_
      exact ⟨_, rfl, hOR, o8.below _ _ hRw hk⟩
     ·clear hr
      go_enter Try.func16, Try.ntmps16
      go_wp2_with (first
       | (with_reducible refine wpList_box rfl _ _ rfl C rfl ?_; intro B W hB hb hk)
       | ((with_reducible refine wpList_alloc rfl _ rfl zC zero40 ?_); intro P W3 hB3 hP hk3; have hRP : R < P := (by have := hR.lt; have := hB3.out.1; omega); replace hb := hb.next hk3; replace hR := hR.next hk3; replace hk := hk.trans (hk3.mono hk.size))
       | ((with_reducible refine wpList_alloc rfl _ rfl zC zero40 ?_); intro R W1 hB1 hR hk1; have hBl := hb.lt; replace hb := hb.next hk1; replace hk := hk.trans (hk1.mono hk.size))
       | (with_reducible refine wpList_load1 (by kernel_rfl) _ _ rfl B 1 rfl _ _ hb _ hki ga2 ?_)
       | (with_reducible refine wpList_load1 (by kernel_rfl) _ _ rfl B 6 rfl _ _ hb _ e6 ga4 ?_)
       | (go_at_call 25; (with_reducible refine (hrv _).mono ?_); rintro e w2 ⟨rfl, rfl⟩)
       | ((with_reducible refine wpList_build rfl _ [(0, _), (1, _), (2, _), (3, _), (6, _)] rfl _ ?hf ?_); (case hf => exact built_sg _ _ _ _ _ _ _ _))
       | ((with_reducible refine wpList_store_blk rfl _ _ _ rfl P rfl _ rfl zC hP (size40C hCz) (zC_size.trans hCz.symm) hCo ?_); intro W4 hP4 o4; replace hk := o4.below _ _ (by have := hB1.out; have := hB.out; omega) hk; replace hR := hR.other o4 (by omega))
       | (with_reducible refine wpList_load_blk rfl _ _ rfl P rfl _ hP4 _ Try.underlying40 rfl (size40C hCz) ?_)
       | (go_at_call 20; (with_reducible refine ((rsound_any (hMk _ hk)).yes hso).mono ?_); rintro e w5 ⟨rfl, hk5⟩; replace hP4 := hP4.next hk5; replace hR := hR.next hk5; replace hk := hk.trans (hk5.mono hk.size))
       | ((with_reducible refine wpList_store_blk rfl _ _ _ rfl R rfl _ rfl zC hR (size40C hCz) (zC_size.trans hCz.symm) hCo ?_); intro W8 hR8 o8; have hOR := hMk _ (o8.below _ _ (by have := hB1.out; have := hB.out; omega) hk)))
      have hRw : w.heap.size ≤ R := by have := hB1.out; have := hB.out; omega
      refine bodyPost_ret (v := .tuple #[.agg _, .int .i64 0]) (res40b Try.results16 rfl rfl hR8 hCz) rfl ?_
      exact ⟨_, rfl, hOR, o8.below _ _ hRw hk⟩
    ·rw [if_neg hso, if_neg (by omega)]
     by_cases hq4 : q ≤ 4096
     ·have hq46 : 1 ≤ q ∧ q ≤ 4096 := by omega
      have hr' : (n6 : Int) ≤ 16 * (q - 1) := by unfold rooN at hr; omega
      have hrv := fun w => rroom_any (n6 : Int) q w hq46
      simp only [decide_eq_true hr'] at hrv
      clear hr
      go_enter Try.func16, Try.ntmps16
      go_wp2_with (first
       | (with_reducible refine wpList_box rfl _ _ rfl C rfl ?_; intro B W hB hb hk)
       | ((with_reducible refine wpList_alloc rfl _ rfl zC zero40 ?_); intro P W3 hB3 hP hk3; have hRP : R < P := (by have := hR.lt; have := hB3.out.1; omega); replace hb := hb.next hk3; replace hR := hR.next hk3; replace hk := hk.trans (hk3.mono hk.size))
       | ((with_reducible refine wpList_alloc rfl _ rfl zC zero40 ?_); intro R W1 hB1 hR hk1; have hBl := hb.lt; replace hb := hb.next hk1; replace hk := hk.trans (hk1.mono hk.size))
       | (with_reducible refine wpList_load1 (by kernel_rfl) _ _ rfl B 1 rfl _ _ hb _ hki ga2 ?_)
       | (with_reducible refine wpList_load1 (by kernel_rfl) _ _ rfl B 6 rfl _ _ hb _ e6 ga4 ?_)
       | (go_at_call 25; (with_reducible refine (hrv _).mono ?_); rintro e w2 ⟨rfl, rfl⟩)
       | ((with_reducible refine wpList_build rfl _ [(0, _), (1, _), (2, _), (3, _), (6, _)] rfl _ ?hf ?_); (case hf => exact built_sg _ _ _ _ _ _ _ _))
       | ((with_reducible refine wpList_store_blk rfl _ _ _ rfl P rfl _ rfl zC hP (size40C hCz) (zC_size.trans hCz.symm) hCo ?_); intro W4 hP4 o4; replace hk := o4.below _ _ (by have := hB1.out; have := hB.out; omega) hk; replace hR := hR.other o4 (by omega))
       | (with_reducible refine wpList_load_blk rfl _ _ rfl P rfl _ hP4 _ Try.underlying40 rfl (size40C hCz) ?_)
       | (go_at_call 20; (with_reducible refine ((rsound_any (hMk _ hk)).no hso).mono ?_); rintro e w5 ⟨rfl, hk5⟩; replace hP4 := hP4.next hk5; replace hR := hR.next hk5; replace hk := hk.trans (hk5.mono hk.size))
       | ((with_reducible refine wpList_build rfl _ [] rfl zC ?hf ?_); (case hf => exact built_z))
       | ((with_reducible refine wpList_store_blk rfl _ _ _ rfl R rfl zC rfl zC hR (size40C zC_size) rfl (zC_d (fun _ => True) w).one ?_); intro W8 hR8 o8))
      have hRw : w.heap.size ≤ R := by have := hB1.out; have := hB.out; omega
      refine bodyPost_ret (v := .tuple #[.agg zC, .int .i64 4]) (res40b Try.results16 rfl rfl hR8 zC_size) rfl ?_
      exact ⟨zC, rfl, zC_d _ _, o8.below _ _ hRw hk⟩
     ·clear hr
      go_enter Try.func16, Try.ntmps16
      go_wp2_with (first
       | (with_reducible refine wpList_box rfl _ _ rfl C rfl ?_; intro B W hB hb hk)
       | ((with_reducible refine wpList_alloc rfl _ rfl zC zero40 ?_); intro P W3 hB3 hP hk3; have hRP : R < P := (by have := hR.lt; have := hB3.out.1; omega); replace hb := hb.next hk3; replace hR := hR.next hk3; replace hk := hk.trans (hk3.mono hk.size))
       | ((with_reducible refine wpList_alloc rfl _ rfl zC zero40 ?_); intro R W1 hB1 hR hk1; have hBl := hb.lt; replace hb := hb.next hk1; replace hk := hk.trans (hk1.mono hk.size))
       | (with_reducible refine wpList_load1 (by kernel_rfl) _ _ rfl B 1 rfl _ _ hb _ hki ga2 ?_)
       | (with_reducible refine wpList_load1 (by kernel_rfl) _ _ rfl B 6 rfl _ _ hb _ e6 ga4 ?_)
       | (go_at_call 25; (with_reducible refine (hrv _).mono ?_); rintro e w2 ⟨rfl, rfl⟩)
       | ((with_reducible refine wpList_build rfl _ [(0, _), (1, _), (2, _), (3, _), (6, _)] rfl _ ?hf ?_); (case hf => exact built_sg _ _ _ _ _ _ _ _))
       | ((with_reducible refine wpList_store_blk rfl _ _ _ rfl P rfl _ rfl zC hP (size40C hCz) (zC_size.trans hCz.symm) hCo ?_); intro W4 hP4 o4; replace hk := o4.below _ _ (by have := hB1.out; have := hB.out; omega) hk; replace hR := hR.other o4 (by omega))
       | (with_reducible refine wpList_load_blk rfl _ _ rfl P rfl _ hP4 _ Try.underlying40 rfl (size40C hCz) ?_)
       | (go_at_call 20; (with_reducible refine ((rsound_any (hMk _ hk)).no hso).mono ?_); rintro e w5 ⟨rfl, hk5⟩; replace hP4 := hP4.next hk5; replace hR := hR.next hk5; replace hk := hk.trans (hk5.mono hk.size))
       | ((with_reducible refine wpList_build rfl _ [] rfl zC ?hf ?_); (case hf => exact built_z))
       | ((with_reducible refine wpList_store_blk rfl _ _ _ rfl R rfl zC rfl zC hR (size40C zC_size) rfl (zC_d (fun _ => True) w).one ?_); intro W8 hR8 o8))
      have hRw : w.heap.size ≤ R := by have := hB1.out; have := hB.out; omega
      refine bodyPost_ret (v := .tuple #[.agg zC, .int .i64 4]) (res40b Try.results16 rfl rfl hR8 zC_size) rfl ?_
      exact ⟨zC, rfl, zC_d _ _, o8.below _ _ hRw hk⟩
 ·have h1' : (x.kind == 1) = false := by simpa using h1
  rw [if_neg h1, if_neg (by omega)]
  go_enter Try.func16, Try.ntmps16
  go_wp2_with (first
   | (with_reducible refine wpList_box rfl _ _ rfl C rfl ?_; intro B W hB hb hk)
   | ((with_reducible refine wpList_alloc rfl _ rfl zC zero40 ?_); intro R W1 hB1 hR hk1; have hBl := hb.lt; replace hb := hb.next hk1; replace hk := hk.trans (hk1.mono hk.size))
   | (with_reducible refine wpList_load1 (by kernel_rfl) _ _ rfl B 1 rfl _ _ hb _ hki ga2 ?_)
   | ((with_reducible refine wpList_build rfl _ [] rfl zC ?hf ?_); (case hf => exact built_z))
   | ((with_reducible refine wpList_store_blk rfl _ _ _ rfl R rfl zC rfl zC hR (size40C zC_size) rfl (zC_d (fun _ => True) w).one ?_); intro W8 hR8 o8))
  have hRw : w.heap.size ≤ R := by have := hB1.out; have := hB.out; omega
  refine bodyPost_ret (v := .tuple #[.agg zC, .int .i64 3]) (res40b Try.results16 rfl rfl hR8 zC_size) rfl ?_
  exact ⟨zC, rfl, zC_d _ _, o8.below _ _ hRw hk⟩
end Go.Proofs.Ytlaagheeemkklaa
namespace Go.Proofs.Ytlaagheeemkklaa
set_option maxRecDepth 100000
set_option maxHeartbeats 8000000
open Go.RowKit Go.Shelf
set_option linter.unusedVariables false
attribute [local go_sem] Oper.semAt_some

section
variable {ops : Array Oper} {rest : List Oper} {op : Oper} {a : Act} {Q : Exit → Act → World → Prop} {w : World}
theorem run_bsw (v : Int) (w : World) : (Instr.buildSlice 25 1 #[(0, .int .u64 v)]).run Try.prog w = .ok (.slice (some ⟨w.heap.size, 0, none⟩) 1 1) (w.alloc (.cells #[.int .u64 v] 22)) := by kernel_rfl
theorem wpList_bsw (hgd : op.guard = none) (x : Operand) (ho : op.op = .buildSlice 25 1 #[(0, x)]) (v : Int) (hx : a.eval x = .int .u64 v)
  (h : ∀ B W, Hid (w.heap.size = B ∧ W.heap.size = B + 1) → Blk W B #[.int .u64 v] 22 → Below w.heap.size w W → wpList Try.prog ops Q rest (a.put op.dst (.slice (some ⟨B, 0, none⟩) 1 1)) W) : wpList Try.prog ops Q (op :: rest) a w :=
 wpList_plain hgd fun K hK => by
  have e : (#[(0, x)].map fun ((i : Nat), x) => (i, a.eval x)) = #[(0, Value.int .u64 v)] := by simp [hx]
  unfold Oper.wp execOp
  simp only [ho, e, Sem.run_bind, run_bsw, Result.andThen_ok]
  exact hK _ _ (h _ _ ⟨rfl, by simp⟩ (Blk.new w #[.int .u64 v] 22) ((Below.refl _ w).alloc (Nat.le_refl _) _))
end
theorem row_w1 {W : World} {G : Nat} {u : Int} {t : TypeId} (h : Blk W G #[.int .u64 u] t) : RowC 1 (fun b => b = G) W (some ⟨G, 0, none⟩) 1 1 [.int .u64 u] :=
 ⟨rfl, Nat.le_refl _, ⟨by omega, fun e => by cases e⟩, fun _ => ⟨G, 0, rfl, rfl, by have := h.range0; simpa using this⟩⟩
theorem rresize_any {w : World} {C : Array Value} {x : Ob} (h : ObD (LtN w) w C x) (hq : 1 ≤ x.quota ∧ x.quota ≤ 4096) {n : Int} : Calls Try.prog 10 #[.agg C, .int .i64 n] w fun e w' => ∃ C', e = .returned (.tuple #[.agg C', .int .i64 (wsz x n)]) ∧ ObD (LtN w') w' C' (rsz x n) ∧ Below w.heap.size w w' := by
 have ga1 := Try.isAgg22
 have ga2 := Try.isAgg3
 have ga4 := Try.isAgg25
 have hki := h.kind
 have hqu := h.quota
 have hz := h.size
 have ho := h.one
 obtain ⟨a6, n6, c6, e6, l6⟩ := h.data
 have hn6 : Hid (x.data.length = n6) := l6.1
 have hrv := fun w => rroom_any n x.quota w hq
 have hro : Hid (rooN x.quota = 16 * (x.quota - 1)) := by show rooN x.quota = 16 * (x.quota - 1); unfold rooN; omega
 unfold rsz wsz
 rw [hro.out]
 by_cases h1 : x.kind = 1
 ·rw [h1] at hki
  rw [if_pos h1]
  by_cases h2 : n < 0
  ·rw [if_pos h2, if_neg (by omega)]
   go_enter Try.func10, Try.ntmps10
   go_wp2_with (first
    | (with_reducible refine wpList_box rfl _ _ rfl C rfl ?_; intro B W hB hb hk)
    | ((with_reducible refine wpList_alloc rfl _ rfl zC zero40 ?_); intro R W1 hB1 hR hk1; replace hb := hb.next hk1; replace hk := hk.trans (hk1.mono hk.size))
    | (with_reducible refine wpList_load1 (by kernel_rfl) _ _ rfl B 1 rfl _ _ hb _ hki ga2 ?_)
    | (with_reducible refine wpList_load_blk rfl _ _ rfl B rfl _ hb _ Try.underlying40 rfl (size40C hz) ?_)
    | ((with_reducible refine wpList_store_blk rfl _ _ _ rfl R rfl C rfl zC hR (size40C hz) (zC_size.trans hz.symm) ho ?_); intro W8 hR8 o8))
   have hRw : w.heap.size ≤ R := by have := hB1.out; have := hB.out; omega
   refine bodyPost_ret (v := .tuple #[.agg C, .int .i64 4]) (res40b Try.results10 rfl rfl hR8 hz) rfl ?_
   exact ⟨C, rfl, h.next (o8.below _ _ hRw hk), o8.below _ _ hRw hk⟩
  ·rw [if_neg h2]
   by_cases h3 : 16 * (x.quota - 1) < n
   ·rw [if_pos h3, if_neg (by omega)]
    simp only [decide_eq_false (show ¬ n ≤ 16 * (x.quota - 1) by omega)] at hrv
    go_enter Try.func10, Try.ntmps10
    go_wp2_with (first
     | (with_reducible refine wpList_box rfl _ _ rfl C rfl ?_; intro B W hB hb hk)
     | ((with_reducible refine wpList_alloc rfl _ rfl zC zero40 ?_); intro R W1 hB1 hR hk1; replace hb := hb.next hk1; replace hk := hk.trans (hk1.mono hk.size))
     | (with_reducible refine wpList_load1 (by kernel_rfl) _ _ rfl B 1 rfl _ _ hb _ hki ga2 ?_)
     | (with_reducible refine wpList_load1 (by kernel_rfl) _ _ rfl B 3 rfl _ _ hb _ hqu ga2 ?_)
     | (go_at_call 25; (with_reducible refine (hrv _).mono ?_); rintro e w2 ⟨rfl, rfl⟩)
     | (with_reducible refine wpList_load_blk rfl _ _ rfl B rfl _ hb _ Try.underlying40 rfl (size40C hz) ?_)
     | ((with_reducible refine wpList_store_blk rfl _ _ _ rfl R rfl C rfl zC hR (size40C hz) (zC_size.trans hz.symm) ho ?_); intro W8 hR8 o8))
    have hRw : w.heap.size ≤ R := by have := hB1.out; have := hB.out; omega
    refine bodyPost_ret (v := .tuple #[.agg C, .int .i64 5]) (res40b Try.results10 rfl rfl hR8 hz) rfl ?_
    exact ⟨C, rfl, h.next (o8.below _ _ hRw hk), o8.below _ _ hRw hk⟩
   ·rw [if_neg h3, if_pos rfl]
    simp only [decide_eq_true (show n ≤ 16 * (x.quota - 1) by omega)] at hrv
    obtain ⟨m, rfl⟩ := Int.eq_ofNat_of_zero_le (a := n) (by omega)
    rw [Int.toNat_natCast]
    have hmH : Hid (m ≤ 1000000) := by show m ≤ 1000000; omega
    clear h2 h3 hq
    go_enter Try.func10, Try.ntmps10
    go_wp2_with (first
     | (with_reducible refine wpList_box rfl _ _ rfl C rfl ?_; intro B W hB hb hk)
     | ((with_reducible refine wpList_alloc rfl _ rfl zC zero40 ?_); intro R W1 hB1 hR hk1; have hBl := hb.lt; replace hb := hb.next hk1; replace hk := hk.trans (hk1.mono hk.size))
     | (with_reducible refine wpList_load1 (by kernel_rfl) _ _ rfl B 1 rfl _ _ hb _ hki ga2 ?_)
     | (with_reducible refine wpList_load1 (by kernel_rfl) _ _ rfl B 3 rfl _ _ hb _ hqu ga2 ?_)
     | (go_at_call 25; (with_reducible refine (hrv _).mono ?_); rintro e w2 ⟨rfl, rfl⟩))
    obtain ⟨N, hN⟩ : ∃ N, Hid (w2.heap.size = N) := ⟨_, rfl⟩
    have hBN : B < R ∧ w.heap.size ≤ B ∧ R < N := by have := hB.out; have := hB1.out; have := hN.out; omega
    have hk0 : Below N w2 w2 := Below.refl _ _
    go_loopw [6, 7] (fun v i wr => ∃ k : Nat, k ≤ m ∧ i = .int .i64 k ∧ wr.ownsRow N 22 1 v k (wordsC (ws x.data 0 k)) ∧ Below N w2 wr) (fun _ i _ => m - (intOf i).toNat)
    case atStart => exact ⟨0, Nat.zero_le _, rfl, World.ownsRow_nil _ _ _ _, hk0⟩
    case round =>
     obtain ⟨k, hkm, rfl, hrow, hkr⟩ := hrel
     have hbr : Blk wr B C 40 := (hkr.block B (by omega)).trans hb
     have hRr : Blk wr R zC 40 := (hkr.block R (by omega)).trans hR
     have hkw : Below w.heap.size w wr := hk.trans (hkr.mono (by omega))
     have hNr : N ≤ wr.heap.size := by rw [← hN.out]; exact hkr.size
     obtain ⟨ao, cap, rfl, hrc⟩ := RowC.of_owns hrow
     have hk63 : k ≤ 1000000 := by have := hmH.out; omega
     by_cases hlt : k < m
     ·have hlt' : (k : Int) < m := by omega
      obtain ⟨u, hu⟩ : ∃ u, Hid (x.data.getD k 0 = u) := ⟨_, rfl⟩
      have hfin : ∀ (v' : Value) (W2 w4 : World) (G : Nat), Below wr.heap.size wr W2 → wr.heap.size ≤ W2.heap.size → W2.ownsRow N 22 1 (.slice ao k cap) k (wordsC (ws x.data 0 k)) → w4.ownsRow N 22 1 v' (k + 1) (wordsC (ws x.data 0 k) ++ [.int .u64 u]) → W2.grownBy w4 (Value.ownBlock (.slice ao k cap)) → (∃ a4 c4, v' = .slice a4 (k + 1) c4) ∧ w4.ownsRow N 22 1 v' (k + 1) (wordsC (ws x.data 0 (k + 1))) ∧ Below N w2 w4 := by
       intro v' W2 w4 G q1 q2 q3 q4 q5
       have q6 : w4.ownsRow N 22 1 v' (k + 1) (wordsC (ws x.data 0 (k + 1))) := by rw [ws_succ, hu.out, wordsC_app]; exact q4
       obtain ⟨a4, c4, e, _⟩ := RowC.of_owns q6
       exact ⟨⟨a4, c4, e⟩, q6, (hkr.trans (q1.mono hNr)).grown q5 (Nat.le_trans hNr q2) (fun j e => (q3.lt j e).1)⟩
      by_cases hk6 : k < n6
      ·have hk6' : (k : Int) < n6 := by omega
       obtain ⟨b, off, rfl, hbl, hcl⟩ := l6.2.2.2 (by omega)
       have hce1 : wr.cell? ⟨b, off + k, none⟩ = some (.int .u64 u) := by
        have := (hkw.cell (p := ⟨b, off + k, none⟩) hbl).trans (hcl k hk6)
        rw [hu.out] at this
        exact this
       clear hcl
       go_wp2_with (first
        | (with_reducible refine wpList_load1 (by kernel_rfl) _ _ rfl B 6 rfl _ _ hbr _ e6 ga4 ?_)
        | ((with_reducible refine wpList_bsw rfl _ rfl u rfl ?_); intro G W3 hB3 hG hk3; have hrow3 : W3.ownsRow N 22 1 (.slice ao k cap) k (wordsC (ws x.data 0 k)) := owns_later hrow fun b _ hl => hk3.block b hl)
        | (at_builtin; refine wpList_append_row infoW Try.underlying25 rfl (by omega) rfl _ _ rfl N _ k _ rfl hrow3 _ _ 1 1 [.int .u64 u] rfl (row_w1 hG) (by simp [Value.oneCell']) (by unfold maxLen; omega) (by omega) (Nat.le_trans hNr hk3.size) ?_; intro v' w4 hown hgrow; obtain ⟨⟨a4, c4, rfl⟩, hown4, hb4⟩ := hfin v' W3 w4 G hk3 hk3.size hrow3 hown hgrow))
       go_roundw
       case rel => exact ⟨k + 1, by omega, by go_num, hown4, hb4⟩
       case measure => simp [intOf]; omega
      ·have hk6' : ¬ (k : Int) < n6 := by omega
       have hu0 : Hid (u = 0) := by
        show u = 0
        rw [← hu.out, List.getD_eq_getElem?_getD, List.getElem?_eq_none (by rw [hn6.out]; omega)]; rfl
       obtain rfl := hu0.out
       go_wp2_with (first
        | (with_reducible refine wpList_load1 (by kernel_rfl) _ _ rfl B 6 rfl _ _ hbr _ e6 ga4 ?_)
        | ((with_reducible refine wpList_bsw rfl _ rfl 0 rfl ?_); intro G W3 hB3 hG hk3; have hrow3 : W3.ownsRow N 22 1 (.slice ao k cap) k (wordsC (ws x.data 0 k)) := owns_later hrow fun b _ hl => hk3.block b hl)
        | (at_builtin; refine wpList_append_row infoW Try.underlying25 rfl (by omega) rfl _ _ rfl N _ k _ rfl hrow3 _ _ 1 1 [.int .u64 0] rfl (row_w1 hG) (by simp [Value.oneCell']) (by unfold maxLen; omega) (by omega) (Nat.le_trans hNr hk3.size) ?_; intro v' w4 hown hgrow; obtain ⟨⟨a4, c4, rfl⟩, hown4, hb4⟩ := hfin v' W3 w4 G hk3 hk3.size hrow3 hown hgrow))
       go_roundw
       case rel => exact ⟨k + 1, by omega, by go_num, hown4, hb4⟩
       case measure => simp [intOf]; omega
     ·obtain rfl : k = m := by omega
      have hlt' : ¬ (k : Int) < k := by omega
      have hct := ((RowC.ct hrc).wide (D' := fun b => N ≤ b ∧ b < wr.heap.size) fun b hb => hb)
      have hBw : w.heap.size ≤ B := hBN.2.1
      go_wp2_with (first
       | ((with_reducible refine wpList_store_cell rfl _ _ _ rfl B 6 rfl (.slice ao k cap) rfl rfl _ _ hbr size25 (by rw [hz]; omega) rfl ?_); intro W4 hb4 o4; have hne : R ≠ B := (by omega); have hR4 := hRr.other o4 hne; have hk4 := o4.below _ _ hBw hkw; have hC1 : ObD (LtN W4) W4 (C.setIfInBounds 6 (.slice ao k cap)) { x with data := ws x.data 0 k } := (h.next hk4).set6 ⟨ao, k, cap, rfl, (CtD.laterK hct fun b hb => o4.block b (by have := hb.1; omega)).wide fun b hb => by rw [LtN, o4.size]; exact hb.2⟩ rfl; have hz1 := hC1.size; have ho1 := hC1.one)
       | (with_reducible refine wpList_load_blk rfl _ _ rfl B rfl _ hb4 _ Try.underlying40 rfl (size40C hz1) ?_)
       | ((with_reducible refine wpList_store_blk rfl _ _ _ rfl R rfl _ rfl zC hR4 (size40C hz1) (zC_size.trans hz1.symm) ho1 ?_); intro W8 hR8 o8))
      refine bodyPost_ret (v := .tuple #[.agg _, .int .i64 0]) (res40b Try.results10 rfl rfl hR8 hz1) rfl ?_
      have hCn := (h.next (o8.below _ _ (by omega) hk4)).set6 (v := .slice ao k cap) (L := ws x.data 0 k) ⟨ao, k, cap, rfl, (CtD.laterK hct fun b hb => (o8.block b (by have := hb.1; omega)).trans (o4.block b (by have := hb.1; omega))).wide fun b hb => by rw [LtN, o8.size, o4.size]; exact hb.2⟩ rfl
      exact ⟨C.setIfInBounds 6 (.slice ao k cap), rfl, (by rw [h1] at hCn; exact hCn), o8.below _ _ (by omega) hk4⟩
 ·have h1' : (x.kind == 1) = false := by simpa using h1
  rw [if_neg h1, if_neg (by omega)]
  go_enter Try.func10, Try.ntmps10
  go_wp2_with (first
   | (with_reducible refine wpList_box rfl _ _ rfl C rfl ?_; intro B W hB hb hk)
   | ((with_reducible refine wpList_alloc rfl _ rfl zC zero40 ?_); intro R W1 hB1 hR hk1; replace hb := hb.next hk1; replace hk := hk.trans (hk1.mono hk.size))
   | (with_reducible refine wpList_load1 (by kernel_rfl) _ _ rfl B 1 rfl _ _ hb _ hki ga2 ?_)
   | (with_reducible refine wpList_load_blk rfl _ _ rfl B rfl _ hb _ Try.underlying40 rfl (size40C hz) ?_)
   | ((with_reducible refine wpList_store_blk rfl _ _ _ rfl R rfl C rfl zC hR (size40C hz) (zC_size.trans hz.symm) ho ?_); intro W8 hR8 o8))
  have hRw : w.heap.size ≤ R := by have := hB1.out; have := hB.out; omega
  refine bodyPost_ret (v := .tuple #[.agg C, .int .i64 3]) (res40b Try.results10 rfl rfl hR8 hz) rfl ?_
  exact ⟨C, rfl, h.next (o8.below _ _ hRw hk), o8.below _ _ hRw hk⟩
theorem rput_any {w : World} {C : Array Value} {x : Ob} (h : ObD (LtN w) w C x) (hs : Small x) {p : Nat} (hp : p < 18446744073709551616) {v : Int} : Calls Try.prog 14 #[.agg C, .int .u64 (p : Int), .int .u64 v] w fun e w' => ∃ C', e = .returned (.tuple #[.agg C', .int .i64 (wpl x p)]) ∧ ObD (LtN w') w' C' (putO x p v) ∧ Below w.heap.size w w' := by
  have hz := h.size
  have ho := h.one
  have ga4 := Try.isAgg25
  have hget := fun (W : World) (hk : Below w.heap.size w W) => rsget_any (h.next hk) hp
  obtain ⟨a6, n6, c6, e6, l6⟩ := h.data
  have hn6 : Hid (x.data.length = n6) := l6.1
  unfold putO
  obtain ⟨r, hr⟩ : ∃ r, wpl x p = r := ⟨_, rfl⟩
  have hcs := wpl_cases x p
  rw [hr] at hget hcs ⊢
  clear hr
  obtain ⟨gv, hgv⟩ : ∃ gv, gtV x p = gv := ⟨_, rfl⟩
  rw [hgv] at hget
  clear hgv
  rcases hcs with ⟨rfl, h1, h2⟩ | ⟨h1, _⟩
  · rw [if_pos rfl]
    have hp6 : p < n6 := by rw [← hn6.out]; exact h2
    have hp6' : (p : Int) < n6 := by omega
    have hsm : n6 < 4294967296 := by rw [← hn6.out]; exact hs.c6
    go_enter Try.func14, Try.ntmps14
    go_wp2_with (first
      | (with_reducible refine wpList_box rfl _ _ rfl C rfl ?_; intro B W hB hb hk)
      | ((with_reducible refine wpList_alloc rfl _ rfl zC zero40 ?_); intro R W1 hB1 hR hk1; have hBl := hb.lt; replace hb := hb.next hk1; replace hk := hk.trans (hk1.mono hk.size))
      | (with_reducible refine wpList_load_blk rfl _ _ rfl B rfl _ hb _ Try.underlying40 rfl (size40C hz) ?_)
      | (go_at_call 12; (with_reducible refine (hget _ hk).mono ?_); rintro e w2 ⟨rfl, hk2⟩; replace hb := hb.next hk2; have hRl := hR.lt; replace hR := hR.next hk2; replace hk := hk.trans (hk2.mono hk.size); have hl6 := ((h.next hk).data.ct_of e6).row)
      | (with_reducible refine wpList_load1 (by kernel_rfl) _ _ rfl B 6 rfl _ _ hb _ e6 ga4 ?_)
      | (at_builtin; refine wpList_append_row infoW Try.underlying25 rfl (by omega) rfl _ _ rfl w2.heap.size _ 0 [] rfl (World.ownsRow_nil _ _ _ _) _ _ _ _ (wordsC x.data) rfl hl6 (wordsC_one x.data) (by unfold maxLen; omega) (by omega) (Nat.le_refl _) ?_; intro v' w3 hown hgrow; rw [Nat.zero_add, List.nil_append] at hown; have hk3 := grown_below hgrow; replace hb := hb.next hk3; have hRl2 := hR.lt; have hBl2 := hb.lt; replace hR := hR.next hk3; have hk20 := hk.size; replace hk := hk.trans (hk3.mono hk.size); obtain ⟨g, cap, cur, rfl, hgM, hgb, hgc, hgm, hgs, hgt⟩ : ∃ g cap cur, v' = .slice (some ⟨g, 0, none⟩) n6 cap ∧ w2.heap.size ≤ g ∧ Blk w3 g cur 22 ∧ n6 ≤ cap ∧ cap ≤ maxLen ∧ cur.size = cap * 1 ∧ Hid (cur.toList.take (n6 * 1) = wordsC x.data) := (by
            rcases hown.2 with ⟨_, h0⟩ | ⟨g, c, cur, e, q1, q2, q3, q4, q5, q6⟩
            · omega
            · exact ⟨g, c, cur, e, q1, q2, q3, q4, q5, q6⟩); have hpc : p < cur.size := (by omega))
      | ((with_reducible refine wpList_store_cell rfl _ _ _ rfl g p rfl (.int .u64 v) rfl rfl _ _ hgb sizeU hpc rfl ?_); intro W4 hg4 o4; have hBg : B < g ∧ R < g := (by have := hk2.size; have := hk1.size; omega); have hb4 := hb.other o4 (by omega); have hR4 := hR.other o4 (by omega); have hct := ct_set (W := w3) hg4 hn6.out hgc hgm hgs hgt.out hp6; have hk4 := o4.below _ _ (by omega) hk)
      | ((with_reducible refine wpList_store_cell rfl _ _ _ rfl B 6 rfl (.slice (some ⟨g, 0, none⟩) n6 cap) rfl rfl _ _ hb4 size25 (by rw [hz]; omega) rfl ?_); intro W5 hb5 o5; have hne : R ≠ B := (by have := hB1.out.1; omega); have hR5 := hR4.other o5 hne; have hBw : w.heap.size ≤ B := (by have := hB.out; omega); have hk5 := o5.below _ _ hBw hk4; have hC1 : ObD (LtN W5) W5 (C.setIfInBounds 6 (.slice (some ⟨g, 0, none⟩) n6 cap)) { x with data := x.data.set p v } := (h.next hk5).set6 ⟨_, _, _, rfl, (CtD.laterK hct fun b hb => o5.block b (by omega)).wide fun b hb => by rw [LtN, o5.size, hb]; exact hg4.lt⟩ rfl; have hz1 := hC1.size; have ho1 := hC1.one)
      | (with_reducible refine wpList_load_blk rfl _ _ rfl B rfl _ hb5 _ Try.underlying40 rfl (size40C hz1) ?_)
      | ((with_reducible refine wpList_store_blk rfl _ _ _ rfl R rfl _ rfl zC hR5 (size40C hz1) (zC_size.trans hz1.symm) ho1 ?_); intro W8 hR8 o8))
    have hRw : w.heap.size ≤ R := by have := hB1.out; have := hB.out; omega
    refine bodyPost_ret (v := .tuple #[.agg _, .int .i64 0]) (res40b Try.results14 rfl rfl hR8 hz1) rfl ?_
    have hCn := (h.next (o8.below _ _ hRw hk5)).set6 (v := .slice (some ⟨g, 0, none⟩) n6 cap) (L := x.data.set p v) ⟨_, _, _, rfl, (CtD.laterK hct fun b hb => (o8.block b (by omega)).trans (o5.block b (by omega))).wide fun b hb => by rw [LtN, o8.size, o5.size, hb]; exact hg4.lt⟩ rfl
    exact ⟨C.setIfInBounds 6 (.slice (some ⟨g, 0, none⟩) n6 cap), rfl, (by rw [h1] at hCn; exact hCn), o8.below _ _ hRw hk5⟩
  · have h1' : (r == 0) = false := by simpa using h1
    rw [if_neg h1]
    go_enter Try.func14, Try.ntmps14
    go_wp2_with (first
      | (with_reducible refine wpList_box rfl _ _ rfl C rfl ?_; intro B W hB hb hk)
      | ((with_reducible refine wpList_alloc rfl _ rfl zC zero40 ?_); intro R W1 hB1 hR hk1; have hBl := hb.lt; replace hb := hb.next hk1; replace hk := hk.trans (hk1.mono hk.size))
      | (with_reducible refine wpList_load_blk rfl _ _ rfl B rfl _ hb _ Try.underlying40 rfl (size40C hz) ?_)
      | (go_at_call 12; (with_reducible refine (hget _ hk).mono ?_); rintro e w2 ⟨rfl, hk2⟩; replace hb := hb.next hk2; have hRl := hR.lt; replace hR := hR.next hk2; replace hk := hk.trans (hk2.mono hk.size))
      | ((with_reducible refine wpList_store_blk rfl _ _ _ rfl R rfl C rfl zC hR (size40C hz) (zC_size.trans hz.symm) ho ?_); intro W8 hR8 o8))
    have hRw : w.heap.size ≤ R := by have := hB1.out; have := hB.out; omega
    refine bodyPost_ret (v := .tuple #[.agg C, .int .i64 r]) (res40b Try.results14 rfl rfl hR8 hz) rfl ?_
    exact ⟨C, rfl, h.next (o8.below _ _ hRw hk), o8.below _ _ hRw hk⟩
end Go.Proofs.Ytlaagheeemkklaa
namespace Go.Proofs.Ytlaagheeemkklaa
set_option maxRecDepth 100000
set_option maxHeartbeats 8000000
open Go.RowKit Go.Shelf
set_option linter.unusedVariables false
attribute [local go_sem] Oper.semAt_some

theorem alo_io {x : Ob} (h : aloO x = x) (hk : ¬ x.kind = 6) : x.inn = [] ∧ x.out = [] := by
 have e : (aloO x).inn = [] ∧ (aloO x).out = [] := by
  unfold aloO
  by_cases h1 : x.kind = 1
  ·rw [if_pos h1]; exact ⟨rfl, rfl⟩
  rw [if_neg h1]
  by_cases h2 : x.kind = 2
  ·rw [if_pos h2]; exact ⟨rfl, rfl⟩
  rw [if_neg h2]
  by_cases h3 : x.kind = 3
  ·rw [if_pos h3]; exact ⟨rfl, rfl⟩
  rw [if_neg h3]
  by_cases h4 : x.kind = 4
  ·rw [if_pos h4]; exact ⟨rfl, rfl⟩
  rw [if_neg h4]
  by_cases h5 : x.kind = 5
  ·rw [if_pos h5]; exact ⟨rfl, rfl⟩
  rw [if_neg h5, if_neg hk]; exact ⟨rfl, rfl⟩
 rw [h] at e; exact e
theorem sound_small {x : Ob} (hs : soundB x = true) (hf : x.links.length < 4294967296 ∧ x.data.length < 4294967296 ∧ x.maps.length < 4294967296) : Small x := by
 obtain ⟨hc, ho, hw⟩ := sound_iff.1 hs
 have ha := (alone_iff x).1 hw
 have b1 := (kept_iff.1 (com_iff.1 hc).2.2.2.1).1
 have hth : x.th.clear.length < 4294967296 ∧ x.th.l0.length < 4294967296 ∧ x.th.l1.length < 4294967296 ∧ x.th.l2.length < 4294967296 ∧ x.th.l3.length < 4294967296 ∧ x.th.alerts.length < 4294967296 := by
  by_cases h4 : x.kind = 4
  ·obtain ⟨_, q1, q2⟩ := (own4 h4).1 ho
   have k1 := (kept_iff.1 (boun_iff.1 q1).2.1).1
   have q3 := (thr_iff.1 q2).1
   have k2 := (kept_iff.1 (q3 0 (by omega))).1
   have k3 := (kept_iff.1 (q3 1 (by omega))).1
   have k4 := (kept_iff.1 (q3 2 (by omega))).1
   have k5 := (kept_iff.1 (q3 3 (by omega))).1
   simp only [labs] at k2 k3 k4 k5
   have k6 : x.th.alerts.length ≤ 8 := by
    unfold thrB at q2
    simp only [Bool.and_eq_true, decide_eq_true_eq] at q2
    omega
   omega
  ·rw [alo_th ha h4]; decide
 have hgt : x.gt.grant.length < 4294967296 ∧ x.gt.clear.length < 4294967296 := by
  by_cases h5 : x.kind = 5
  ·have q := boun_iff.1 ((own5 h5).1 ho)
   have k1 := (kept_iff.1 q.1).1
   have k2 := (kept_iff.1 q.2.1).1
   omega
  ·rw [alo_gt ha h5]; decide
 have hio : x.inn.length < 4294967296 ∧ x.out.length < 4294967296 := by
  by_cases h6 : x.kind = 6
  ·unfold ownB at ho
   rw [if_neg (by rw [h6]; decide), if_neg (by rw [h6]; decide), if_neg (by rw [h6]; decide), if_neg (by rw [h6]; decide), if_neg (by rw [h6]; decide), if_pos h6] at ho
   simp only [Bool.and_eq_true, decide_eq_true_eq] at ho
   omega
  ·rw [(alo_io ha h6).1, (alo_io ha h6).2]; decide
 exact ⟨by omega, hf.1, hf.2.1, hf.2.2, hth.1, hth.2.2.2.2.2, hth.2.1, hth.2.2.1, hth.2.2.2.1, hth.2.2.2.2.1, hgt.1, hgt.2, hio.1, hio.2⟩

def brP (x : Ob) : Prop := x.label.length ≤ 20 ∧ x.data.length ≤ 200 ∧ x.links.length ≤ 70 ∧ x.maps.length ≤ 20 ∧ soundB x = true
theorem brP.small {x : Ob} (h : brP x) : Small x := sound_small h.2.2.2.2 ⟨by have := h.2.2.1; omega, by have := h.2.1; omega, by have := h.2.2.2.1; omega⟩
theorem brP.quota {x : Ob} (h : brP x) : 1 ≤ x.quota ∧ x.quota ≤ 4096 := by
 have hc := com_iff.1 (sound_iff.1 h.2.2.2.2).1
 exact ⟨hc.2.1, hc.2.2.1⟩
theorem seg_sound {x : Ob} (hs : soundB x = true) (k : x.kind = 1) {d : List Int} (hd : (d.length : Int) ≤ 16 * (x.quota - 1)) : soundB { x with data := d } = true := by
 obtain ⟨hc, ho, hw⟩ := sound_iff.1 hs
 refine sound_iff.2 ⟨hc, ?_, ?_⟩
 ·unfold ownB
  show (if x.kind = 1 then decide ((d.length : Int) ≤ 16 * (x.quota - 1)) else _) = true
  rw [if_pos k, decide_eq_true_iff]; exact hd
 ·have ha := (alone_iff x).1 hw
  rw [alone_iff]
  have e := sg_of hs k
  unfold aloO
  show (if x.kind = 1 then _ else _) = _
  rw [if_pos k]
  rw [e]
  rfl
theorem rsz_sound {x : Ob} (hs : soundB x = true) {n : Int} : soundB (rsz x n) = true := by
 unfold rsz
 rcases wsz_cases x n with ⟨h0, h1, h2, h3⟩ | h0
 ·rw [if_pos h0]
  refine seg_sound hs h1 ?_
  rw [ws_len]
  have hc := com_iff.1 (sound_iff.1 hs).1
  have := hc.2.1
  unfold rooN at h3
  omega
 ·rw [if_neg h0]; exact hs
theorem put_sound {x : Ob} (hs : soundB x = true) {p : Nat} {v : Int} : soundB (putO x p v) = true := by
 unfold putO
 rcases wpl_cases x p with ⟨h0, h1, h2⟩ | ⟨h0, _⟩
 ·rw [if_pos h0]
  refine seg_sound hs h1 ?_
  rw [List.length_set]
  have ho := (sound_iff.1 hs).2.1
  unfold ownB at ho
  rw [if_pos h1, decide_eq_true_iff] at ho
  exact ho
 ·rw [if_neg h0]; exact hs
theorem seg_len {x : Ob} (hs : soundB x = true) (k : x.kind = 1) : (x.data.length : Int) ≤ 16 * (x.quota - 1) := by
 have ho := (sound_iff.1 hs).2.1
 unfold ownB at ho
 rw [if_pos k, decide_eq_true_iff] at ho
 exact ho
theorem rfitLabel_any {w : World} {ao : Option Addr} {n cap : Nat} {L : Lb} (hL : Lab w.heap.size w ao n cap L) : Calls Try.prog 7 #[.slice ao n cap] w fun e w' => e = .returned (.bool (fitB L)) ∧ Below w.heap.size w w' := by
 go_enter Try.func7, Try.ntmps7
 go_wp2_with (go_at_call 21; (with_reducible refine (rlfit_any hL (Nat.le_refl _)).mono ?_); rintro e w1 ⟨rfl, hk⟩)
 go_ret
 exact ⟨rfl, hk⟩
theorem brief16_any {w : World} {C : Array Value} {x : Ob} (h : ObD (LtN w) w C x) : Asks 6 #[.agg C] (brP x) w := by
 have hz := h.size
 obtain ⟨a2, n2, k2, c2, l2⟩ := h.label
 have hn2 : Hid (x.label.length = n2) := l2.1
 obtain ⟨a5, n5, k5, c5, l5⟩ := h.links
 have hn5 : Hid (x.links.length = n5) := l5.1
 obtain ⟨a6, n6, k6, c6, l6⟩ := h.data
 have hn6 : Hid (x.data.length = n6) := l6.1
 obtain ⟨a7, n7, k7, c7, l7⟩ := h.maps
 have hn7 : Hid (x.maps.length = n7) := l7.1
 have ga0 := Try.isAgg24
 have ga4 := Try.isAgg25
 have ga5 := Try.isAgg26
 unfold Asks
 go_enter Try.func6, Try.ntmps6
 go_wp2_with (first
  | go_skip
  | (with_reducible refine wpList_box rfl _ _ rfl C rfl ?_; intro B W hB hb hk)
  | (with_reducible refine wpList_load1 (by kernel_rfl) _ _ rfl B _ rfl _ _ hb _ (by assumption) (by assumption) ?_)
  | ((with_reducible refine wpList_test (by kernel_rfl) .leq _ _ _ _ rfl _ _ rfl rfl (tle_int _ _ _ _ _ _) ?_ ?_) <;> intro hq)
  | (with_reducible refine wpList_loadb (by first | kernel_rfl | with_unfolding_all rfl) 40 _ rfl B rfl C hb _ Try.underlying40 (by kernel_rfl) (size40C hz) ?_)
  | (go_at_call 20; (with_reducible refine (rsound_any (h.next hk)).on ?_ ?_) <;> (intro w2 hso hk2; replace hk := hk.trans (hk2.mono hk.size))))
 all_goals go_ret
 all_goals first
  | (have h2 : (n2 : Int) ≤ 20 := Hid.out (by assumption); have h6 : (n6 : Int) ≤ 200 := Hid.out (by assumption); have h5 : (n5 : Int) ≤ 70 := Hid.out (by assumption); have h7 : (n7 : Int) ≤ 20 := Hid.out (by assumption); first | (have hs : soundB x = true := hso.out; refine ⟨true, rfl, ⟨fun _ => ⟨by rw [hn2.out]; omega, by rw [hn6.out]; omega, by rw [hn5.out]; omega, by rw [hn7.out]; omega, hs⟩, fun _ => rfl⟩, hk⟩) | (exact ⟨false, rfl, ⟨fun e => absurd e Bool.false_ne_true, fun e => absurd e.2.2.2.2 hso.out⟩, hk⟩))
  | (have hl : 20 < (n2 : Int) := Hid.out (by assumption); refine ⟨false, rfl, ⟨fun e => absurd e Bool.false_ne_true, fun e => ?_⟩, hk⟩; exfalso; have := e.1; rw [hn2.out] at this; omega)
  | (have hl : 200 < (n6 : Int) := Hid.out (by assumption); refine ⟨false, rfl, ⟨fun e => absurd e Bool.false_ne_true, fun e => ?_⟩, hk⟩; exfalso; have := e.2.1; rw [hn6.out] at this; omega)
  | (have hl : 70 < (n5 : Int) := Hid.out (by assumption); refine ⟨false, rfl, ⟨fun e => absurd e Bool.false_ne_true, fun e => ?_⟩, hk⟩; exfalso; have := e.2.2.1; rw [hn5.out] at this; omega)
  | (have hl : 20 < (n7 : Int) := Hid.out (by assumption); refine ⟨false, rfl, ⟨fun e => absurd e Bool.false_ne_true, fun e => ?_⟩, hk⟩; exfalso; have := e.2.2.2.1; rw [hn7.out] at this; omega)
  | fail
def exO : Ob := sgO 2 [] 2 false []
theorem exO_small : Small exO := ⟨by decide, by decide, by decide, by decide, by decide, by decide, by decide, by decide, by decide, by decide, by decide, by decide, by decide, by decide⟩
theorem built_ex : Try.prog.built 40 [(0, .int .u64 2), (1, .int .i64 1), (3, .int .i64 2)] = some (comC (.int .u64 2) (.int .i64 1) (.slice none 0 0) (.int .i64 2) (.bool false)) := by kernel_rfl
theorem ex_d (D : Nat → Prop) (w : World) : ObD D w (comC (.int .u64 2) (.int .i64 1) (.slice none 0 0) (.int .i64 2) (.bool false)) exO := comC_d (LabD.nil D w)
theorem ex17 : wsz exO 17 = 5 := by decide
theorem ex3 : wsz exO 3 = 0 := by decide
theorem exg : gtV (rsz exO 3) 3 = 0 ∧ wpl (rsz exO 3) (3 : Nat) = 13 := by decide
theorem exl : (rsz exO 3).data.length = 3 := by decide
theorem awake16_any (w : World) : Calls Try.prog 8 #[] w fun e w' => e = .returned (.bool true) ∧ Below w.heap.size w w' := by
 have ga4 := Try.isAgg25
 have hE := (ex_d (LtN w) w).size
 have hEo := (ex_d (LtN w) w).one
 have r17 := fun (W : World) => resize_any (ex_d (LtN W) W) exO_small (n := 17)
 have r3 := fun (W : World) => resize_any (ex_d (LtN W) W) exO_small (n := 3)
 simp only [ex17] at r17
 simp only [ex3] at r3
 obtain ⟨E, hEE⟩ : ∃ E, comC (.int .u64 2) (.int .i64 1) (.slice none 0 0) (.int .i64 2) (.bool false) = E := ⟨_, rfl⟩
 have hbu := built_ex
 simp only [hEE] at r17 r3 hE hEo hbu
 clear hEE
 have gt := fun {W : World} {C : Array Value} (h : ObD (LtN W) W C (rsz exO 3)) => get_any h (p := 3) (by omega)
 simp only [exg.1, show (((3 : Nat)) : Int) = 3 from rfl] at gt
 go_enter Try.func8, Try.ntmps8
 go_wp2_with (first
  | go_skip
  | ((with_reducible refine wpList_build rfl _ [(0, _), (1, _), (3, _)] rfl E ?hf ?_); (case hf => exact hbu))
  | ((with_reducible refine wpList_alloc rfl _ rfl zC zero40 ?_); intro G3 W6 hB6 hG3 hk6; have hG3w : w5.heap.size = G3 := hB6.out.1; have hG3l : w.heap.size ≤ G3 := (by have := hk.size; omega); replace hk := hk.trans (hk6.mono hk.size))
  | ((with_reducible refine wpList_alloc rfl _ rfl zC zero40 ?_); intro G2 W4 hB4 hG2 hk4; have hG2w : w.heap.size ≤ G2 := (by have := hk.size; have := hB4.out.1; omega); have hG4 := hG1.lt; replace hG1 := hG1.next hk4; replace hk := hk.trans (hk4.mono hk.size); have hz1 := hC1.size; have ho1 := hC1.one)
  | ((with_reducible refine wpList_alloc rfl _ rfl zC zero40 ?_); intro G W1 hB1 hG hk)
  | ((with_reducible refine wpList_store_blk rfl _ _ _ rfl G rfl E rfl zC hG (size40C hE) (zC_size.trans hE.symm) hEo ?_); intro W2 hG1 o2; replace hk := o2.below _ _ (by have := hB1.out; omega) hk)
  | ((with_reducible refine wpList_store_blk rfl _ _ _ rfl G2 rfl C1 rfl zC hG2 (size40C hz1) (zC_size.trans hz1.symm) ho1 ?_); intro W5 hG5 o5; have hne : G ≠ G2 := (by have := hB4.out; omega); replace hG1 := hG1.other o5 hne; replace hk := o5.below _ _ hG2w hk)
  | ((with_reducible refine wpList_store_blk rfl _ _ _ rfl G3 rfl C2 rfl zC hG3 (size40C hz2) (zC_size.trans hz2.symm) ho2 ?_); intro W7 hG7 o7; have hC7 := hC2.next (o7.below _ _ (by omega) hk6); replace hk := o7.below _ _ hG3l hk; obtain ⟨a6, n6, c6, e6, l6⟩ := hC7.data; obtain rfl : n6 = 3 := (l6.1.symm.trans exl))
  | (with_reducible refine wpList_load_blk rfl _ _ rfl G rfl _ hG1 _ Try.underlying40 rfl (size40C hE) ?_)
  | (go_at_call 9; (with_reducible refine (r17 _).mono ?_); rintro e w3 ⟨C1, rfl, ⟨hC1, _⟩, hk3⟩; replace hG1 := hG1.next hk3; replace hk := hk.trans (hk3.mono hk.size))
  | (go_at_call 9; (with_reducible refine (r3 _).mono ?_); rintro e w5 ⟨C2, rfl, ⟨hC2', _⟩, hk5⟩; have hC2 : ObD (LtN w5) w5 C2 (rsz exO 3) := hC2'.wide fun b hb => hb.2; have hz2 := hC2.size; have ho2 := hC2.one; replace hk := hk.trans (hk5.mono hk.size))
  | (with_reducible refine wpList_load_blk rfl _ _ rfl G3 rfl _ hG7 _ Try.underlying40 rfl (size40C hz2) ?_)
  | (go_at_call 11; (with_reducible refine (gt hC7).mono ?_); rintro e w8 ⟨rfl, hk8⟩; replace hG7 := hG7.next hk8; replace hk := hk.trans (hk8.mono hk.size))
  | (with_reducible refine wpList_load1 (by first | kernel_rfl | with_unfolding_all rfl) _ _ rfl G3 6 rfl _ _ hG7 _ e6 ga4 ?_))
 all_goals go_ret
 exact ⟨rfl, hk⟩
theorem u64_nat {a : Int} (h : (Lit.int .u64 a).wf = true) : ∃ n : Nat, a = n ∧ n < 18446744073709551616 := by
 have h' : 0 ≤ a ∧ a ≤ 18446744073709551615 := by simpa [Lit.wf, IntKind.min, IntKind.max, IntKind.bits, IntKind.signed] using h
 exact ⟨a.toNat, by omega, by omega⟩
theorem cp_sound {x : Ob} {i q : Int} {L : Lb} (h : cpE x i L q = 0) : soundB (cpO x i L q) = true := by
 unfold cpO
 rw [if_pos h]
 unfold cpE at h
 by_cases h1 : x.kind = 1
 ·rw [if_pos h1] at h
  by_cases h2 : q < 1 ∨ rooN q < x.data.length
  ·rw [if_pos h2] at h; omega
  ·rw [if_neg h2] at h
   by_cases h3 : soundB (sgO i L q false x.data) = true
   ·exact h3
   ·rw [if_neg h3] at h; omega
 ·rw [if_neg h1] at h; omega
end Go.Proofs.Ytlaagheeemkklaa
