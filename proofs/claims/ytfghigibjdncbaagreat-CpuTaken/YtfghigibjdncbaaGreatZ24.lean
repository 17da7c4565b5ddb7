/-
 PROVED HERE: steps of a region whose order is drawn: words in a row, objects that stay (no function of the code); what the . What is asked stands at each.
-/
import Derived.RangeFuncNested
import Derived.Deep.QuietTactic
import Derived.BigQuiet
import Derived.WalkKit
import Derived.ProofKit
import Derived.OpenShut
import Derived.Below
import Derived.WalkSmall
import Derived.OwnWalk
import Derived.Maps.AppendAt
import Derived.Deep.RegionHeld3
import Derived.Deep.AppendLies
import Derived.WalkSpells
import Derived.Test.YtfghigibjdncbaaGreatZ1
import Derived.Test.YtfghigibjdncbaaGreatZ2
import Derived.Test.YtfghigibjdncbaaGreatZ3
import Derived.Test.YtfghigibjdncbaaGreatZ5
import Derived.Test.YtfghigibjdncbaaGreatZ7
import Derived.Test.YtfghigibjdncbaaGreatZ12
import Derived.Test.YtfghigibjdncbaaGreatZ13
import Derived.Test.YtfghigibjdncbaaGreatZ14
import Derived.Test.YtfghigibjdncbaaGreatZ15
import Derived.Test.YtfghigibjdncbaaGreatZ16
import Derived.Test.YtfghigibjdncbaaGreatZ17
import Derived.Test.YtfghigibjdncbaaGreatZ18
import Derived.Test.YtfghigibjdncbaaGreatZ21
import Derived.Test.YtfghigibjdncbaaGreatZ22
import Derived.Test.YtfghigibjdncbaaGreatZ23
namespace Go.Proofs.YtfghigibjdncbaaGreat
set_option maxRecDepth 100000
set_option maxHeartbeats 8000000
open Go.RowKit Go.Shelf
set_option linter.unusedVariables false
attribute [local go_sem] Oper.semAt_some

theorem ob_word {S : World → Prop} {P : Program} {ty : TypeId} {b o : Nat} {v : Value} (hc : ∀ w, S w → w.cell? ⟨b, o, none⟩ = some v) (hg : ∀ w, (isAgg ty).run P w = .ok false w) : Obl.holds P S (.load ty b o v) := fun w hS => by
 simp [loadVar, hg, hc w hS]
end Go.Proofs.YtfghigibjdncbaaGreat
namespace Go.Proofs.YtfghigibjdncbaaGreat
set_option maxRecDepth 100000
set_option maxHeartbeats 8000000
open Go.RowKit Go.Shelf
set_option linter.unusedVariables false
attribute [local go_sem] Oper.semAt_some

def LbF (L : Lb) : Prop := Fit L ∧ L.length < 1048576
end Go.Proofs.YtfghigibjdncbaaGreat
namespace Go.Proofs.YtfghigibjdncbaaGreat
set_option maxRecDepth 100000
set_option maxHeartbeats 8000000
open Go.RowKit Go.Shelf
set_option linter.unusedVariables false
attribute [local go_sem] Oper.semAt_some

section
variable {fn : Func} {p u v y : Tmp} {ty : TypeId} {tmps : Array Value} {w : World} {B : Nat} {C : Array Value} {a b c : Value} {d : TypeDesc}
theorem resC2 (h : fn.results = #[.cell p ty, .tmp u]) (hB : Blk w B C ty) (hd : Tryz.prog.underlying ty = some d) (hr : d.isRow = true) (hs : (Tryz.prog.info? ty).map (·.size) = some C.size) (hp : tmps.getD p undef = .pointer (some ⟨B, 0, none⟩)) (hu : tmps.getD u undef = a) : (results fn tmps).run Tryz.prog w = .ok (.tuple #[.agg C, a]) w := by
 have h1 := run_loadVar_mid (P := Tryz.prog) w B 0 ty C.toList _ hB.range0 hd hr (by simpa using hs)
 rw [Array.toArray_toList] at h1
 have hp' : tmps[p]?.getD undef = .pointer (some ⟨B, 0, none⟩) := by simpa using hp
 have hu' : tmps[u]?.getD undef = a := by simpa using hu
 simp only [results, h]
 simp [Result.andThen, hp', hu', asAddr, h1]
end
structure Mw (w : World) (ao : Option Addr) (n cap : Nat) (X : List Ob) (C : Array Value) (x : Ob) : Prop where
 obs : Obs w ao n cap X
 srt : Srt X
 len : n ≤ 4096
 sml : Smalls X
 snd : ∀ y ∈ X, soundB y = true
 thr : ObD (LtN w) w C x
 lab : x.label.length < 1048576
theorem Mw.next {w w' : World} {ao : Option Addr} {n cap : Nat} {X : List Ob} {C : Array Value} {x : Ob} (h : Mw w ao n cap X C x) (k : Below w.heap.size w w') : Mw w' ao n cap X C x := ⟨obs_next h.obs k, h.srt, h.len, h.sml, h.snd, h.thr.next k, h.lab⟩
end Go.Proofs.YtfghigibjdncbaaGreat
namespace Go.Proofs.YtfghigibjdncbaaGreat
set_option maxRecDepth 100000
set_option maxHeartbeats 8000000
open Go.RowKit Go.Shelf
set_option linter.unusedVariables false
attribute [local go_sem] Oper.semAt_some

structure ObF (N M : Nat) (W : World) (C : Array Value) (x : Ob) : Prop where
 ob : ObD (fun b => N ≤ b ∧ b < M) W C x
 top : M ≤ W.heap.size
section
variable {N M : Nat} {w W W' : World} {C : Array Value} {x : Ob}
theorem ObF.next (h : ObF N M W C x) (k : Below W.heap.size W W') : ObF N M W' C x := ⟨ObD.laterK h.ob fun b hb => k.block b (Nat.lt_of_lt_of_le hb.2 h.top), Nat.le_trans h.top k.size⟩
theorem ObF.other {R : Nat} (h : ObF N M W C x) (k : Oth R W W') (hR : R < N) : ObF N M W' C x := ⟨ObD.laterK h.ob fun b hb => k.block b (by have := hb.1; omega), by rw [k.size]; exact h.top⟩
theorem ObF.lt (h : ObF N M W C x) : ObD (LtN W) W C x := ObD.wide h.ob fun b hb => Nat.lt_of_lt_of_le hb.2 h.top
theorem ObF.new (h : ObF N M W C x) (k : w.heap.size ≤ N) : ObD (New w W) W C x := ObD.wide h.ob fun b hb => ⟨Nat.le_trans k hb.1, Nat.lt_of_lt_of_le hb.2 h.top⟩
theorem ObF.size (h : ObF N M W C x) : C.size = 51 := h.ob.size
theorem ObF.one (h : ObF N M W C x) : C.all (·.oneCell') = true := h.ob.one
end
end Go.Proofs.YtfghigibjdncbaaGreat
namespace Go.Proofs.YtfghigibjdncbaaGreat
set_option maxRecDepth 100000
set_option maxHeartbeats 8000000
open Go.RowKit Go.Shelf
set_option linter.unusedVariables false
attribute [local go_sem] Oper.semAt_some

theorem res_w2 {fn : Func} {p u : Tmp} (h : fn.results = #[.cell p 25, .tmp u]) {tmps : Array Value} {w : World} {B : Nat} {C : Array Value} {v : Value} (hp : tmps.getD p undef = .pointer (some ⟨B, 0, none⟩)) (hu : tmps.getD u undef = v) (hB : Blk w B C 25) (hs : C.size = 4) : (results fn tmps).run Tryz.prog w = .ok (.tuple #[.agg C, v]) w :=
 resC2 h hB Tryz.underlying25 rfl (by rw [hs]; kernel_rfl) hp hu
theorem obs_lay {w W V : World} {R : Nat} {D0 : Nat → Prop} {ao : Option Addr} {n cap : Nat} {X : List Ob} (h : ObsD (New w W) D0 W ao n cap X) (hD : ∀ b, D0 b → b < W.heap.size ∧ b ≠ R) (hR : R < w.heap.size) (q : Oth R W V) : Obs V ao n cap X :=
 (h.laterK (fun b hb => q.block b (hD b hb).2) (fun b hb => q.block b (by have := hb.1; omega))).wide (fun b hb => by have := (hD b hb).1; have := q.size; show b < V.heap.size; omega) (fun b hb => by have := hb.2; have := q.size; show b < V.heap.size; omega)
end Go.Proofs.YtfghigibjdncbaaGreat
namespace Go.Proofs.YtfghigibjdncbaaGreat
set_option maxRecDepth 100000
set_option maxHeartbeats 8000000
open Go.RowKit Go.Shelf
set_option linter.unusedVariables false
attribute [local go_sem] Oper.semAt_some

def ruB (X : List Ob) (i : Int) : Bool := (fnd X i).isSome && (decide ((fO X i).kind = 4) && decide ((fO X i).th.state = 0))
theorem step_no {w : World} {t ke ro : Int} {ao : Option Addr} {n cap : Nat} {X : List Ob} {i : Int} (h : Obs w ao n cap X) (hs : Srt X) (hn : n < 1024) (hsm : Smalls X) (hid : ∀ y ∈ X, y.id ≠ 0) (hr : ruB X i = false) : Calls Tryz.prog 9 #[.agg #[.int .i64 t, .int .u64 ke, .int .u64 ro, .slice ao n cap], .int .u64 i] w fun e w' => ∃ ao2 n2 cap2, e = .returned (.tuple #[.agg #[.int .i64 t, .int .u64 ke, .int .u64 ro, .slice ao2 n2 cap2], .int .i64 (-1)]) ∧ Obs w' ao2 n2 cap2 X ∧ Below w.heap.size w w' := by
 have hzg : (Tryz.prog.info? 25).map (·.size) = some (#[.int .i64 t, .int .u64 ke, .int .u64 ro, .slice ao n cap] : Array Value).size := by kernel_rfl
 have hz2 : ∀ v, (Tryz.prog.info? 25).map (·.size) = some (#[.int .i64 t, .int .u64 ke, .int .u64 ro, v] : Array Value).size := fun _ => by kernel_rfl
 have hs2 : ∀ v, zW.size = (#[.int .i64 t, .int .u64 ke, .int .u64 ro, v] : Array Value).size := fun _ => rfl
 have h12 : ∀ ao n cap, (#[.int .i64 t, .int .u64 ke, .int .u64 ro, .slice ao n cap] : Array Value).all (·.oneCell') = true := fun _ _ _ => by kernel_rfl
 have ga1 := Tryz.isAgg3
 have hfd := fun (W : World) (hk : Below w.heap.size w W) => find_n (t := t) (ke := ke) (ro := ro) (i := i) (obs_next h hk) hs (by omega) hsm
 have hdr := fun (W : World) (hk : Below w.heap.size w W) => drop_w (t := t) (ke := ke) (ro := ro) (i := 0) (D0 := LtN w) (fun b hb => Nat.lt_of_lt_of_le hb hk.size) (obsD_next h (fun _ hb => hb) hk) hs hn hsm
 rw [drp_none hs (fnd_none.2 hid)] at hdr
 change ∀ W, Below w.heap.size w W → Calls Tryz.prog _ _ W fun e w' => ∃ C', e = .returned (.tuple #[.agg C', .bool (fnd X i).isSome]) ∧ ObD (New W w') w' C' (fO X i) ∧ _ at hfd
 unfold ruB at hr
 generalize fO X i = y at hfd hr
 obtain ⟨D, hD⟩ : ∃ D : Array Value, D = #[.int .i64 t, .int .u64 ke, .int .u64 ro, .slice ao n cap] := ⟨_, rfl⟩
 rw [← hD] at hfd hzg hdr
 rw [← hD]
 clear hD
 have hcase : ((fnd X i).isSome = false) ∨ ((fnd X i).isSome = true ∧ (y.kind != 4) = true) ∨ ((fnd X i).isSome = true ∧ (y.kind != 4) = false ∧ (y.th.state != 0) = true) := by
  cases h1 : (fnd X i).isSome with
  | false => exact .inl rfl
  | true =>
   rw [h1, Bool.true_and] at hr
   by_cases h2 : y.kind = 4
   ·rw [decide_eq_true h2, Bool.true_and] at hr
    exact .inr (.inr ⟨rfl, by simp [h2], by simpa using hr⟩)
   ·exact .inr (.inl ⟨rfl, by simpa using h2⟩)
 clear hr
 rcases hcase with h1 | ⟨h1, h2⟩ | ⟨h1, h2, h3⟩
 all_goals rw [h1] at hfd
 all_goals clear h1
 all_goals go_enter Tryz.func9, Tryz.ntmps9
 all_goals go_wp2_with (first
  | go_skip
  | (with_reducible refine wpList_box rfl 25 _ rfl D rfl ?_; intro B V1 hNB hB hk)
  | ((with_reducible refine wpList_alloc rfl 25 rfl zW zero43 ?_); intro R V3 hNR hR hk3; replace hB := hB.next hk3; replace hk := hk.trans (hk3.mono hk.size); clear hk3)
  | (with_reducible refine wpList_loadb (by with_unfolding_all rfl) 25 _ rfl B rfl D hB _ Tryz.underlying25 (by kernel_rfl) hzg ?_)
  | (go_at_call 19; (with_reducible refine (hfd _ hk).mono ?_); rintro e w5 ⟨C', rfl, oC', hb5, _⟩; replace hB := hB.next hb5; have hRl : Hid (R < w5.heap.size) := (by have := hR.lt; have := hb5.size; show R < w5.heap.size; omega); replace hR := hR.next hb5; replace hk := hk.trans (hb5.mono hk.size); have zC' := oC'.size; have e1 := oC'.kind; have e3 : C'[30]? = some (.int .i64 y.th.state) := oC'.th.state; have on := oC'.one; clear hfd oC' hb5)
  | ((with_reducible refine wpList_alloc rfl 50 rfl zC zero40 ?_); intro P W6 hN6 hP hk6; have hPl : Hid (w.heap.size ≤ P ∧ R ≠ P ∧ B ≠ P) := (by have := hN6.out; have := hk.size; have := hR.lt; have := hB.lt; exact ⟨by omega, by omega, by omega⟩); replace hB := hB.next hk6; replace hR := hR.next hk6; replace hk := hk.trans (hk6.mono hk.size))
  | ((with_reducible refine wpList_store_blk rfl 50 _ _ rfl P rfl C' rfl zC hP (size40C zC') (zC_size.trans zC'.symm) on ?_); intro W7 hP7 q7; replace hB := hB.other q7 hPl.out.2.2; replace hR := hR.other q7 hPl.out.2.1; replace hk := q7.below _ _ hPl.out.1 hk; clear q7)
  | (with_reducible refine wpList_load1 (by with_unfolding_all rfl) _ _ rfl P _ rfl _ _ hP7 _ e1 ga1 ?_)
  | (with_reducible refine wpList_load1 (by with_unfolding_all rfl) _ _ rfl P _ rfl _ _ hP7 _ e3 ga1 ?_)
  | (go_at_call 20; (with_reducible refine (hdr _ hk).mono ?_); rintro e w8 ⟨ao2, n2, cap2, rfl, p8, hb8⟩; have nR8 : Hid (R < _) := hR.lt; have h8s : Hid (_ ≤ w8.heap.size) := hb8.size; replace hR := hR.next hb8; replace hk := hk.trans (hb8.mono hk.size))
  | ((with_reducible refine wpList_store_blk rfl 25 _ _ rfl R rfl #[.int .i64 t, .int .u64 ke, .int .u64 ro, .slice ao2 n2 cap2] rfl zW hR (hz2 _) (hs2 _) (h12 _ _ _) ?_); intro V9 hR9 q9))
 all_goals
  have hRw : w.heap.size ≤ R := by have := hNB.out; have := hNR.out; omega
  exact bodyPost_ret (v := .tuple #[.agg #[.int .i64 t, .int .u64 ke, .int .u64 ro, .slice ao2 n2 cap2], .int .i64 (-1)]) (res_w2 Tryz.results9 rfl rfl hR9 rfl) rfl ⟨ao2, n2, cap2, rfl, obs_lay p8 (fun b hb => by
   have h1 := nR8.out
   have h2 := h8s.out
   rcases hb with hb | hb
   ·have h3 : b < w.heap.size := hb
    exact ⟨by omega, by omega⟩
   ·have h3 := hb.1
    have h4 := hb.2
    exact ⟨by omega, by omega⟩) nR8.out q9, q9.below _ _ hRw hk⟩
end Go.Proofs.YtfghigibjdncbaaGreat
namespace Go.Proofs.YtfghigibjdncbaaGreat
set_option maxRecDepth 100000
set_option maxHeartbeats 8000000
open Go.RowKit Go.Shelf
set_option linter.unusedVariables false
attribute [local go_sem] Oper.semAt_some

theorem blt_w0 : Tryz.prog.built 25 [] = some #[.int .i64 0, .int .u64 0, .int .u64 0, .slice none 0 0] := by kernel_rfl
theorem blt_t0 : Tryz.prog.built 46 [] = some zT := by kernel_rfl
theorem zT_d (D : Nat → Prop) (w : World) : ThD D w zT zTh := ⟨zT_size, zT_one, zTh_f D w⟩
theorem zT_sm : SmT zTh := ⟨by decide, by decide, by decide, by decide, by decide, by decide⟩
theorem fld_state {T : Array Value} {v : Int} (h : T[22]? = some (.int .i64 v)) (w : World) : (Instr.field 46 (.agg T) 6).run Tryz.prog w = .ok (.int .i64 v) w := by
 have hu := Tryz.underlying46
 have ga := Tryz.isAgg3
 unfold Instr.field
 simp [run_underlying hu, asAgg, ga, h, go_sem]
section
variable {P : Program} {ops : Array Oper} {rest : List Oper} {op : Oper} {a : Act} {Q : Exit → Act → World → Prop} {w : World}
theorem wpList_field (hw : Region.wanted op (yielded ops a.tmps) = true) (ty : TypeId) (x : Operand) (k : Nat) (ho : op.op = .field ty x k) (u : Value) (hx : a.eval x = u) (r : Value) (hr : (Instr.field ty u k).run P w = .ok r w) (h : wpList P ops Q rest (a.put op.dst r) w) : wpList P ops Q (op :: rest) a w := by
 refine wpList_val hw ?_ h
 unfold execOp
 simp [ho, hx, hr]
end
theorem awake19_any (w : World) : Calls Tryz.prog 8 #[] w fun e w' => e = .returned (.bool true) ∧ Below w.heap.size w w' := by
 have hz2 : ∀ v, (Tryz.prog.info? 25).map (·.size) = some (#[.int .i64 0, .int .u64 0, .int .u64 0, v] : Array Value).size := fun _ => by kernel_rfl
 have hs2 : ∀ v, zW.size = (#[.int .i64 0, .int .u64 0, .int .u64 0, v] : Array Value).size := fun _ => rfl
 have h12 : ∀ ao n cap, (#[.int .i64 0, .int .u64 0, .int .u64 0, .slice ao n cap] : Array Value).all (·.oneCell') = true := fun _ _ _ => by kernel_rfl
 have hk0 := Below.refl w.heap.size w
 have hst := fun W : World => step_no (t := 0) (ke := 0) (ro := 0) (i := 5) (ObsD.nil (LtN W) (LtN W) W) List.Pairwise.nil (by decide) (fun x hx => absurd hx (by simp)) (fun x hx => absurd hx (by simp)) rfl
 have hfl := fun W : World => fault_v (why := 1) (zT_d (LtN W) W) zT_sm
 go_enter Tryz.func8, Tryz.ntmps8
 go_wp2_with (first
  | go_skip
  | ((with_reducible refine wpList_build rfl 25 [] rfl #[.int .i64 0, .int .u64 0, .int .u64 0, .slice none 0 0] ?hf ?_); (case hf => exact blt_w0))
  | (go_at_call 9; (with_reducible refine (hst _).mono ?_); rintro e w1 ⟨ao2, n2, cap2, rfl, _, hb1⟩; have hk1 := hk0.trans (hb1.mono hk0.size); clear hb1 hst)
  | ((with_reducible refine wpList_alloc rfl 25 rfl zW zero43 ?_); intro P W2 hN hP hk2; have hPl : Hid (w.heap.size ≤ P) := (by have := hN.out; have := hk1.size; show w.heap.size ≤ P; omega); replace hk1 := hk1.trans (hk2.mono hk1.size))
  | ((with_reducible refine wpList_store_blk rfl 25 _ _ rfl P rfl #[.int .i64 0, .int .u64 0, .int .u64 0, .slice ao2 n2 cap2] rfl zW hP (hz2 _) (hs2 _) (h12 _ _ _) ?_); intro W3 hP3 q3; replace hk1 := q3.below _ _ hPl.out hk1; clear q3)
  | ((with_reducible refine wpList_buildw (by with_unfolding_all rfl) 46 [] rfl zT ?hf ?_); (case hf => exact blt_t0))
  | (go_at_call 16; (with_reducible refine (hfl _).mono ?_); rintro e w4 ⟨T', rfl, hT, hb4⟩; have hk4 := hk1.trans (hb4.mono hk1.size); have hs4 : T'[22]? = some (.int .i64 2) := hT.f.state)
  | (with_reducible refine wpList_field (by kernel_rfl) 46 _ 6 rfl (.agg T') rfl (.int .i64 2) (fld_state hs4 _) ?_))
 go_ret
 exact ⟨rfl, hk4⟩
end Go.Proofs.YtfghigibjdncbaaGreat
