/-
 PROVED HERE: plain words for segments, and what package seg's room and the document's room return when they are called (con. What is asked stands at each.
-/
import Derived.Laws.CopyOwn
import Derived.Deep.RegionLaw
import Derived.Test.YtfghigibjdncbaaGreatZ9
import Derived.Test.YtfghigibjdncbaaGreatZ10
import Derived.Test.YtfghigibjdncbaaGreatZ11
import Derived.Test.YtfghigibjdncbaaGreatZ15
namespace Go.Proofs.YtfghigibjdncbaaGreat
set_option maxRecDepth 100000
set_option maxHeartbeats 8000000
open Go.RowKit Go.Shelf
set_option linter.unusedVariables false
attribute [local go_sem] Oper.semAt_some

def ws (L : List Int) (a n : Nat) : List Int := (List.range n).map fun i => L.getD (a + i) 0
theorem ws_len (L : List Int) (a n : Nat) : (ws L a n).length = n := by unfold ws; simp
def pgL (x : Ob) (n : Int) : List Int := if x.kind = 1 ∧ 0 ≤ n then ws x.data (16 * n.toNat) 16 else List.replicate 16 0
end Go.Proofs.YtfghigibjdncbaaGreat
namespace Go.Proofs.YtfghigibjdncbaaGreat
set_option maxRecDepth 100000
set_option maxHeartbeats 8000000
open Go.RowKit Go.Shelf
set_option linter.unusedVariables false
attribute [local go_sem] Oper.semAt_some

def zP : Array Value := #[.int .u64 0, .int .u64 0, .int .u64 0, .int .u64 0, .int .u64 0, .int .u64 0, .int .u64 0, .int .u64 0, .int .u64 0, .int .u64 0, .int .u64 0, .int .u64 0, .int .u64 0, .int .u64 0, .int .u64 0, .int .u64 0]
def pgC (x : Ob) (n : Int) : Array Value := (wordsC (pgL x n)).toArray
theorem pgL_len (x : Ob) (n : Int) : (pgL x n).length = 16 := by unfold pgL; split; exact ws_len _ _ _; simp
theorem pgC_size (x : Ob) (n : Int) : (pgC x n).size = 16 := by unfold pgC wordsC; simp [pgL_len]
end Go.Proofs.YtfghigibjdncbaaGreat
namespace Go.Proofs.YtfghigibjdncbaaGreat
set_option maxRecDepth 100000
set_option maxHeartbeats 8000000
open Go.RowKit Go.Shelf
set_option linter.unusedVariables false
attribute [local go_sem] Oper.semAt_some

def PgK (x : Ob) (n : Int) (k : Nat) (A : Array Value) : Prop := A.size = 16 ∧ ∀ i, i < 16 → A[i]? = some (.int .u64 (if i < k then (pgL x n).getD i 0 else 0))
theorem PgK.zero (x : Ob) (n : Int) : PgK x n 0 zP := ⟨rfl, fun i hi => by
 rw [if_neg (by omega)]
 rcases i with _ | _ | _ | _ | _ | _ | _ | _ | _ | _ | _ | _ | _ | _ | _ | _ | i
 all_goals first | rfl | (exfalso; omega)⟩
theorem PgK.all {x : Ob} {n : Int} {A : Array Value} (h : PgK x n 16 A) : A = pgC x n := by
 apply Array.ext_getElem?
 intro i
 by_cases hi : i < 16
 ·rw [h.2 i hi, if_pos hi]
  unfold pgC wordsC
  rw [List.getElem?_toArray, List.getElem?_map, List.getElem?_eq_getElem (by rw [pgL_len]; exact hi), List.getD_eq_getElem?_getD, List.getElem?_eq_getElem (by rw [pgL_len]; exact hi)]; rfl
 ·rw [Array.getElem?_eq_none (by rw [h.1]; omega), Array.getElem?_eq_none (by rw [pgC_size]; omega)]
theorem PgK.set {x : Ob} {n : Int} {k : Nat} {A : Array Value} {u : Int} (h : PgK x n k A) (hk : k < 16) (hu : (pgL x n).getD k 0 = u) : PgK x n (k + 1) (A.setIfInBounds k (.int .u64 u)) := by
 refine ⟨by simpa using h.1, fun i hi => ?_⟩
 rw [set_at (by rw [h.1]; exact hk)]
 by_cases e : k = i
 ·subst e
  rw [if_pos rfl, if_pos (by omega), hu]
 ·rw [if_neg e, h.2 i hi]
  by_cases q : i < k
  ·rw [if_pos q, if_pos (by omega)]
  ·rw [if_neg q, if_neg (by omega)]
end Go.Proofs.YtfghigibjdncbaaGreat
namespace Go.Proofs.YtfghigibjdncbaaGreat
set_option maxRecDepth 100000
set_option maxHeartbeats 8000000
open Go.RowKit Go.Shelf
set_option linter.unusedVariables false
attribute [local go_sem] Oper.semAt_some

theorem CtD.take {D : Nat → Prop} {w : World} {ao : Option Addr} {n cap m : Nat} {L : List Int} (h : CtD D w ao n cap L) (hm : m ≤ n) : CtD D w ao m cap (L.take m) := by
 refine ⟨by rw [List.length_take, h.1]; omega, Nat.le_trans hm h.2.1, h.2.2.1, fun h0 => ?_⟩
 obtain ⟨b, off, e, hb, hc⟩ := h.2.2.2 (by omega)
 refine ⟨b, off, e, hb, fun i hi => ?_⟩
 rw [hc i (by omega)]
 rw [List.getD_eq_getElem?_getD, List.getD_eq_getElem?_getD, List.getElem?_take_of_lt hi]
end Go.Proofs.YtfghigibjdncbaaGreat
namespace Go.Proofs.YtfghigibjdncbaaGreat
set_option maxRecDepth 100000
set_option maxHeartbeats 8000000
open Go.RowKit Go.Shelf
set_option linter.unusedVariables false
attribute [local go_sem] Oper.semAt_some

theorem built_w3 (ao : Option Addr) (n c : Nat) : Tryz.prog.built 25 [(3, .slice ao n c)] = some #[.int .i64 0, .int .u64 0, .int .u64 0, .slice ao n c] := by kernel_rfl
def Alo (w w' : World) (C' : Array Value) (x : Ob) : Prop := ObD (New w w') w' C' x ∧ ∃ M, LbV (fun b => New w w' b ∧ b < M) w' C'[2]? x.label ∧ (∃ ao n cap, C'[6]? = some (.slice ao n cap) ∧ w'.ownsRow M 22 1 (.slice ao n cap) n (wordsC x.data)) ∧ w.heap.size ≤ M
theorem Alo.next {w W W' : World} {C' : Array Value} {x : Ob} (h : Alo w W C' x) (k : Below W.heap.size W W') : Alo w W' C' x := by
 obtain ⟨h1, M, h2, ⟨ao, n, cap, h3, h4⟩, h5⟩ := h
 have hn : ∀ b, New w W b → New w W' b := fun b hb => ⟨hb.1, Nat.lt_of_lt_of_le hb.2 k.size⟩
 exact ⟨(h1.laterK fun b hb => k.block b hb.2).wide hn, M, (LbV.laterK h2 fun b hb => k.block b hb.1.2).wide fun b hb => ⟨hn b hb.1, hb.2⟩, ⟨ao, n, cap, h3, owns_later h4 fun b _ hl => k.block b hl⟩, h5⟩
end Go.Proofs.YtfghigibjdncbaaGreat
namespace Go.Proofs.YtfghigibjdncbaaGreat
set_option maxRecDepth 100000
set_option maxHeartbeats 8000000
open Go.RowKit Go.Shelf
set_option linter.unusedVariables false
attribute [local go_sem] Oper.semAt_some

theorem zero46 (w : World) : (zeroValue 46).run Tryz.prog w = .ok (.agg zT) w := Tryz.zeroValue46 w
theorem size46C {C : Array Value} (h : C.size = 35) : (Tryz.prog.info? 46).map (·.size) = some C.size := by rw [h]; kernel_rfl
theorem res46 {fn : Func} {p : Tmp} (h : fn.results = #[.cell p 46]) {tmps : Array Value} {w : World} {B : Nat} {C : Array Value} (hp : tmps.getD p undef = .pointer (some ⟨B, 0, none⟩)) (hB : Blk w B C 46) (hs : C.size = 35) : (results fn tmps).run Tryz.prog w = .ok (.agg C) w :=
 results_cell_row h tmps w B 46 C (0, 0) _ hp hB Tryz.underlying46 rfl (size46C hs)
theorem res46b {fn : Func} {p u : Tmp} (h : fn.results = #[.cell p 46, .tmp u]) {tmps : Array Value} {w : World} {B : Nat} {C : Array Value} {v : Value} (hp : tmps.getD p undef = .pointer (some ⟨B, 0, none⟩)) (hu : tmps.getD u undef = v) (hB : Blk w B C 46) (hs : C.size = 35) : (results fn tmps).run Tryz.prog w = .ok (.tuple #[.agg C, v]) w := by
 rw [results_cell_tmp h, hp, hu]
 have := run_loadVar_mid (P := Tryz.prog) w B 0 46 C.toList _ hB.range0 Tryz.underlying46 rfl (by simpa using size46C hs)
 rw [Array.toArray_toList] at this
 simp [asAddr, this, Result.andThen]
def plO : Array (Nat × Nat) := #[(0, 1), (1, 1), (2, 1), (3, 1), (4, 1), (5, 1), (6, 1), (7, 1), (8, 35), (43, 6), (49, 1), (50, 1)]
theorem built_ob (parts : List (Nat × Value)) : Tryz.prog.built 50 parts = Instr.fill (fun i => plO[i]?) zC parts := by kernel_rfl
theorem built_th {D : Nat → Prop} {w : World} {T : Array Value} {t : Th} (h : ThD D w T t) : ∃ C, Tryz.prog.built 50 [(1, .int .i64 4), (8, .agg T)] = some C ∧ ObD D w C (thO t) := by
 have h1 : ∀ rest, Instr.fill (fun i => plO[i]?) zC ((1, .int .i64 4) :: rest) = Instr.fill (fun i => plO[i]?) (zC.setIfInBounds 1 (.int .i64 4)) rest := fun rest => by kernel_rfl
 have hz : (zC.setIfInBounds 1 (.int .i64 4)).size = 51 := by simp [zC_size]
 have hT := h.size
 obtain ⟨a1, a2⟩ := fill_get 8 T.toList 0 (zC.setIfInBounds 1 (.int .i64 4)) (by rw [hz]; simp [hT])
 obtain ⟨C, hC⟩ : ∃ C, (T.toList.zipIdx 0).foldl (fun (c : Array Value) (p : Value × Nat) => c.setIfInBounds (8 + p.2) p.1) (zC.setIfInBounds 1 (.int .i64 4)) = C := ⟨_, rfl⟩
 rw [hC] at a1 a2
 have hin : ∀ i, i < 35 → C[8 + i]? = T[i]? := fun i hi => by rw [a2, if_pos (by simp [hT]; omega)]; simp
 have hout : ∀ i, i < 8 ∨ 43 ≤ i → C[i]? = if 1 = i then some (.int .i64 4) else zC[i]? := fun i hi => by rw [a2, if_neg (by simp [hT]; omega), set_at (by rw [zC_size]; omega)]
 have hz0 := zC_d D w
 refine ⟨C, ?_, ?_⟩
 ·rw [built_ob, h1, fill_step (o := 8) (n := 35) rfl hT (by rw [hz, hT]; decide)]
  rw [← hC]
  rfl
 ·refine ⟨a1.trans hz, all_ext fun j v e => ?_, (hout 0 (by omega)).trans hz0.id, hout 1 (by omega), ?_, (hout 3 (by omega)).trans hz0.quota, (hout 4 (by omega)).trans hz0.fixed, ?_, ?_, ?_, h.f.congr fun i hi => (hin i hi).symm, hz0.gt.congr fun i hi => ?_, ?_, ?_⟩
  ·by_cases q : j < 8 ∨ 43 ≤ j
   ·rw [hout j q] at e
    split at e
    ·cases e; rfl
    ·exact all_get hz0.one e
   ·obtain ⟨m, rfl⟩ : ∃ m, j = 8 + m := ⟨j - 8, by omega⟩
    rw [hin m (by omega)] at e
    exact all_get h.one e
  ·rw [hout 2 (by omega)]; exact hz0.label
  ·rw [hout 5 (by omega)]; exact hz0.links
  ·rw [hout 6 (by omega)]; exact hz0.data
  ·rw [hout 7 (by omega)]; exact hz0.maps
  ·rw [hout (43 + i) (by omega), if_neg (by omega)]
  ·rw [hout 49 (by omega)]; exact hz0.inn
  ·rw [hout 50 (by omega)]; exact hz0.out
theorem fnd_th (t : Th) : fnd [thO t] 0 = some (thO t) := rfl
section
variable {P : Program} {ops : Array Oper} {rest : List Oper} {op : Oper} {a : Act} {Q : Exit → Act → World → Prop} {w : World}
theorem run_ia16 {b o i : Nat} (hi : i < 16) (w : World) : (Instr.indexAt 37 (.pointer (some ⟨b, o, none⟩)) (.int .i64 (i : Int))).run Tryz.prog w = .ok (.pointer (some ⟨b, o + i, none⟩)) w := by
 have hi' : (i : Int) < 16 := by omega
 go_simp
theorem wpList_ia (hw : Region.wanted op (yielded ops a.tmps) = true) (ty : TypeId) (x y : Operand) (ho : op.op = .indexAddr ty x y) (u v : Value) (hx : a.eval x = u) (hy : a.eval y = v) (r : Value) (hr : (Instr.indexAt ty u v).run P w = .ok r w) (h : wpList P ops Q rest (a.put op.dst r) w) : wpList P ops Q (op :: rest) a w := by
 refine wpList_val hw ?_ h
 unfold execOp
 simp [ho, hx, hy, hr]
end
theorem own_v {w : World} {T : Array Value} {t : Th} (h : ThD (LtN w) w T t) (hs : SmT t) : Calls Tryz.prog 39 #[.agg T] w fun e w' => ∃ T', e = .returned (.agg T') ∧ ThD (New w w') w' T' t ∧ Below w.heap.size w w' := by
 have hsz := h.size
 have hso := h.one
 obtain ⟨C, hC, oC⟩ := built_th h
 have hCz := oC.size
 have ga2 := Tryz.isAgg22
 have hC0 : C[0]? = some (.int .u64 0) := oC.id
 have hfd := fun (W : World) (P : Nat) (oW : ObD (LtN W) W C (thO t)) (hP : Blk W P C 50) => find_n (t := 0) (ke := 0) (ro := 0) (i := 0) (obs_one hP oW) (List.pairwise_singleton _ _) (by decide) (fun x hx => (List.mem_singleton.1 hx) ▸ hs.ob)
 simp only [fnd_th, Option.isSome_some, Option.getD_some] at hfd
 go_enter Tryz.func39, Tryz.ntmps39
 go_wp2_with (first
  | go_skip
  | (with_reducible refine wpList_box rfl _ _ rfl T rfl ?_; intro B W hB hb hk)
  | ((with_reducible refine wpList_alloc rfl _ rfl zT zero46 ?_); intro R W1 hB1 hR hk1; replace hb := hb.next hk1; replace hk := hk.trans (hk1.mono hk.size))
  | (with_reducible refine wpList_load_blk rfl _ _ rfl B rfl _ hb _ Tryz.underlying46 rfl (size46C hsz) ?_)
  | ((with_reducible refine wpList_build rfl 50 [(1, .const (.int .i64 4)), (8, .tmp 6)] rfl C ?hf ?_); (case hf => exact hC); have tk1 : True := trivial)
  | ((with_reducible refine wpList_alloc rfl _ rfl zC zero40 ?_); have hx := tk1; clear hx tk1; intro P W2 hB2 hP hk2; replace hb := hb.next hk2; replace hR := hR.next hk2; replace hk := hk.trans (hk2.mono hk.size); have oC2 := oC.next hk)
  | ((with_reducible refine wpList_store_blk rfl _ _ _ rfl P rfl C rfl zC hP (size40C hCz) (zC_size.trans hCz.symm) oC.one ?_); intro W3 hP3 q3; have hlt3 : Hid (w.heap.size ≤ P) := (by have := hB2.out; have := hk.size; have := hk2.size; have := hB1.out; have := hB.out; have := hk1.size; show w.heap.size ≤ P; omega); have oC3 := (oC.laterK fun b hb' => (q3.block b (by have := hlt3.out; have : b < w.heap.size := hb'; omega)).trans (hk.block b hb')).wide (D' := LtN W3) fun b hb' => Nat.lt_of_lt_of_le hb' (by rw [q3.size]; exact hk.size); replace hR := hR.other q3 (by have := hB1.out; have := hB2.out; have := hR.lt; omega); replace hk := q3.below _ _ hlt3.out hk)
  | (with_reducible refine wpList_load_blk rfl _ _ rfl P rfl _ hP3 _ Tryz.underlying50 rfl (size40C hCz) ?_)
  | ((with_reducible refine wpList_bs1 rfl _ rfl C rfl hCz ?_); intro S W4 hB4 hS hk4; have oC4 := oC3.next hk4; replace hP3 := hP3.next hk4; replace hR := hR.next hk4; replace hk := hk.trans (hk4.mono hk.size))
  | ((with_reducible refine wpList_build rfl 25 [(3, .tmp 10)] rfl #[.int .i64 0, .int .u64 0, .int .u64 0, .slice (some ⟨S, 0, none⟩) 1 1] ?hf ?_); (case hf => exact built_w3 _ _ _))
  | (with_reducible refine wpList_load1 (by kernel_rfl) _ _ rfl P _ rfl _ _ hP3 _ hC0 (by assumption) ?_)
  | (go_at_call 19; (with_reducible refine (hfd _ _ oC4 hS).mono ?_); rintro e w5 ⟨C', rfl, oC', hb5, _⟩; replace hR := hR.next hb5; have nk : Hid (w.heap.size ≤ W4.heap.size) := hk.size; replace hk := hk.trans (hb5.mono hk.size); have zC' := oC'.size; have tk2 : True := trivial)
  | ((with_reducible refine wpList_alloc rfl _ rfl zC zero40 ?_); have hx := tk2; clear hx tk2; intro P2 W6 hB6 hP6 hk6; replace hR := hR.next hk6; replace hk := hk.trans (hk6.mono hk.size))
  | ((with_reducible refine wpList_store_blk rfl _ _ _ rfl P2 rfl C' rfl zC hP6 (size40C zC') (zC_size.trans zC'.symm) oC'.one ?_); intro W7 hP7 q7; have hlt7 : Hid (w.heap.size ≤ P2 ∧ R ≠ P2 ∧ w5.heap.size ≤ P2) := (by have := hB6.out; have := nk.out; have := hb5.size; have := hR.lt; have := hB1.out; have := hB2.out; have := hB4.out; have := q3.size; have h1 := hk1.size; have h2 := hk2.size; have h4 := hk4.size; exact ⟨by omega, by omega, by omega⟩); have oC7 := oC'.laterK (w' := W7) fun b hb' => (q7.block b (by have := hlt7.out.2.2; have := hb'.2; omega)).trans (hk6.block b hb'.2); replace hR := hR.other q7 hlt7.out.2.1; replace hk := q7.below _ _ hlt7.out.1 hk)
  | (with_reducible refine wpList_load_part rfl _ _ rfl P2 8 35 rfl C' _ hP7 (by rw [zC']; decide) _ Tryz.underlying46 rfl (by kernel_rfl) ?_)
  | ((with_reducible refine wpList_store_blk rfl _ _ _ rfl R rfl (C'.extract 8 (8 + 35)) rfl zT hR (size46C oC'.thd.size) (zT_size.trans oC'.thd.size.symm) oC'.thd.one ?_); intro W8 hR8 q8))
 have hRl : Hid (w.heap.size ≤ R ∧ R < W4.heap.size) := by
  have := hB.out; have := hB1.out; have h1 := hk1.size; have h2 := hk2.size; have h4 := hk4.size; have := q3.size; have := hB2.out
  exact ⟨by omega, by omega⟩
 refine bodyPost_ret (v := .agg (C'.extract 8 (8 + 35))) (res46 Tryz.results39 rfl hR8 oC'.thd.size) rfl ⟨_, rfl, ?_, q8.below _ _ hRl.out.1 hk⟩
 exact (oC7.thd.laterK fun b hb' => q8.block b (by have := hb'.1; have := hRl.out.2; omega)).wide fun b hb' => ⟨Nat.le_trans nk.out hb'.1, by have := hb'.2; have := q8.size; have := q7.size; have := hk6.size; show b < W8.heap.size; omega⟩
theorem diverted_v {w V : World} {D : Nat → Prop} {T : Array Value} {t : Th} {g why : Int} (h : ThD D V T t) : Calls Tryz.prog 40 #[.agg T, .int .u64 g, .int .u64 why] w fun e w' => ∃ T', e = .returned (.agg T') ∧ ThD D V T' (dvT t g why) ∧ Below w.heap.size w w' := by
 have hsz := h.size
 have hpc : T[16]? = some (.int .u64 t.pc) := h.f.pc
 have ga2 := Tryz.isAgg22
 have h1 := h.put (j := 14) (by decide) (by rfl) (h.f.setreg (k := 14) (by decide) t.pc)
 have h2 := h1.put (j := 15) (by decide) (by rfl) (h1.f.setreg (k := 15) (by decide) why)
 have h3 := h2.put (j := 16) (by decide) (by rfl) (h2.f.setpc g)
 have z1 := h1.size
 have z2 := h2.size
 have z3 := h3.size
 obtain ⟨T1, e1⟩ : ∃ T1, T.setIfInBounds 14 (.int .u64 t.pc) = T1 := ⟨_, rfl⟩
 rw [e1] at h1 h2 h3 z1 z2 z3
 obtain ⟨T2, e2⟩ : ∃ T2, T1.setIfInBounds 15 (.int .u64 why) = T2 := ⟨_, rfl⟩
 rw [e2] at h2 h3 z2 z3
 obtain ⟨T3, e3⟩ : ∃ T3, T2.setIfInBounds 16 (.int .u64 g) = T3 := ⟨_, rfl⟩
 rw [e3] at h3 z3
 have on3 := h3.one
 replace e1 : Hid _ := e1
 replace e2 : Hid _ := e2
 replace e3 : Hid _ := e3
 have hi14 : ∀ W B, (Instr.indexAt 37 (.pointer (some ⟨B, 0, none⟩)) (.int .i64 14)).run Tryz.prog W = .ok (.pointer (some ⟨B, 14, none⟩)) W := fun W B => run_ia16 (i := 14) (by decide) W
 have hi15 : ∀ W B, (Instr.indexAt 37 (.pointer (some ⟨B, 0, none⟩)) (.int .i64 15)).run Tryz.prog W = .ok (.pointer (some ⟨B, 15, none⟩)) W := fun W B => run_ia16 (i := 15) (by decide) W
 go_enter Tryz.func40, Tryz.ntmps40
 go_wp2_with (first
  | go_skip
  | (with_reducible refine wpList_box rfl _ _ rfl T rfl ?_; intro B W hB hb hk)
  | ((with_reducible refine wpList_alloc rfl _ rfl zT zero46 ?_); intro R W1 hB1 hR hk1; have hne : Hid (B ≠ R ∧ w.heap.size ≤ B ∧ w.heap.size ≤ R) := (by have := hB1.out; have := hB.out; have := hk1.size; exact ⟨by omega, by omega, by omega⟩); replace hb := hb.next hk1; replace hk := hk.trans (hk1.mono hk.size))
  | (with_reducible refine wpList_load1 (by kernel_rfl) _ _ rfl B _ rfl _ _ hb _ hpc (by assumption) ?_)
  | (with_reducible refine wpList_ia (by kernel_rfl) 37 _ _ rfl _ _ rfl rfl _ (hi14 _ _) ?_)
  | (with_reducible refine wpList_ia (by kernel_rfl) 37 _ _ rfl _ _ rfl rfl _ (hi15 _ _) ?_)
  | ((with_reducible refine wpList_store_cell rfl 22 _ _ rfl B 14 rfl (.int .u64 t.pc) rfl rfl T _ hb (by kernel_rfl) (by rw [hsz]; decide) rfl ?_); intro W2 hb2 o2; rw [e1.out] at hb2; replace hR := hR.other o2 hne.out.1.symm; replace hk := o2.below _ _ hne.out.2.1 hk)
  | ((with_reducible refine wpList_store_cell rfl 22 _ _ rfl B 15 rfl (.int .u64 why) rfl rfl T1 _ hb2 (by kernel_rfl) (by rw [z1]; decide) rfl ?_); intro W3 hb3 o3; rw [e2.out] at hb3; replace hR := hR.other o3 hne.out.1.symm; replace hk := o3.below _ _ hne.out.2.1 hk)
  | ((with_reducible refine wpList_store_cell rfl 22 _ _ rfl B 16 rfl (.int .u64 g) rfl rfl T2 _ hb3 (by kernel_rfl) (by rw [z2]; decide) rfl ?_); intro W4 hb4 o4; rw [e3.out] at hb4; replace hR := hR.other o4 hne.out.1.symm; replace hk := o4.below _ _ hne.out.2.1 hk)
  | (with_reducible refine wpList_load_blk rfl _ _ rfl B rfl _ hb4 _ Tryz.underlying46 rfl (size46C z3) ?_)
  | ((with_reducible refine wpList_store_blk rfl _ _ _ rfl R rfl T3 rfl zT hR (size46C z3) (zT_size.trans z3.symm) on3 ?_); intro W5 hR5 o5))
 exact bodyPost_ret (v := .agg T3) (res46 Tryz.results40 rfl hR5 z3) rfl ⟨_, rfl, h3, o5.below _ _ hne.out.2.2 hk⟩
theorem ThD.news {w w' : World} {T : Array Value} {t : Th} (h : ThD (LtN w) w T t) (k : Below w.heap.size w w') : ThD (LtN w') w' T t := h.next k
theorem fault_v {w : World} {T : Array Value} {t : Th} {why : Int} (h : ThD (LtN w) w T t) (hs : SmT t) : Calls Tryz.prog 16 #[.agg T, .int .u64 why] w fun e w' => ∃ T', e = .returned (.agg T') ∧ ThD (New w w') w' T' (flT t why) ∧ Below w.heap.size w w' := by
 have hsz := h.size
 have hh : T[20]? = some (.int .u64 t.handler) := h.f.handler
 have ga2 := Tryz.isAgg22
 have h1 := h.put (j := 22) (by decide) (by rfl) (h.f.setstate 2)
 have z1 := h1.size
 obtain ⟨T1, e1⟩ : ∃ T1, T.setIfInBounds 22 (.int .i64 2) = T1 := ⟨_, rfl⟩
 rw [e1] at h1 z1
 replace e1 : Hid _ := e1
 by_cases h0 : t.handler = 0
 ·have hfl : Hid (flT t why = { t with state := 2 }) := by unfold flT; rw [if_pos h0]; exact rfl
  have hb0 : (t.handler == 0) = true := by simp [h0]
  have hs1 : SmT { t with state := 2 } := by rw [← hfl.out]; exact hs.fl why
  clear h0
  go_enter Tryz.func16, Tryz.ntmps16
  go_wp2_with (first
   | go_skip
   | (with_reducible refine wpList_box rfl _ _ rfl T rfl ?_; intro B W hB hb hk)
   | ((with_reducible refine wpList_alloc rfl _ rfl zT zero46 ?_); intro R W1 hB1 hR hk1; have hne : Hid (B ≠ R ∧ w.heap.size ≤ B ∧ w.heap.size ≤ R ∧ R < W1.heap.size) := (by have := hB1.out; have := hB.out; have := hk1.size; exact ⟨by omega, by omega, by omega, by omega⟩); replace hb := hb.next hk1; replace hk := hk.trans (hk1.mono hk.size))
   | (with_reducible refine wpList_load1 (by kernel_rfl) _ _ rfl B _ rfl _ _ hb _ hh (by assumption) ?_)
   | ((with_reducible refine wpList_store_cell rfl 3 _ _ rfl B 22 rfl (.int .i64 2) rfl rfl T _ hb (by kernel_rfl) (by rw [hsz]; decide) rfl ?_); intro W2 hb2 o2; rw [e1.out] at hb2; replace hR := hR.other o2 hne.out.1.symm; replace hk := o2.below _ _ hne.out.2.1 hk; have hl2 : Hid (R < W2.heap.size) := (by rw [o2.size]; exact hne.out.2.2.2))
   | (with_reducible refine wpList_load_blk rfl _ _ rfl B rfl _ hb2 _ Tryz.underlying46 rfl (size46C z1) ?_)
   | (go_at_call 39; (with_reducible refine (own_v (h1.news hk) hs1).mono ?_); rintro e w3 ⟨T3, rfl, hT3, hb3⟩; replace hR := hR.next hb3; have hk2 := hk; replace hk := hk.trans (hb3.mono hk.size); have z3 := hT3.size)
   | ((with_reducible refine wpList_store_blk rfl _ _ _ rfl R rfl T3 rfl zT hR (size46C z3) (zT_size.trans z3.symm) hT3.one ?_); intro W5 hR5 o5))
  refine bodyPost_ret (v := .agg T3) (res46 Tryz.results16 rfl hR5 z3) rfl ⟨_, rfl, ?_, o5.below _ _ hne.out.2.2.1 hk⟩
  rw [hfl.out]
  exact (hT3.laterK fun b hb => o5.block b (by have := hb.1; have := hl2.out; omega)).wide fun b hb => ⟨Nat.le_trans hk2.size hb.1, by rw [o5.size]; exact hb.2⟩
 ·have hfl : Hid (flT t why = { dvT t t.handler why with handler := 0 }) := by unfold flT; rw [if_neg h0]; exact rfl
  have hb0 : (t.handler == 0) = false := by simp [h0]
  have hs1 : SmT { dvT t t.handler why with handler := 0 } := by rw [← hfl.out]; exact hs.fl why
  clear h0
  go_enter Tryz.func16, Tryz.ntmps16
  go_wp2_with (first
   | go_skip
   | (with_reducible refine wpList_box rfl _ _ rfl T rfl ?_; intro B W hB hb hk)
   | ((with_reducible refine wpList_alloc rfl _ rfl zT zero46 ?_); intro R W1 hB1 hR hk1; have hne : Hid (B ≠ R ∧ w.heap.size ≤ B ∧ w.heap.size ≤ R ∧ R < W1.heap.size) := (by have := hB1.out; have := hB.out; have := hk1.size; exact ⟨by omega, by omega, by omega, by omega⟩); replace hb := hb.next hk1; replace hk := hk.trans (hk1.mono hk.size))
   | (with_reducible refine wpList_load1 (by kernel_rfl) _ _ rfl B _ rfl _ _ hb _ hh (by assumption) ?_)
   | (with_reducible refine wpList_load_blk rfl _ _ rfl B rfl _ hb _ Tryz.underlying46 rfl (size46C hsz) ?_)
   | (go_at_call 40; (with_reducible refine (diverted_v (g := t.handler) (why := why) h).mono ?_); rintro e w3 ⟨T3, rfl, hT3, hb3⟩; have hl3 : Hid (R < w3.heap.size) := (by have := hne.out.2.2.2; have := hb3.size; show R < w3.heap.size; omega); replace hR := hR.next hb3; replace hb := hb.next hb3; replace hk := hk.trans (hb3.mono hk.size); have z3 := hT3.size)
   | ((with_reducible refine wpList_store_blk rfl _ _ _ rfl B rfl T3 rfl T hb (size46C z3) (hsz.trans z3.symm) hT3.one ?_); intro W5 hb5 o5; clear hb; replace hR := hR.other o5 hne.out.1.symm; replace hk := o5.below _ _ hne.out.2.1 hk)
   | ((with_reducible refine wpList_store_cell rfl 22 _ _ rfl B 20 rfl (.int .u64 0) rfl rfl T3 _ hb5 (by kernel_rfl) (by rw [z3]; decide) rfl ?_); intro W6 hb6 o6; clear hb5; replace hR := hR.other o6 hne.out.1.symm; replace hk := o6.below _ _ hne.out.2.1 hk; replace hT3 := hT3.put (j := 20) (by decide) (by rfl) (hT3.f.sethandler 0); have z4 := hT3.size; have hl6 : Hid (R < W6.heap.size) := (by rw [o6.size, o5.size]; exact hl3.out))
   | (with_reducible refine wpList_load_blk rfl _ _ rfl B rfl _ hb6 _ Tryz.underlying46 rfl (size46C z4) ?_)
   | (go_at_call 39; (with_reducible refine (own_v (hT3.news hk) hs1).mono ?_); rintro e w7 ⟨T7, rfl, hT7, hb7⟩; replace hR := hR.next hb7; have hk2 := hk; replace hk := hk.trans (hb7.mono hk.size); have z7 := hT7.size)
   | ((with_reducible refine wpList_store_blk rfl _ _ _ rfl R rfl T7 rfl zT hR (size46C z7) (zT_size.trans z7.symm) hT7.one ?_); intro W8 hR8 o8))
  refine bodyPost_ret (v := .agg T7) (res46 Tryz.results16 rfl hR8 z7) rfl ⟨_, rfl, ?_, o8.below _ _ hne.out.2.2.1 hk⟩
  rw [hfl.out]
  exact (hT7.laterK fun b hb => o8.block b (by have := hb.1; have := hl6.out; omega)).wide fun b hb => ⟨Nat.le_trans hk2.size hb.1, by rw [o8.size]; exact hb.2⟩
end Go.Proofs.YtfghigibjdncbaaGreat
