/-
  PROVED HERE: what package obj's functions that make objects of objects return when they are called (contracts over this translation). No condition.
-/
import Derived.Test.YtfpmkihlfhpgdaaOb2
namespace Go.Proofs.Ytfpmkihlfhpgdaa
open Go.RowKit Go.Shelf
set_option linter.unusedVariables false
attribute [local go_sem] Oper.semAt_some

def zT : Array Value := #[.int .u64 0, .int .u64 0, .int .u64 0, .int .u64 0, .int .u64 0, .int .u64 0, .int .u64 0, .int .u64 0, .int .u64 0, .int .u64 0, .int .u64 0, .int .u64 0, .int .u64 0, .int .u64 0, .int .u64 0, .int .u64 0, .int .u64 0, .slice none 0 0, .int .u64 0, .int .u64 0, .int .u64 0, .int .u64 0, .int .i64 0, .int .u64 0, .int .u64 0, .int .u64 0, .int .u64 0, .bool false, .slice none 0 0, .int .u64 0, .int .u64 0, .slice none 0 0, .slice none 0 0, .slice none 0 0, .slice none 0 0]
def zG : Array Value := #[.slice none 0 0, .slice none 0 0, .int .u64 0, .int .u64 0, .int .u64 0, .int .u64 0]
def comC (a b c d e : Value) : Array Value := #[a, b, c, d, e, .slice none 0 0, .slice none 0 0, .slice none 0 0, .int .u64 0, .int .u64 0, .int .u64 0, .int .u64 0, .int .u64 0, .int .u64 0, .int .u64 0, .int .u64 0, .int .u64 0, .int .u64 0, .int .u64 0, .int .u64 0, .int .u64 0, .int .u64 0, .int .u64 0, .int .u64 0, .int .u64 0, .slice none 0 0, .int .u64 0, .int .u64 0, .int .u64 0, .int .u64 0, .int .i64 0, .int .u64 0, .int .u64 0, .int .u64 0, .int .u64 0, .bool false, .slice none 0 0, .int .u64 0, .int .u64 0, .slice none 0 0, .slice none 0 0, .slice none 0 0, .slice none 0 0, .slice none 0 0, .slice none 0 0, .int .u64 0, .int .u64 0, .int .u64 0, .int .u64 0, .slice none 0 0, .slice none 0 0]
def zC : Array Value := comC (.int .u64 0) (.int .i64 0) (.slice none 0 0) (.int .i64 0) (.bool false)
theorem zero40 (w : World) : (zeroValue 40).run Try.prog w = .ok (.agg zC) w := Try.zeroValue40 w
theorem size40 : (Try.prog.info? 40).map (·.size) = some 51 := by kernel_rfl
theorem size40C {C : Array Value} (h : C.size = 51) : (Try.prog.info? 40).map (·.size) = some C.size := by rw [h]; exact size40
theorem zC_size : zC.size = 51 := by kernel_rfl
theorem res40 {fn : Func} {p : Tmp} (h : fn.results = #[.cell p 40]) {tmps : Array Value} {w : World} {B : Nat} {C : Array Value} (hp : tmps.getD p undef = .pointer (some ⟨B, 0, none⟩)) (hB : Blk w B C 40) (hs : C.size = 51) : (results fn tmps).run Try.prog w = .ok (.agg C) w :=
  results_cell_row h tmps w B 40 C (0, 0) _ hp hB Try.underlying40 rfl (size40C hs)
theorem zTh_f (D : Nat → Prop) (w : World) : ThF D w (fun i => zT[i]?) zTh := by
  refine ⟨rfl, ?_, rfl, LbV.zero _ _, rfl, rfl, rfl, rfl, rfl, rfl, rfl, rfl, rfl, rfl, CtV.zero _ _, rfl, rfl, LbV.zero _ _, LbV.zero _ _, LbV.zero _ _, LbV.zero _ _⟩
  intro i hi
  rcases i with _ | _ | _ | _ | _ | _ | _ | _ | _ | _ | _ | _ | _ | _ | _ | _ | i
  all_goals first | rfl | (exfalso; omega)
theorem zGt_f (D : Nat → Prop) (w : World) : GtF D w (fun i => zG[i]?) zGt := ⟨LbV.zero _ _, LbV.zero _ _, rfl, rfl, rfl, rfl⟩
theorem zT_one : zT.all (·.oneCell') = true := by kernel_rfl
theorem zG_one : zG.all (·.oneCell') = true := by kernel_rfl
theorem zTh_d (D : Nat → Prop) (w : World) : ThD D w zT zTh := ⟨by kernel_rfl, zT_one, zTh_f D w⟩
theorem zGt_d (D : Nat → Prop) (w : World) : GtD D w zG zGt := ⟨by kernel_rfl, zG_one, zGt_f D w⟩
theorem comC_t (a b c d e : Value) : (comC a b c d e).extract 8 (8 + 35) = zT := by kernel_rfl
theorem comC_g (a b c d e : Value) : (comC a b c d e).extract 43 (43 + 6) = zG := by kernel_rfl
theorem comC_d {D : Nat → Prop} {w : World} {i k q : Int} {f : Bool} {ao : Option Addr} {n cap : Nat} {L : Lb} (h : LabD D w ao n cap L) : ObD D w (comC (.int .u64 i) (.int .i64 k) (.slice ao n cap) (.int .i64 q) (.bool f)) ⟨i, k, L, q, f, [], [], [], zTh, zGt, [], []⟩ := by
  have hs : (comC (.int .u64 i) (.int .i64 k) (.slice ao n cap) (.int .i64 q) (.bool f)).size = 51 := by kernel_rfl
  refine ⟨hs, by kernel_rfl, rfl, rfl, ⟨ao, n, cap, rfl, h⟩, rfl, rfl, CtV.zero _ _, CtV.zero _ _, MpV.zero _ _, ?_, ?_, CtV.zero _ _, CtV.zero _ _⟩
  · refine (zTh_f D w).congr fun i hi => ?_
    rw [← comC_t (.int .u64 _) (.int .i64 _) (.slice ao n cap) (.int .i64 _) (.bool _)]
    exact ext_get (by rw [hs]; omega) hi
  · refine (zGt_f D w).congr fun i hi => ?_
    rw [← comC_g (.int .u64 _) (.int .i64 _) (.slice ao n cap) (.int .i64 _) (.bool _)]
    exact ext_get (by rw [hs]; omega) hi
theorem zC_d (D : Nat → Prop) (w : World) : ObD D w zC zOb := comC_d (LabD.nil D w)
theorem built_com (i k : Int) (ao : Option Addr) (n cap : Nat) (q : Int) (f : Bool) : Try.prog.built 40 [(0, .int .u64 i), (1, .int .i64 k), (2, .slice ao n cap), (3, .int .i64 q), (4, .bool f)] = some (comC (.int .u64 i) (.int .i64 k) (.slice ao n cap) (.int .i64 q) (.bool f)) := by kernel_rfl
set_option maxRecDepth 100000 in
theorem common_any {w : World} {C : Array Value} {x : Ob} (h : ObD (LtN w) w C x) :
    Calls Try.prog 34 #[.agg C] w fun e w' => ∃ C', e = .returned (.agg C') ∧ ObD (LtN w') w' C' (comO x) ∧ Below w.heap.size w w' := by
  obtain ⟨ao, n, cap, c2, hL⟩ := h.label
  have c0 := h.id
  have c1 := h.kind
  have c3 := h.quota
  have c4 := h.fixed
  have hd := comC_d (i := x.id) (k := x.kind) (q := x.quota) (f := x.fixed) hL
  go_enter Try.func34, Try.ntmps34
  go_wp2_with (first
    | (with_reducible refine wpList_box rfl _ _ rfl C rfl ?_; intro B W hB hb hk)
    | (with_reducible refine wpList_alloc rfl _ rfl zC zero40 ?_; intro B' W' hB' hb' hk'; have q0 := ((hb.next hk').cell 0).trans c0; have q1 := ((hb.next hk').cell 1).trans c1; have q2 := ((hb.next hk').cell 2).trans c2; have q3 := ((hb.next hk').cell 3).trans c3; have q4 := ((hb.next hk').cell 4).trans c4)
    | ((with_reducible refine wpList_build rfl _ _ rfl (comC (.int .u64 x.id) (.int .i64 x.kind) (.slice ao n cap) (.int .i64 x.quota) (.bool x.fixed)) ?hf ?_); (case hf => exact built_com _ _ _ _ _ _ _))
    | ((with_reducible refine wpList_store_blk rfl _ _ _ rfl B' rfl (comC (.int .u64 x.id) (.int .i64 x.kind) (.slice ao n cap) (.int .i64 x.quota) (.bool x.fixed)) rfl zC hb' (size40C hd.size) (zC_size.trans hd.size.symm) hd.one ?_); intro W2 b2 o2))
  have b1 := hk.trans (hk'.mono hk.size)
  have hlt := hk.size
  refine bodyPost_ret (v := .agg _) (res40 Try.results34 rfl b2 hd.size) rfl ?_
  exact ⟨_, rfl, (hd.laterK fun b hb => ((o2.block b (by have := hB'.out.1; have := show b < w.heap.size from hb; omega)).trans (b1.block b hb))).wide fun b hb => by rw [LtN, o2.size]; exact Nat.lt_of_lt_of_le hb b1.size, o2.below _ _ (by have := hB'.out.1; omega) b1⟩
end Go.Proofs.Ytfpmkihlfhpgdaa
