/-
 PROVED HERE: what cpu's fetch returns, or throws, when it is called (contracts over this translation). What is asked stands at each.
-/
import Derived.Test.YtdeddhojjolihaaGreatZ44
import Derived.Test.YtdeddhojjolihaaGreatZ47
namespace Go.Proofs.YtdeddhojjolihaaGreat
set_option maxRecDepth 100000
set_option maxHeartbeats 8000000
set_option linter.unusedVariables false
open Go.Proofs.Tryz
section
open Go.RowKit Go.Shelf
attribute [local go_sem] Oper.semAt_some
def zI : Array Value := #[.int .i64 0, .int .i64 0, .int .i64 0, .int .i64 0, .int .i32 0]
theorem jHz (w : World) : (zeroValue 68).run prog w = .ok (.agg zI) w := Tryz.zeroValue68 w
def inV (v : Int) : Array Value := #[.int .i64 (Ins.fOp v), .int .i64 (Ins.fA v), .int .i64 (Ins.fB v), .int .i64 (Ins.fC v), .int .i32 (Ins.fI v)]
theorem wkz (op a b c i : Int) : (prog.info? 68).map (·.size) = some (#[.int .i64 op, .int .i64 a, .int .i64 b, .int .i64 c, .int .i32 i] : Array Value).size := by kernel_rfl
theorem one70 (op a b c i : Int) : (#[.int .i64 op, .int .i64 a, .int .i64 b, .int .i64 c, .int .i32 i] : Array Value).all (·.oneCell') = true := by kernel_rfl
variable {w : World} {B : Nat}
theorem res70 {fn : Func} {p : Tmp} (h : fn.results = #[.cell p 68]) {tmps : Array Value} {C : Array Value} (hp : tmps.getD p undef = .pointer (some ⟨B, 0, none⟩)) (hB : Blk w B C 68) (hs : C.size = 5) : (results fn tmps).run prog w = .ok (.agg C) w :=
 results_cell_row h tmps w B 68 C (0, 0) _ hp hB underlying68 rfl (by rw [hs]; kernel_rfl)
variable {Z : Nat → Prop} {ao : Option Addr} {F : Array Value} {t ke ro : Int} {n cap : Nat} {X : List Ob}
theorem fetch_y {x : Ob} (h : Pz Z w B F x t ke ro ao n cap X) (hg : Gx X n x) (hw : WdT x.th) (hE : wkE X x x.th.pc = 0) (hv : 0 ≤ ldV X x x.th.pc ∧ ldV X x x.th.pc < 18446744073709551616) (hd : Ins.decB (ldV X x x.th.pc) = true) : Calls prog 46 #[.pointer (some ⟨B, 0, none⟩)] w fun e w' => e = .returned (.agg (inV (ldV X x x.th.pc))) ∧ Below w.heap.size w w' := by
 have tk0 : True := trivial
 have ga2 := isAgg22
 have hB := h.blk
 have hp : F[24]? = some (.int .u64 x.th.pc) := h.pc
 have hk := Below.refl w.heap.size w
 have hwd := fun (W : World) (hk : Below w.heap.size w W) (why : Int) => yYz (why := why) (h.next hk) hg (by have := hw.pc; omega) hE
 have hdc := InM.decode_yes (ldV X x x.th.pc) hv.1 hv.2 hd
 generalize ldV X x x.th.pc = V at hwd hdc ⊢
 have hzv : (prog.info? 68).map (·.size) = some (inV V).size := wkz _ _ _ _ _
 have hsv : zI.size = (inV V).size := rfl
 have hov : (inV V).all (·.oneCell') = true := one70 _ _ _ _ _
 change ∀ W, Calls prog _ _ W fun e w' => e = .returned (.tuple #[.agg (inV V), .bool true]) ∧ _ at hdc
 have hs5 : (inV V).size = 5 := rfl
 generalize inV V = CV at hdc hzv hsv hov hs5 ⊢
 clear hE hd hv
 go_enter func46, ntmps46
 go_wp2_with (first
  | go_skip
  | ((with_reducible refine qcz rfl 68 rfl zI jHz ?_); have hx := tk0; clear hx tk0; intro R V1 hNR hR hk1; replace hB := hB.next hk1; replace hk := btz hk hk1; clear hk1)
  | (with_reducible refine qaz (by kernel_rfl) _ _ rfl B _ rfl _ _ hB _ hp (by assumption) ?_)
  | (go_at_call 74; (with_reducible refine (hwd _ hk _).mono ?_); rintro e w2 ⟨rfl, hb2⟩; replace hB := hB.next hb2; replace hR := hR.next hb2; replace hk := btz hk hb2)
  | (go_at_call 78; (with_reducible refine (hdc _).mono ?_); rintro e w3 ⟨rfl, hb3⟩; replace hB := hB.next hb3; replace hR := hR.next hb3; replace hk := btz hk hb3; have tk1 : True := trivial)
  | ((with_reducible refine qcz rfl 68 rfl zI jHz ?_); have hx := tk1; clear hx tk1; intro P4 W4 hN4 hP4 hk4; have hne : Hid (R ≠ P4 ∧ w.heap.size ≤ P4) := (by have := hN4.out; have := hR.lt; have := hk.size; exact ⟨by omega, by omega⟩); replace hR := hR.next hk4; replace hk := btz hk hk4; clear hk4)
  | ((with_reducible refine qbz rfl _ _ _ rfl P4 rfl CV rfl zI hP4 hzv hsv hov ?_); intro W5 hP5 q5; clear hP4; replace hR := hR.other q5 hne.out.1; replace hk := q5.below _ _ hne.out.2 hk)
  | (go_at_call 79; (with_reducible refine (kez _ _).mono ?_); rintro e w9 ⟨rfl, rfl⟩)
  | (with_reducible refine qfz rfl _ _ rfl P4 rfl _ hP5 _ underlying68 rfl hzv ?_)
  | ((with_reducible refine qbz rfl _ _ _ rfl R rfl CV rfl zI hR hzv hsv hov ?_); intro W6 hR6 q6))
 exact bodyPost_ret (v := .agg CV) (res70 results46 rfl hR6 hs5) rfl ⟨rfl, q6.below _ _ (by have := hNR.out; omega) hk⟩
theorem fetch_n1 {x : Ob} (h : Pz Z w B F x t ke ro ao n cap X) (hg : Gx X n x) (hw : WdT x.th) (hE : wkE X x x.th.pc ≠ 0) : Calls prog 46 #[.pointer (some ⟨B, 0, none⟩)] w fun e w' => e = .panicked (thrF 1) ∧ Below w.heap.size w w' := by
 have tk0 : True := trivial
 have ga2 := isAgg22
 have hB := h.blk
 have hp : F[24]? = some (.int .u64 x.th.pc) := h.pc
 have hk := Below.refl w.heap.size w
 have hwd := fun (W : World) (hk : Below w.heap.size w W) (why : Int) => word_n (why := why) (h.next hk) hg (by have := hw.pc; omega) hE
 clear hE
 go_enter func46, ntmps46
 go_wp2_with (first
  | go_skip
  | ((with_reducible refine qcz rfl 68 rfl zI jHz ?_); have hx := tk0; clear hx tk0; intro R V1 hNR hR hk1; replace hB := hB.next hk1; replace hk := btz hk hk1; clear hk1)
  | (with_reducible refine qaz (by kernel_rfl) _ _ rfl B _ rfl _ _ hB _ hp (by assumption) ?_)
  | (go_at_call 74; (with_reducible refine (hwd _ hk _).mono ?_); rintro e w2 ⟨rfl, hb2⟩; replace hk := btz hk hb2))
 exact ⟨rfl, rfl, hk⟩
theorem fetch_n2 {x : Ob} (h : Pz Z w B F x t ke ro ao n cap X) (hg : Gx X n x) (hw : WdT x.th) (hE : wkE X x x.th.pc = 0) (hv : 0 ≤ ldV X x x.th.pc ∧ ldV X x x.th.pc < 18446744073709551616) (hd : Ins.decB (ldV X x x.th.pc) = false) : Calls prog 46 #[.pointer (some ⟨B, 0, none⟩)] w fun e w' => e = .panicked (thrF 2) ∧ Below w.heap.size w w' := by
 have tk0 : True := trivial
 have ga2 := isAgg22
 have hB := h.blk
 have hp : F[24]? = some (.int .u64 x.th.pc) := h.pc
 have hk := Below.refl w.heap.size w
 have hwd := fun (W : World) (hk : Below w.heap.size w W) (why : Int) => yYz (why := why) (h.next hk) hg (by have := hw.pc; omega) hE
 have hdc := InM.decode_no (ldV X x x.th.pc) hv.1 hv.2 hd
 generalize ldV X x x.th.pc = V at hwd hdc
 obtain ⟨CV, hzv, hsv, hov, hdc⟩ : ∃ CV : Array Value, (prog.info? 68).map (·.size) = some CV.size ∧ zI.size = CV.size ∧ CV.all (·.oneCell') = true ∧ ∀ W, Calls prog 78 #[.int .u64 V] W fun e w' => e = .returned (.tuple #[.agg CV, .bool false]) ∧ Below W.heap.size W w' := ⟨zI, wkz _ _ _ _ _, rfl, one70 _ _ _ _ _, hdc⟩
 clear hE hd hv
 go_enter func46, ntmps46
 go_wp2_with (first
  | go_skip
  | ((with_reducible refine qcz rfl 68 rfl zI jHz ?_); have hx := tk0; clear hx tk0; intro R V1 hNR hR hk1; replace hB := hB.next hk1; replace hk := btz hk hk1; clear hk1)
  | (with_reducible refine qaz (by kernel_rfl) _ _ rfl B _ rfl _ _ hB _ hp (by assumption) ?_)
  | (go_at_call 74; (with_reducible refine (hwd _ hk _).mono ?_); rintro e w2 ⟨rfl, hb2⟩; replace hB := hB.next hb2; replace hR := hR.next hb2; replace hk := btz hk hb2)
  | (go_at_call 78; (with_reducible refine (hdc _).mono ?_); rintro e w3 ⟨rfl, hb3⟩; replace hB := hB.next hb3; replace hR := hR.next hb3; replace hk := btz hk hb3; have tk1 : True := trivial)
  | ((with_reducible refine qcz rfl 68 rfl zI jHz ?_); have hx := tk1; clear hx tk1; intro P4 W4 hN4 hP4 hk4; have hne : Hid (R ≠ P4 ∧ w.heap.size ≤ P4) := (by have := hN4.out; have := hR.lt; have := hk.size; exact ⟨by omega, by omega⟩); replace hR := hR.next hk4; replace hk := btz hk hk4; clear hk4)
  | ((with_reducible refine qbz rfl _ _ _ rfl P4 rfl CV rfl zI hP4 hzv hsv hov ?_); intro W5 hP5 q5; clear hP4; replace hR := hR.other q5 hne.out.1; replace hk := q5.below _ _ hne.out.2 hk)
  | (go_at_call 79; (with_reducible refine (kfz _ _).mono ?_); rintro e w9 ⟨rfl, rfl⟩))
 exact ⟨rfl, rfl, hk⟩
end
end Go.Proofs.YtdeddhojjolihaaGreat
