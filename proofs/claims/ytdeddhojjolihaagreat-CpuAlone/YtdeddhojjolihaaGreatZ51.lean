/-
 PROVED HERE: what cpu's do returns, or throws, when it is called (contracts over this translation): operations of two words. What is asked stands at each.
-/
import Derived.Test.YtdeddhojjolihaaGreatZ38
import Derived.Test.YtdeddhojjolihaaGreatZ49
import Derived.Test.YtdeddhojjolihaaGreatZ50
namespace Go.Proofs.YtdeddhojjolihaaGreat
set_option maxRecDepth 100000
set_option maxHeartbeats 8000000
set_option linter.unusedVariables false
open Go.Proofs.Tryz
section
open Go.RowKit Go.Shelf
attribute [local go_sem] Oper.semAt_some
variable {Z : Nat → Prop} {ao : Option Addr} {F : Array Value} {t ke ro : Int} {n cap : Nat} {X : List Ob} {a b c : Nat} {w : World} {B : Nat} {x : Ob}
theorem do_al {op i : Int} (h : Pz Z w B F x t ke ro ao n cap X) (ha16 : a < 16) (hb16 : b < 16) (hc16 : c < 16) (hw : WdT x.th) (hn0 : op ≠ 0) (hn1 : op ≠ 1) (hn2 : op ≠ 2) (hn3 : op ≠ 3) (hn14 : op ≠ 14) (hn18 : op ≠ 18) (hn19 : op ≠ 19) (hn20 : op ≠ 20) (hn21 : op ≠ 21) (hn22 : op ≠ 22) (hn23 : op ≠ 23) (hn24 : op ≠ 24) (hn25 : op ≠ 25) : Calls prog 45 #[.pointer (some ⟨B, 0, none⟩), .agg #[.int .i64 op, .int .i64 (a : Int), .int .i64 (b : Int), .int .i64 (c : Int), .int .i32 i]] w fun e w' => e = .returned (.int .i64 (-1)) ∧ ∃ F', Pz Z w' B F' { x with th := plT op (a : Int) (b : Int) (c : Int) i x.th } t ke ro ao n cap X ∧ Ot B w w' := by
 have hmx : prog.follows .mixedOrders = true := by kernel_rfl
 have ga2 := isAgg22
 have ga3 := isAgg3
 have ga4 := isAgg21
 have hb := h.blk
 have hz := h.size
 have hBl := h.blk.lt
 have hk := Below.refl w.heap.size w
 have hra := h.reg ha16
 have hrb := h.reg hb16
 obtain ⟨RA, hRA⟩ : ∃ RA : Int, Hid (x.th.regs.getD a 0 = RA) := ⟨_, rfl⟩
 rw [hRA.out] at hra
 have hzI : (prog.info? 68).map (·.size) = some (#[.int .i64 op, .int .i64 (a : Int), .int .i64 (b : Int), .int .i64 (c : Int), .int .i32 i] : Array Value).size := wkz _ _ _ _ _
 obtain ⟨CI, hCI⟩ : ∃ CI : Array Value, CI = #[.int .i64 op, .int .i64 (a : Int), .int .i64 (b : Int), .int .i64 (c : Int), .int .i32 i] := ⟨_, rfl⟩
 have c0 : CI[0]? = some (.int .i64 op) := by rw [hCI]; rfl
 have c1 : CI[1]? = some (.int .i64 (a : Int)) := by rw [hCI]; rfl
 have c4 : CI[4]? = some (.int .i32 i) := by rw [hCI]; rfl
 have c2 : CI[2]? = some (.int .i64 (b : Int)) := by rw [hCI]; rfl
 rw [← hCI] at hzI
 rw [← hCI]
 replace hCI : Hid _ := hCI
 have hb0 : (op == 0) = false := by rw [beq_eq_false_iff_ne]; exact hn0
 replace hn0 : Hid _ := hn0
 have hb1 : (op == 1) = false := by rw [beq_eq_false_iff_ne]; exact hn1
 replace hn1 : Hid _ := hn1
 have hb2 : (op == 2) = false := by rw [beq_eq_false_iff_ne]; exact hn2
 replace hn2 : Hid _ := hn2
 have hb3 : (op == 3) = false := by rw [beq_eq_false_iff_ne]; exact hn3
 replace hn3 : Hid _ := hn3
 have hb14 : (op == 14) = false := by rw [beq_eq_false_iff_ne]; exact hn14
 replace hn14 : Hid _ := hn14
 have hb18 : (op == 18) = false := by rw [beq_eq_false_iff_ne]; exact hn18
 replace hn18 : Hid _ := hn18
 have hb19 : (op == 19) = false := by rw [beq_eq_false_iff_ne]; exact hn19
 replace hn19 : Hid _ := hn19
 have hb20 : (op == 20) = false := by rw [beq_eq_false_iff_ne]; exact hn20
 replace hn20 : Hid _ := hn20
 have hb21 : (op == 21) = false := by rw [beq_eq_false_iff_ne]; exact hn21
 replace hn21 : Hid _ := hn21
 have hb22 : (op == 22) = false := by rw [beq_eq_false_iff_ne]; exact hn22
 replace hn22 : Hid _ := hn22
 have hb23 : (op == 23) = false := by rw [beq_eq_false_iff_ne]; exact hn23
 replace hn23 : Hid _ := hn23
 have hb24 : (op == 24) = false := by rw [beq_eq_false_iff_ne]; exact hn24
 replace hn24 : Hid _ := hn24
 have hb25 : (op == 25) = false := by rw [beq_eq_false_iff_ne]; exact hn25
 replace hn25 : Hid _ := hn25
 go_enter func45, ntmps45
 go_wp2_with (first
  | go_skip
  | ((with_reducible refine qdz rfl 68 _ rfl CI rfl ?_); intro I W1 hNI hI hk1; have hIB : Hid (B ≠ I) := (by have := hNI.out; show B ≠ I; omega); replace hb := hb.next hk1; replace hk := btz hk hk1))
 have hB := hb
 refine PgM.region_out (S := fun W => Blk W B F 59 ∧ Blk W I CI 68 ∧ Below w.heap.size w W) hmx (⟨hB.next (Below.refl _ _).drew, hI.next (Below.refl _ _).drew, hk.trans ((Below.refl _ _).drew.mono hk.size)⟩) (fun hS0 => ?_)
 generalize W1.drew = v0 at hS0 ⊢
 refine qoz (by kernel_rfl) (fun _ _ _ _ _ h => h) hS0 [(0, none), (1, none), (2, some (.int .i64 (a : Int))), (3, none), (4, none), (5, none), (6, none), (7, some (.pointer (some ⟨B, 8 + a, none⟩))), (8, some (.int .u64 RA)), (9, none)] (l' := #[tt, tt, tt, tt, tt, tt, tt, tt, tt, tt]) (a' := { tmps := #[.pointer (some ⟨B, 0, none⟩), .agg CI, undef, .pointer (some ⟨I, 0, none⟩), .int .i64 0, .int .u64 RA, .pointer (some ⟨B, 0, none⟩), .pointer (some ⟨I, 1, none⟩), .int .i64 (a : Int), .pointer (some ⟨B, 0, none⟩), .pointer (some ⟨B, 0, none⟩), .pointer (some ⟨B, 8, none⟩), .pointer (some ⟨B, 8, none⟩), .pointer (some ⟨B, 8 + a, none⟩), .int .u64 RA, ud, ud, ud, ud, ud, ud, ud, ud, ud, ud, ud, ud, ud, ud, ud, ud, ud, ud, ud, ud, ud, ud, ud, ud, ud, ud, ud, ud, ud, ud, ud, ud, ud, ud, ud, ud, ud, ud, ud, ud, ud, ud, ud, ud, ud, ud, ud, ud, ud, ud, ud, ud, ud, ud, ud, ud, ud, ud, ud, ud, ud, ud, ud, ud, ud, ud, ud, ud, ud, ud, ud, ud, ud, ud, ud, ud, ud, ud, ud, ud, ud, ud, ud, ud, ud, ud, ud, ud, ud, ud, ud, ud, ud, ud, ud, ud, ud, ud, ud, ud, ud, ud, ud, ud, ud, ud, ud, ud, ud, ud, ud, ud, ud, ud, undef], defers := [] }) (obs := [.load 3 I 1 (.int .i64 (a : Int)), .ia 37 (.pointer (some ⟨B, 8, none⟩)) (.int .i64 (a : Int)) (.pointer (some ⟨B, 8 + a, none⟩)), .load 22 B (8 + a) (.int .u64 RA)]) (n := 0) (by kernel_rfl) (by kernel_rfl) ⟨qgz (fun W hS => hS.2.1) c1 ga3, fun W hS => qFz ha16 W, qgz (fun W hS => hS.1) hra ga2, trivial⟩ ?_
 refine wpAnyH_done (by kernel_rfl) ?_ _
 have hB1 := hS0.1
 have hI1 := hS0.2.1
 have hk1 := hS0.2.2
 have hop := uJz (op := op) (i := i) (h.next hk1) ha16 hb16 hc16 hw
 rw [← hCI.out] at hop
 go_wp2_with (first
  | go_skip
  | (with_reducible refine qaz (by kernel_rfl) _ _ rfl I _ rfl _ _ hI1 _ c0 (by assumption) ?_)
  | (with_reducible refine qaz (by kernel_rfl) _ _ rfl I _ rfl _ _ hI1 _ c1 (by assumption) ?_)
  | (with_reducible refine qaz (by kernel_rfl) _ _ rfl I _ rfl _ _ hI1 _ c4 (by assumption) ?_)
  | (with_reducible refine qfz rfl _ _ rfl I rfl _ hI1 _ underlying68 rfl hzI ?_)
  | (go_at_call 77; (with_reducible refine (hop).mono ?_); rintro e w3 ⟨rfl, F3, hP3, q3⟩))
 go_ret
 refine ⟨rfl, F3, ?_, (Ot.of hk1 hBl).trans q3⟩
 have e : plT op (a : Int) (b : Int) (c : Int) i x.th = seI x.th (a : Int) (doI op (rgI x.th (b : Int)) (rgI x.th (c : Int))) := by
  unfold plT
  rw [if_neg hn0.out, if_neg hn1.out, if_neg hn2.out, if_neg hn3.out, if_neg hn14.out, if_neg hn18.out, if_neg hn19.out, if_neg hn20.out, if_neg hn21.out, if_neg hn22.out]
 rw [e]
 exact hP3
variable {i : Int}
theorem do_24y (h : Pz Z w B F x t ke ro ao n cap X) (ha16 : a < 16) (hb16 : b < 16) (hc16 : c < 16) (hw : WdT x.th) (hg : Gx X n x) (hE : stB X x (smI x.th (b : Int) i) = true) : Calls prog 45 #[.pointer (some ⟨B, 0, none⟩), .agg #[.int .i64 24, .int .i64 (a : Int), .int .i64 (b : Int), .int .i64 (c : Int), .int .i32 i]] w fun e w' => e = .returned (.int .i64 (-1)) ∧ ∃ F' ao2 n2 cap2, Pz Z w' B F' { x with th := { x.th with pc := nxI x.th } } t ke ro ao2 n2 cap2 (stX X x (smI x.th (b : Int) i) (rgI x.th (a : Int))) ∧ Ot B w w' := by
 have hmx : prog.follows .mixedOrders = true := by kernel_rfl
 have ga2 := isAgg22
 have ga3 := isAgg3
 have ga4 := isAgg21
 have hb := h.blk
 have hz := h.size
 have hBl := h.blk.lt
 have hk := Below.refl w.heap.size w
 have hra := h.reg ha16
 have hrb := h.reg hb16
 obtain ⟨RA, hRA⟩ : ∃ RA : Int, Hid (x.th.regs.getD a 0 = RA) := ⟨_, rfl⟩
 rw [hRA.out] at hra
 have hzI : (prog.info? 68).map (·.size) = some (#[.int .i64 24, .int .i64 (a : Int), .int .i64 (b : Int), .int .i64 (c : Int), .int .i32 i] : Array Value).size := wkz _ _ _ _ _
 obtain ⟨CI, hCI⟩ : ∃ CI : Array Value, CI = #[.int .i64 24, .int .i64 (a : Int), .int .i64 (b : Int), .int .i64 (c : Int), .int .i32 i] := ⟨_, rfl⟩
 have c0 : CI[0]? = some (.int .i64 24) := by rw [hCI]; rfl
 have c1 : CI[1]? = some (.int .i64 (a : Int)) := by rw [hCI]; rfl
 have c4 : CI[4]? = some (.int .i32 i) := by rw [hCI]; rfl
 have c2 : CI[2]? = some (.int .i64 (b : Int)) := by rw [hCI]; rfl
 rw [← hCI] at hzI
 rw [← hCI]
 replace hCI : Hid _ := hCI
 have hsw : 0 ≤ smI x.th (b : Int) i ∧ smI x.th (b : Int) i ≤ 18446744073709551615 := by unfold smI; omega
 go_enter func45, ntmps45
 go_wp2_with (first
  | go_skip
  | ((with_reducible refine qdz rfl 68 _ rfl CI rfl ?_); intro I W1 hNI hI hk1; have hIB : Hid (B ≠ I) := (by have := hNI.out; show B ≠ I; omega); replace hb := hb.next hk1; replace hk := btz hk hk1))
 have hB := hb
 refine PgM.region_out (S := fun W => Blk W B F 59 ∧ Blk W I CI 68 ∧ Below w.heap.size w W) hmx (⟨hB.next (Below.refl _ _).drew, hI.next (Below.refl _ _).drew, hk.trans ((Below.refl _ _).drew.mono hk.size)⟩) (fun hS0 => ?_)
 generalize W1.drew = v0 at hS0 ⊢
 refine qoz (by kernel_rfl) (fun _ _ _ _ _ h => h) hS0 [(0, none), (1, none), (2, some (.int .i64 (a : Int))), (3, none), (4, none), (5, none), (6, none), (7, some (.pointer (some ⟨B, 8 + a, none⟩))), (8, some (.int .u64 RA)), (9, none)] (l' := #[tt, tt, tt, tt, tt, tt, tt, tt, tt, tt]) (a' := { tmps := #[.pointer (some ⟨B, 0, none⟩), .agg CI, undef, .pointer (some ⟨I, 0, none⟩), .int .i64 0, .int .u64 RA, .pointer (some ⟨B, 0, none⟩), .pointer (some ⟨I, 1, none⟩), .int .i64 (a : Int), .pointer (some ⟨B, 0, none⟩), .pointer (some ⟨B, 0, none⟩), .pointer (some ⟨B, 8, none⟩), .pointer (some ⟨B, 8, none⟩), .pointer (some ⟨B, 8 + a, none⟩), .int .u64 RA, ud, ud, ud, ud, ud, ud, ud, ud, ud, ud, ud, ud, ud, ud, ud, ud, ud, ud, ud, ud, ud, ud, ud, ud, ud, ud, ud, ud, ud, ud, ud, ud, ud, ud, ud, ud, ud, ud, ud, ud, ud, ud, ud, ud, ud, ud, ud, ud, ud, ud, ud, ud, ud, ud, ud, ud, ud, ud, ud, ud, ud, ud, ud, ud, ud, ud, ud, ud, ud, ud, ud, ud, ud, ud, ud, ud, ud, ud, ud, ud, ud, ud, ud, ud, ud, ud, ud, ud, ud, ud, ud, ud, ud, ud, ud, ud, ud, ud, ud, ud, ud, ud, ud, ud, ud, ud, ud, ud, ud, ud, ud, ud, ud, ud, undef], defers := [] }) (obs := [.load 3 I 1 (.int .i64 (a : Int)), .ia 37 (.pointer (some ⟨B, 8, none⟩)) (.int .i64 (a : Int)) (.pointer (some ⟨B, 8 + a, none⟩)), .load 22 B (8 + a) (.int .u64 RA)]) (n := 0) (by kernel_rfl) (by kernel_rfl) ⟨qgz (fun W hS => hS.2.1) c1 ga3, fun W hS => qFz ha16 W, qgz (fun W hS => hS.1) hra ga2, trivial⟩ ?_
 refine wpAnyH_done (by kernel_rfl) ?_ _
 have hB1 := hS0.1
 have hI1 := hS0.2.1
 have hk1 := hS0.2.2
 have hsm := y8z (op := 24) (a := a) (c := c) (i := i) (h.next hk1) hb16
 rw [← hCI.out] at hsm
 go_wp2_with (first
  | go_skip
  | (with_reducible refine qaz (by kernel_rfl) _ _ rfl I _ rfl _ _ hI1 _ c0 (by assumption) ?_)
  | (with_reducible refine qaz (by kernel_rfl) _ _ rfl I _ rfl _ _ hI1 _ c1 (by assumption) ?_)
  | (with_reducible refine qaz (by kernel_rfl) _ _ rfl I _ rfl _ _ hI1 _ c4 (by assumption) ?_)
  | (with_reducible refine qfz rfl _ _ rfl I rfl _ hI1 _ underlying68 rfl hzI ?_)
  | (go_at_call 70; (with_reducible refine hsm.mono ?_); rintro e w2 ⟨rfl, hb2⟩; have hk2 := btz hk1 hb2)
  | (go_at_call 75; (with_reducible refine (y9z (v := RA) (h.next hk2) hg hsw hE).mono ?_); rintro e w3 ⟨rfl, F3, ao2, n2, cap2, hP3, q3⟩))
 go_ret
 refine ⟨rfl, F3, ao2, n2, cap2, ?_, (Ot.of hk2 hBl).trans q3⟩
 have e : rgI x.th (a : Int) = RA := hRA.out
 rw [e]
 exact hP3
theorem do_24n (h : Pz Z w B F x t ke ro ao n cap X) (ha16 : a < 16) (hb16 : b < 16) (hc16 : c < 16) (hw : WdT x.th) (hg : Gx X n x) (hE : stB X x (smI x.th (b : Int) i) = false) : Calls prog 45 #[.pointer (some ⟨B, 0, none⟩), .agg #[.int .i64 24, .int .i64 (a : Int), .int .i64 (b : Int), .int .i64 (c : Int), .int .i32 i]] w fun e w' => e = .panicked (thrF 4) ∧ Below w.heap.size w w' := by
 have hmx : prog.follows .mixedOrders = true := by kernel_rfl
 have ga2 := isAgg22
 have ga3 := isAgg3
 have ga4 := isAgg21
 have hb := h.blk
 have hz := h.size
 have hBl := h.blk.lt
 have hk := Below.refl w.heap.size w
 have hra := h.reg ha16
 have hrb := h.reg hb16
 obtain ⟨RA, hRA⟩ : ∃ RA : Int, Hid (x.th.regs.getD a 0 = RA) := ⟨_, rfl⟩
 rw [hRA.out] at hra
 have hzI : (prog.info? 68).map (·.size) = some (#[.int .i64 24, .int .i64 (a : Int), .int .i64 (b : Int), .int .i64 (c : Int), .int .i32 i] : Array Value).size := wkz _ _ _ _ _
 obtain ⟨CI, hCI⟩ : ∃ CI : Array Value, CI = #[.int .i64 24, .int .i64 (a : Int), .int .i64 (b : Int), .int .i64 (c : Int), .int .i32 i] := ⟨_, rfl⟩
 have c0 : CI[0]? = some (.int .i64 24) := by rw [hCI]; rfl
 have c1 : CI[1]? = some (.int .i64 (a : Int)) := by rw [hCI]; rfl
 have c4 : CI[4]? = some (.int .i32 i) := by rw [hCI]; rfl
 have c2 : CI[2]? = some (.int .i64 (b : Int)) := by rw [hCI]; rfl
 rw [← hCI] at hzI
 rw [← hCI]
 replace hCI : Hid _ := hCI
 have hsw : 0 ≤ smI x.th (b : Int) i ∧ smI x.th (b : Int) i ≤ 18446744073709551615 := by unfold smI; omega
 go_enter func45, ntmps45
 go_wp2_with (first
  | go_skip
  | ((with_reducible refine qdz rfl 68 _ rfl CI rfl ?_); intro I W1 hNI hI hk1; have hIB : Hid (B ≠ I) := (by have := hNI.out; show B ≠ I; omega); replace hb := hb.next hk1; replace hk := btz hk hk1))
 have hB := hb
 refine PgM.region_out (S := fun W => Blk W B F 59 ∧ Blk W I CI 68 ∧ Below w.heap.size w W) hmx (⟨hB.next (Below.refl _ _).drew, hI.next (Below.refl _ _).drew, hk.trans ((Below.refl _ _).drew.mono hk.size)⟩) (fun hS0 => ?_)
 generalize W1.drew = v0 at hS0 ⊢
 refine qoz (by kernel_rfl) (fun _ _ _ _ _ h => h) hS0 [(0, none), (1, none), (2, some (.int .i64 (a : Int))), (3, none), (4, none), (5, none), (6, none), (7, some (.pointer (some ⟨B, 8 + a, none⟩))), (8, some (.int .u64 RA)), (9, none)] (l' := #[tt, tt, tt, tt, tt, tt, tt, tt, tt, tt]) (a' := { tmps := #[.pointer (some ⟨B, 0, none⟩), .agg CI, undef, .pointer (some ⟨I, 0, none⟩), .int .i64 0, .int .u64 RA, .pointer (some ⟨B, 0, none⟩), .pointer (some ⟨I, 1, none⟩), .int .i64 (a : Int), .pointer (some ⟨B, 0, none⟩), .pointer (some ⟨B, 0, none⟩), .pointer (some ⟨B, 8, none⟩), .pointer (some ⟨B, 8, none⟩), .pointer (some ⟨B, 8 + a, none⟩), .int .u64 RA, ud, ud, ud, ud, ud, ud, ud, ud, ud, ud, ud, ud, ud, ud, ud, ud, ud, ud, ud, ud, ud, ud, ud, ud, ud, ud, ud, ud, ud, ud, ud, ud, ud, ud, ud, ud, ud, ud, ud, ud, ud, ud, ud, ud, ud, ud, ud, ud, ud, ud, ud, ud, ud, ud, ud, ud, ud, ud, ud, ud, ud, ud, ud, ud, ud, ud, ud, ud, ud, ud, ud, ud, ud, ud, ud, ud, ud, ud, ud, ud, ud, ud, ud, ud, ud, ud, ud, ud, ud, ud, ud, ud, ud, ud, ud, ud, ud, ud, ud, ud, ud, ud, ud, ud, ud, ud, ud, ud, ud, ud, ud, ud, ud, ud, undef], defers := [] }) (obs := [.load 3 I 1 (.int .i64 (a : Int)), .ia 37 (.pointer (some ⟨B, 8, none⟩)) (.int .i64 (a : Int)) (.pointer (some ⟨B, 8 + a, none⟩)), .load 22 B (8 + a) (.int .u64 RA)]) (n := 0) (by kernel_rfl) (by kernel_rfl) ⟨qgz (fun W hS => hS.2.1) c1 ga3, fun W hS => qFz ha16 W, qgz (fun W hS => hS.1) hra ga2, trivial⟩ ?_
 refine wpAnyH_done (by kernel_rfl) ?_ _
 have hB1 := hS0.1
 have hI1 := hS0.2.1
 have hk1 := hS0.2.2
 have hsm := y8z (op := 24) (a := a) (c := c) (i := i) (h.next hk1) hb16
 rw [← hCI.out] at hsm
 go_wp2_with (first
  | go_skip
  | (with_reducible refine qaz (by kernel_rfl) _ _ rfl I _ rfl _ _ hI1 _ c0 (by assumption) ?_)
  | (with_reducible refine qaz (by kernel_rfl) _ _ rfl I _ rfl _ _ hI1 _ c1 (by assumption) ?_)
  | (with_reducible refine qaz (by kernel_rfl) _ _ rfl I _ rfl _ _ hI1 _ c4 (by assumption) ?_)
  | (with_reducible refine qfz rfl _ _ rfl I rfl _ hI1 _ underlying68 rfl hzI ?_)
  | (go_at_call 70; (with_reducible refine hsm.mono ?_); rintro e w2 ⟨rfl, hb2⟩; have hk2 := btz hk1 hb2)
  | (go_at_call 75; (with_reducible refine (store_no (v := RA) (h.next hk2) hg hsw hE).mono ?_); rintro e w3 ⟨rfl, hb3⟩))
 exact ⟨rfl, rfl, btz hk2 hb3⟩
theorem do_25y (h : Pz Z w B F x t ke ro ao n cap X) (ha16 : a < 16) (hb16 : b < 16) (hc16 : c < 16) (hw : WdT x.th) (h0 : 0 ≤ i) (h1 : i < 2147483648) : Calls prog 45 #[.pointer (some ⟨B, 0, none⟩), .agg #[.int .i64 25, .int .i64 (a : Int), .int .i64 (b : Int), .int .i64 (c : Int), .int .i32 i]] w fun e w' => e = .returned (.int .i64 i) ∧ ∃ F', Pz Z w' B F' { x with th := { x.th with pc := nxI x.th } } t ke ro ao n cap X ∧ Ot B w w' := by
 have hmx : prog.follows .mixedOrders = true := by kernel_rfl
 have ga2 := isAgg22
 have ga3 := isAgg3
 have ga4 := isAgg21
 have hb := h.blk
 have hz := h.size
 have hBl := h.blk.lt
 have hk := Below.refl w.heap.size w
 have hra := h.reg ha16
 have hrb := h.reg hb16
 obtain ⟨RA, hRA⟩ : ∃ RA : Int, Hid (x.th.regs.getD a 0 = RA) := ⟨_, rfl⟩
 rw [hRA.out] at hra
 have hzI : (prog.info? 68).map (·.size) = some (#[.int .i64 25, .int .i64 (a : Int), .int .i64 (b : Int), .int .i64 (c : Int), .int .i32 i] : Array Value).size := wkz _ _ _ _ _
 obtain ⟨CI, hCI⟩ : ∃ CI : Array Value, CI = #[.int .i64 25, .int .i64 (a : Int), .int .i64 (b : Int), .int .i64 (c : Int), .int .i32 i] := ⟨_, rfl⟩
 have c0 : CI[0]? = some (.int .i64 25) := by rw [hCI]; rfl
 have c1 : CI[1]? = some (.int .i64 (a : Int)) := by rw [hCI]; rfl
 have c4 : CI[4]? = some (.int .i32 i) := by rw [hCI]; rfl
 have c2 : CI[2]? = some (.int .i64 (b : Int)) := by rw [hCI]; rfl
 rw [← hCI] at hzI
 rw [← hCI]
 replace hCI : Hid _ := hCI
 go_enter func45, ntmps45
 go_wp2_with (first
  | go_skip
  | ((with_reducible refine qdz rfl 68 _ rfl CI rfl ?_); intro I W1 hNI hI hk1; have hIB : Hid (B ≠ I) := (by have := hNI.out; show B ≠ I; omega); replace hb := hb.next hk1; replace hk := btz hk hk1))
 have hB := hb
 refine PgM.region_out (S := fun W => Blk W B F 59 ∧ Blk W I CI 68 ∧ Below w.heap.size w W) hmx (⟨hB.next (Below.refl _ _).drew, hI.next (Below.refl _ _).drew, hk.trans ((Below.refl _ _).drew.mono hk.size)⟩) (fun hS0 => ?_)
 generalize W1.drew = v0 at hS0 ⊢
 refine qoz (by kernel_rfl) (fun _ _ _ _ _ h => h) hS0 [(0, none), (1, none), (2, some (.int .i64 (a : Int))), (3, none), (4, none), (5, none), (6, none), (7, some (.pointer (some ⟨B, 8 + a, none⟩))), (8, some (.int .u64 RA)), (9, none)] (l' := #[tt, tt, tt, tt, tt, tt, tt, tt, tt, tt]) (a' := { tmps := #[.pointer (some ⟨B, 0, none⟩), .agg CI, undef, .pointer (some ⟨I, 0, none⟩), .int .i64 0, .int .u64 RA, .pointer (some ⟨B, 0, none⟩), .pointer (some ⟨I, 1, none⟩), .int .i64 (a : Int), .pointer (some ⟨B, 0, none⟩), .pointer (some ⟨B, 0, none⟩), .pointer (some ⟨B, 8, none⟩), .pointer (some ⟨B, 8, none⟩), .pointer (some ⟨B, 8 + a, none⟩), .int .u64 RA, ud, ud, ud, ud, ud, ud, ud, ud, ud, ud, ud, ud, ud, ud, ud, ud, ud, ud, ud, ud, ud, ud, ud, ud, ud, ud, ud, ud, ud, ud, ud, ud, ud, ud, ud, ud, ud, ud, ud, ud, ud, ud, ud, ud, ud, ud, ud, ud, ud, ud, ud, ud, ud, ud, ud, ud, ud, ud, ud, ud, ud, ud, ud, ud, ud, ud, ud, ud, ud, ud, ud, ud, ud, ud, ud, ud, ud, ud, ud, ud, ud, ud, ud, ud, ud, ud, ud, ud, ud, ud, ud, ud, ud, ud, ud, ud, ud, ud, ud, ud, ud, ud, ud, ud, ud, ud, ud, ud, ud, ud, ud, ud, ud, ud, undef], defers := [] }) (obs := [.load 3 I 1 (.int .i64 (a : Int)), .ia 37 (.pointer (some ⟨B, 8, none⟩)) (.int .i64 (a : Int)) (.pointer (some ⟨B, 8 + a, none⟩)), .load 22 B (8 + a) (.int .u64 RA)]) (n := 0) (by kernel_rfl) (by kernel_rfl) ⟨qgz (fun W hS => hS.2.1) c1 ga3, fun W hS => qFz ha16 W, qgz (fun W hS => hS.1) hra ga2, trivial⟩ ?_
 refine wpAnyH_done (by kernel_rfl) ?_ _
 have hB1 := hS0.1
 have hI1 := hS0.2.1
 have hk1 := hS0.2.2
 go_wp2_with (first
  | go_skip
  | (with_reducible refine qaz (by kernel_rfl) _ _ rfl I _ rfl _ _ hI1 _ c0 (by assumption) ?_)
  | (with_reducible refine qaz (by kernel_rfl) _ _ rfl I _ rfl _ _ hI1 _ c1 (by assumption) ?_)
  | (with_reducible refine qaz (by kernel_rfl) _ _ rfl I _ rfl _ _ hI1 _ c4 (by assumption) ?_)
  | (with_reducible refine qfz rfl _ _ rfl I rfl _ hI1 _ underlying68 rfl hzI ?_)
  | (go_at_call 76; (with_reducible refine (trap_y (h.next hk1) h0 h1).mono ?_); rintro e w3 ⟨rfl, F3, hP3, q3⟩))
 go_ret
 refine ⟨rfl, F3, ?_, (Ot.of hk1 hBl).trans q3⟩
 exact hP3
theorem do_25n (h : Pz Z w B F x t ke ro ao n cap X) (ha16 : a < 16) (hb16 : b < 16) (hc16 : c < 16) (hw : WdT x.th) (h0 : i < 0) : Calls prog 45 #[.pointer (some ⟨B, 0, none⟩), .agg #[.int .i64 25, .int .i64 (a : Int), .int .i64 (b : Int), .int .i64 (c : Int), .int .i32 i]] w fun e w' => e = .panicked (thrF 2) ∧ Below w.heap.size w w' := by
 have hmx : prog.follows .mixedOrders = true := by kernel_rfl
 have ga2 := isAgg22
 have ga3 := isAgg3
 have ga4 := isAgg21
 have hb := h.blk
 have hz := h.size
 have hBl := h.blk.lt
 have hk := Below.refl w.heap.size w
 have hra := h.reg ha16
 have hrb := h.reg hb16
 obtain ⟨RA, hRA⟩ : ∃ RA : Int, Hid (x.th.regs.getD a 0 = RA) := ⟨_, rfl⟩
 rw [hRA.out] at hra
 have hzI : (prog.info? 68).map (·.size) = some (#[.int .i64 25, .int .i64 (a : Int), .int .i64 (b : Int), .int .i64 (c : Int), .int .i32 i] : Array Value).size := wkz _ _ _ _ _
 obtain ⟨CI, hCI⟩ : ∃ CI : Array Value, CI = #[.int .i64 25, .int .i64 (a : Int), .int .i64 (b : Int), .int .i64 (c : Int), .int .i32 i] := ⟨_, rfl⟩
 have c0 : CI[0]? = some (.int .i64 25) := by rw [hCI]; rfl
 have c1 : CI[1]? = some (.int .i64 (a : Int)) := by rw [hCI]; rfl
 have c4 : CI[4]? = some (.int .i32 i) := by rw [hCI]; rfl
 have c2 : CI[2]? = some (.int .i64 (b : Int)) := by rw [hCI]; rfl
 rw [← hCI] at hzI
 rw [← hCI]
 replace hCI : Hid _ := hCI
 go_enter func45, ntmps45
 go_wp2_with (first
  | go_skip
  | ((with_reducible refine qdz rfl 68 _ rfl CI rfl ?_); intro I W1 hNI hI hk1; have hIB : Hid (B ≠ I) := (by have := hNI.out; show B ≠ I; omega); replace hb := hb.next hk1; replace hk := btz hk hk1))
 have hB := hb
 refine PgM.region_out (S := fun W => Blk W B F 59 ∧ Blk W I CI 68 ∧ Below w.heap.size w W) hmx (⟨hB.next (Below.refl _ _).drew, hI.next (Below.refl _ _).drew, hk.trans ((Below.refl _ _).drew.mono hk.size)⟩) (fun hS0 => ?_)
 generalize W1.drew = v0 at hS0 ⊢
 refine qoz (by kernel_rfl) (fun _ _ _ _ _ h => h) hS0 [(0, none), (1, none), (2, some (.int .i64 (a : Int))), (3, none), (4, none), (5, none), (6, none), (7, some (.pointer (some ⟨B, 8 + a, none⟩))), (8, some (.int .u64 RA)), (9, none)] (l' := #[tt, tt, tt, tt, tt, tt, tt, tt, tt, tt]) (a' := { tmps := #[.pointer (some ⟨B, 0, none⟩), .agg CI, undef, .pointer (some ⟨I, 0, none⟩), .int .i64 0, .int .u64 RA, .pointer (some ⟨B, 0, none⟩), .pointer (some ⟨I, 1, none⟩), .int .i64 (a : Int), .pointer (some ⟨B, 0, none⟩), .pointer (some ⟨B, 0, none⟩), .pointer (some ⟨B, 8, none⟩), .pointer (some ⟨B, 8, none⟩), .pointer (some ⟨B, 8 + a, none⟩), .int .u64 RA, ud, ud, ud, ud, ud, ud, ud, ud, ud, ud, ud, ud, ud, ud, ud, ud, ud, ud, ud, ud, ud, ud, ud, ud, ud, ud, ud, ud, ud, ud, ud, ud, ud, ud, ud, ud, ud, ud, ud, ud, ud, ud, ud, ud, ud, ud, ud, ud, ud, ud, ud, ud, ud, ud, ud, ud, ud, ud, ud, ud, ud, ud, ud, ud, ud, ud, ud, ud, ud, ud, ud, ud, ud, ud, ud, ud, ud, ud, ud, ud, ud, ud, ud, ud, ud, ud, ud, ud, ud, ud, ud, ud, ud, ud, ud, ud, ud, ud, ud, ud, ud, ud, ud, ud, ud, ud, ud, ud, ud, ud, ud, ud, ud, ud, undef], defers := [] }) (obs := [.load 3 I 1 (.int .i64 (a : Int)), .ia 37 (.pointer (some ⟨B, 8, none⟩)) (.int .i64 (a : Int)) (.pointer (some ⟨B, 8 + a, none⟩)), .load 22 B (8 + a) (.int .u64 RA)]) (n := 0) (by kernel_rfl) (by kernel_rfl) ⟨qgz (fun W hS => hS.2.1) c1 ga3, fun W hS => qFz ha16 W, qgz (fun W hS => hS.1) hra ga2, trivial⟩ ?_
 refine wpAnyH_done (by kernel_rfl) ?_ _
 have hB1 := hS0.1
 have hI1 := hS0.2.1
 have hk1 := hS0.2.2
 go_wp2_with (first
  | go_skip
  | (with_reducible refine qaz (by kernel_rfl) _ _ rfl I _ rfl _ _ hI1 _ c0 (by assumption) ?_)
  | (with_reducible refine qaz (by kernel_rfl) _ _ rfl I _ rfl _ _ hI1 _ c1 (by assumption) ?_)
  | (with_reducible refine qaz (by kernel_rfl) _ _ rfl I _ rfl _ _ hI1 _ c4 (by assumption) ?_)
  | (with_reducible refine qfz rfl _ _ rfl I rfl _ hI1 _ underlying68 rfl hzI ?_)
  | (go_at_call 76; (with_reducible refine (trap_n h0).mono ?_); rintro e w3 ⟨rfl, rfl⟩))
 exact ⟨rfl, rfl, hk1⟩
end
section
open Go.RowKit Go.Shelf
theorem inV_eq {v op i : Int} {a b c : Nat} (h0 : Ins.fOp v = op) (h1 : Ins.fA v = (a : Int)) (h2 : Ins.fB v = (b : Int)) (h3 : Ins.fC v = (c : Int)) (h4 : Ins.fI v = i) : inV v = #[.int .i64 op, .int .i64 (a : Int), .int .i64 (b : Int), .int .i64 (c : Int), .int .i32 i] := by
 unfold inV
 rw [h0, h1, h2, h3, h4]
def TuP (Z : Nat → Prop) (w : World) (B : Nat) (x : Ob) (t ke ro : Int) (r : Rs) (e : Ending) (w' : World) : Prop :=
 e = .returned (.int .i64 r.n) ∧ ∃ F' ao2 n2 cap2, Pz Z w' B F' { x with th := r.t } t ke ro ao2 n2 cap2 r.X ∧ Ot B w w'
section
variable {Z : Nat → Prop} {w : World} {B : Nat} {F : Array Value} {x : Ob} {t ke ro : Int} {ao : Option Addr} {n cap : Nat} {X : List Ob}
theorem turn_v (h : Pz Z w B F x t ke ro ao n cap X) (hg : Gx X n x) (hw : WdT x.th) (hv : 0 ≤ ldV X x x.th.pc ∧ ldV X x x.th.pc < 18446744073709551616) : Calls prog 18 #[.pointer (some ⟨B, 0, none⟩)] w (TuP Z w B x t ke ro (tuR X x)) := by
 have hs := SmT.of hg.sm
 unfold tuR
 by_cases hal : alB x.th = true
 ·rw [if_pos hal]
  exact (turn_al h hs hal).mono fun e w' ⟨e1, F', hP, hO⟩ => ⟨e1, F', ao, n, cap, hP, hO⟩
 rw [if_neg hal]
 replace hal : alB x.th = false := by simpa using hal
 by_cases hE : wkE X x x.th.pc = 0
 rotate_left
 ·rw [if_pos hE]
  exact (y3z h hs hal fun W hk => fetch_n1 (h.next hk) hg hw hE).mono fun e w' ⟨e1, F', hP, hO⟩ => ⟨e1, F', ao, n, cap, hP, hO⟩
 rw [if_neg (fun q => q hE)]
 cases hd : Ins.decB (ldV X x x.th.pc) with
 | false =>
  rw [if_pos rfl]
  exact (y3z h hs hal fun W hk => fetch_n2 (h.next hk) hg hw hE hv hd).mono fun e w' ⟨e1, F', hP, hO⟩ => ⟨e1, F', ao, n, cap, hP, hO⟩
 | true =>
  rw [if_neg (by decide)]
  have hfe := fun (W : World) (hk : Below w.heap.size w W) => fetch_y (h.next hk) hg hw hE hv hd
  obtain ⟨⟨_, _⟩, ⟨a0, a1⟩, ⟨b0, b1⟩, ⟨c0, c1⟩, i0, i1⟩ := Ins.fields_bounds hv.1 hv.2
  have hop : 0 ≤ Ins.fOp (ldV X x x.th.pc) ∧ Ins.fOp (ldV X x x.th.pc) < 26 := by
   simp only [Ins.decB, Ins.fitW, Ins.fitB, Ins.opB, Bool.and_eq_true, decide_eq_true_eq] at hd
   exact hd.1.1.1.1.1
  generalize ldV X x x.th.pc = V at *
  obtain ⟨a, ha⟩ : ∃ a : Nat, Ins.fA V = (a : Int) := ⟨(Ins.fA V).toNat, by omega⟩
  obtain ⟨b, hb⟩ : ∃ b : Nat, Ins.fB V = (b : Int) := ⟨(Ins.fB V).toNat, by omega⟩
  obtain ⟨c, hc⟩ : ∃ c : Nat, Ins.fC V = (c : Int) := ⟨(Ins.fC V).toNat, by omega⟩
  obtain ⟨i, hi⟩ : ∃ i, Ins.fI V = i := ⟨_, rfl⟩
  obtain ⟨op, ho⟩ : ∃ op, Ins.fOp V = op := ⟨_, rfl⟩
  have hCV := inV_eq ho ha hb hc hi
  rw [hCV] at hfe
  rw [ha] at a0 a1
  rw [hb] at b0 b1
  rw [hc] at c0 c1
  rw [hi] at i0 i1
  rw [ho] at hop
  rw [ha, hb, hc, hi, ho]
  clear hCV ha hb hc hi ho hd hv
  have ha16 : a < 16 := by omega
  have hb16 : b < 16 := by omega
  have hc16 : c < 16 := by omega
  have ok : ∀ {r : Rs}, (∀ W, Below w.heap.size w W → Calls prog 45 #[.pointer (some ⟨B, 0, none⟩), .agg #[.int .i64 op, .int .i64 (a : Int), .int .i64 (b : Int), .int .i64 (c : Int), .int .i32 i]] W (TuP Z W B x t ke ro r)) → Calls prog 18 #[.pointer (some ⟨B, 0, none⟩)] w (TuP Z w B x t ke ro r) := fun {r} hd => (turn_ok (nn := r.n) (x2 := { x with th := r.t }) (X2 := r.X) h hs hal hfe hd)
  have bad : ∀ {k : Int}, (∀ W, Below w.heap.size w W → Calls prog 45 #[.pointer (some ⟨B, 0, none⟩), .agg #[.int .i64 op, .int .i64 (a : Int), .int .i64 (b : Int), .int .i64 (c : Int), .int .i32 i]] W fun e w' => e = .panicked (thrF k) ∧ Below W.heap.size W w') → Calls prog 18 #[.pointer (some ⟨B, 0, none⟩)] w (TuP Z w B x t ke ro ⟨X, flT x.th k, -1⟩) := fun {k} hd => (turn_pd h hs hal hfe hd).mono fun e w' ⟨e1, F', hP, hO⟩ => ⟨e1, F', ao, n, cap, hP, hO⟩
  have pl : ∀ {u : Th}, (∀ W, Below w.heap.size w W → Calls prog 45 #[.pointer (some ⟨B, 0, none⟩), .agg #[.int .i64 op, .int .i64 (a : Int), .int .i64 (b : Int), .int .i64 (c : Int), .int .i32 i]] W fun e w' => e = .returned (.int .i64 (-1)) ∧ ∃ F', Pz Z w' B F' { x with th := u } t ke ro ao n cap X ∧ Ot B W w') → Calls prog 18 #[.pointer (some ⟨B, 0, none⟩)] w (TuP Z w B x t ke ro ⟨X, u, -1⟩) := fun {u} hd => ok fun W hk => (hd W hk).mono fun e w' ⟨e1, F', hP, hO⟩ => ⟨e1, F', ao, n, cap, hP, hO⟩
  unfold exR
  by_cases h23 : op = 23
  ·subst h23
   rw [if_pos rfl]
   by_cases hL : wkE X x (smI x.th (b : Int) i) = 0
   ·rw [if_pos hL]
    exact pl fun W hk => do_23y (h.next hk) ha16 hb16 hc16 hw hg hL
   ·rw [if_neg hL]
    exact bad fun W hk => do_23n (h.next hk) ha16 hb16 hc16 hw hg hL
  rw [if_neg h23]
  by_cases h24 : op = 24
  ·subst h24
   rw [if_pos rfl]
   cases hL : stB X x (smI x.th (b : Int) i) with
   | true =>
    rw [if_pos rfl]
    exact ok fun W hk => (do_24y (h.next hk) ha16 hb16 hc16 hw hg hL).mono fun e w' ⟨e1, F', ao2, n2, cap2, hP, hO⟩ => ⟨e1, F', ao2, n2, cap2, hP, hO⟩
   | false =>
    rw [if_neg (by decide)]
    exact bad fun W hk => do_24n (h.next hk) ha16 hb16 hc16 hw hg hL
  rw [if_neg h24]
  by_cases h25 : op = 25
  ·subst h25
   rw [if_pos rfl]
   by_cases hL : i < 0
   ·rw [if_pos hL]
    exact bad fun W hk => do_25n (h.next hk) ha16 hb16 hc16 hw hL
   ·rw [if_neg hL]
    exact ok fun W hk => (do_25y (h.next hk) ha16 hb16 hc16 hw (by omega) (by omega)).mono fun e w' ⟨e1, F', hP, hO⟩ => ⟨e1, F', ao, n, cap, hP, hO⟩
  rw [if_neg h25]
  by_cases h0 : op = 0
  ·subst h0; exact pl fun W hk => do_0 (h.next hk) ha16 hb16 hc16 hw
  by_cases h1 : op = 1
  ·subst h1; exact pl fun W hk => do_1 (h.next hk) ha16 hb16 hc16 hw
  by_cases h2 : op = 2
  ·subst h2; exact pl fun W hk => do_2 (h.next hk) ha16 hb16 hc16 hw
  by_cases h3 : op = 3
  ·subst h3; exact pl fun W hk => do_3 (h.next hk) ha16 hb16 hc16 hw
  by_cases h14 : op = 14
  ·subst h14; exact pl fun W hk => do_14 (h.next hk) ha16 hb16 hc16 hw
  by_cases h18 : op = 18
  ·subst h18; exact pl fun W hk => do_18 (h.next hk) ha16 hb16 hc16 hw
  by_cases h19 : op = 19
  ·subst h19; exact pl fun W hk => do_19 (h.next hk) ha16 hb16 hc16 hw
  by_cases h20 : op = 20
  ·subst h20; exact pl fun W hk => do_20 (h.next hk) ha16 hb16 hc16 hw
  by_cases h21 : op = 21
  ·subst h21; exact pl fun W hk => do_21 (h.next hk) ha16 hb16 hc16 hw
  by_cases h22 : op = 22
  ·subst h22; exact pl fun W hk => do_22 (h.next hk) ha16 hb16 hc16 hw
  exact pl fun W hk => do_al (h.next hk) ha16 hb16 hc16 hw h0 h1 h2 h3 h14 h18 h19 h20 h21 h22 h23 h24 h25
end
end
section
open Go.RowKit Go.Shelf
attribute [local go_sem] Oper.semAt_some
theorem zero63 (w : World) : (zeroValue 59).run prog w = .ok (.agg zF) w := Tryz.zeroValue59 w
theorem size63C {F : Array Value} (h : F.size = 55) : (prog.info? 59).map (·.size) = some F.size := by rw [h]; kernel_rfl
theorem vJz (parts : List (Nat × Value)) : prog.built 59 parts = Instr.fill (fun i => (#[(0, 51), (51, 4)] : Array (Nat × Nat))[i]?) zF parts := by kernel_rfl
theorem built_pr {C G : Array Value} (hC : C.size = 51) (hG : G.size = 4) : ∃ F, prog.built 59 [(0, .agg C), (1, .agg G)] = some F ∧ F.size = 55 ∧ (∀ i, i < 51 → F[i]? = C[i]?) ∧ ∀ i, i < 4 → F[51 + i]? = G[i]? := by
 rw [vJz]
 obtain ⟨a1, a2⟩ := w6z 0 C.toList 0 zF (by rw [wwz]; simp [hC])
 obtain ⟨b1, b2⟩ := w6z 51 G.toList 0 ((C.toList.zipIdx 0).foldl (fun (c : Array Value) (p : Value × Nat) => c.setIfInBounds (0 + p.2) p.1) zF) (by rw [a1, wwz]; simp [hG])
 refine ⟨_, ?_, b1.trans (a1.trans wwz), fun i hi => ?_, fun i hi => ?_⟩
 ·rw [wYz (o := 0) (n := 51) rfl hC (by rw [wwz, hC]; decide), wYz (o := 51) (n := 4) rfl hG (by rw [a1, wwz, hG]; decide)]
  rfl
 ·rw [b2 i, if_neg (by omega), a2 i, if_pos (by simp [hC]; omega)]
  simp
 ·rw [b2 (51 + i), if_pos (by simp [hG]; omega)]
  simp
variable {ao : Option Addr} {t ke ro : Int} {n cap : Nat} {C F G : Array Value}
theorem pz_of {Z : Nat → Prop} {W : World} {Q : Nat} {y : Ob} {X : List Ob} (hG : G = #[.int .i64 t, .int .u64 ke, .int .u64 ro, .slice ao n cap]) (hb : Blk W Q F 59) (h1 : F.size = 55) (h2 : ∀ i, i < 51 → F[i]? = C[i]?) (h3 : ∀ i, i < 4 → F[51 + i]? = G[i]?) (hC : ObD (Ez Z Q W) W C y) (hX : ObsD (Ez Z Q W) (Ez Z Q W) W ao n cap X) (hZ : ∀ b, Z b → b < W.heap.size) : Pz Z W Q F y t ke ro ao n cap X := by
 have e : F.extract 0 51 = C := by
  apply Array.ext_getElem?
  intro i
  by_cases hi : i < 51
  ·rw [x4z h1 hi, h2 i hi]
  ·rw [Array.getElem?_eq_none (by simp [h1]; omega), Array.getElem?_eq_none (by have := hC.size; omega)]
 refine ⟨hb, h1, wyz fun j v q => ?_, by rw [e]; exact hC, ?_, hX, hZ⟩
 ·by_cases hj : j < 51
  ·rw [h2 j hj] at q; exact q2z hC.one q
  ·have hl : j < 55 := by rw [← h1]; exact (Array.getElem?_eq_some_iff.1 q).1
   obtain ⟨m, rfl⟩ : ∃ m, j = 51 + m := ⟨j - 51, by omega⟩
   rw [h3 m (by omega), hG] at q
   exact q2z (T := #[.int .i64 t, .int .u64 ke, .int .u64 ro, .slice ao n cap]) (by kernel_rfl) q
 ·apply Array.ext_getElem?
  intro i
  by_cases hi : i < 4
  ·rw [qSz (by omega) hi, h3 i hi, hG]
  ·rw [Array.getElem?_eq_none (by simp [h1]; omega), Array.getElem?_eq_none (by simp; omega)]
theorem pr_one (hG : G = #[.int .i64 t, .int .u64 ke, .int .u64 ro, .slice ao n cap]) (h1 : F.size = 55) (h2 : ∀ i, i < 51 → F[i]? = C[i]?) (h3 : ∀ i, i < 4 → F[51 + i]? = G[i]?) (hC : C.all (·.oneCell') = true) (hz : C.size = 51) : F.all (·.oneCell') = true := wyz fun j v q => by
 by_cases hj : j < 51
 ·rw [h2 j hj] at q; exact q2z hC q
 ·have hl : j < 55 := by rw [← h1]; exact (Array.getElem?_eq_some_iff.1 q).1
  obtain ⟨m, rfl⟩ : ∃ m, j = 51 + m := ⟨j - 51, by omega⟩
  rw [h3 m (by omega), hG] at q
  exact q2z (T := #[.int .i64 t, .int .u64 ke, .int .u64 ro, .slice ao n cap]) (by kernel_rfl) q
theorem step_yes {w : World} {X : List Ob} {i : Int} (h : Obs w ao n cap X) (hs : Srt X) (hn : n < 1024) (hsm : wfz X) (hsd : ∀ y ∈ X, qQz y = true) (hid : ∀ y ∈ X, y.id ≠ 0) (hr : ruB X i = true) (hg : Gx X n (fO X i)) (hw : WdT (fO X i).th) (hv : 0 ≤ ldV X (fO X i) (fO X i).th.pc ∧ ldV X (fO X i) (fO X i).th.pc < 18446744073709551616) (hs2 : Srt (tuR X (fO X i)).X) (hm2 : wfz (tuR X (fO X i)).X) (hl2 : (tuR X (fO X i)).X.length < 1024) (hxs : Small { fO X i with th := (tuR X (fO X i)).t }) :
  Calls prog 8 #[.agg #[.int .i64 t, .int .u64 ke, .int .u64 ro, .slice ao n cap], .int .u64 i] w fun e w' => ∃ ao2 n2 cap2, e = .returned (.tuple #[.agg #[.int .i64 t, .int .u64 ke, .int .u64 ro, .slice ao2 n2 cap2], .int .i64 (tuR X (fO X i)).n]) ∧ Obs w' ao2 n2 cap2 (puR (tuR X (fO X i)).X { fO X i with th := (tuR X (fO X i)).t }) ∧ Below w.heap.size w w' := by
 have hzg : (prog.info? 25).map (·.size) = some (#[.int .i64 t, .int .u64 ke, .int .u64 ro, .slice ao n cap] : Array Value).size := by kernel_rfl
 have hz2 : ∀ ao n cap, (prog.info? 25).map (·.size) = some (#[.int .i64 t, .int .u64 ke, .int .u64 ro, .slice ao n cap] : Array Value).size := fun _ _ _ => by kernel_rfl
 have hsw : ∀ v, zW.size = (#[.int .i64 t, .int .u64 ke, .int .u64 ro, v] : Array Value).size := fun _ => rfl
 have h12 : ∀ ao n cap, (#[.int .i64 t, .int .u64 ke, .int .u64 ro, .slice ao n cap] : Array Value).all (·.oneCell') = true := fun _ _ _ => by kernel_rfl
 have ga1 := isAgg3
 have hfd := fun (W : World) (hk : Below w.heap.size w W) => jbz (t := t) (ke := ke) (ro := ro) (i := i) (quz h hk) hs (by omega) hsm
 change ∀ W, Below w.heap.size w W → Calls prog _ _ W fun e w' => ∃ C', e = .returned (.tuple #[.agg C', .bool (fnd X i).isSome]) ∧ ObD (New W w') w' C' (fO X i) ∧ _ at hfd
 have htu := fun (Z : Nat → Prop) (W : World) (Q : Nat) (F : Array Value) (hP : Pz Z W Q F (fO X i) t ke ro ao n cap X) => turn_v hP hg hw hv
 unfold ruB at hr
 rw [Bool.and_eq_true, Bool.and_eq_true] at hr
 obtain ⟨r1, r2, r3⟩ := hr
 have b2 : ((fO X i).kind != 4) = false := by simpa using r2
 have b3 : ((fO X i).th.state != 0) = false := by simpa using r3
 rw [r1] at hfd
 clear r1 r2 r3
 generalize tuR X (fO X i) = r at *
 generalize fO X i = y at *
 obtain ⟨D, hD⟩ : ∃ D : Array Value, D = #[.int .i64 t, .int .u64 ke, .int .u64 ro, .slice ao n cap] := ⟨_, rfl⟩
 have zD : D.size = 4 := by rw [hD]; rfl
 rw [← hD] at hfd hzg
 rw [← hD]
 replace hD : Hid _ := hD
 have tk0 : True := trivial
 go_enter func8, ntmps8
 go_wp2_with (first
  | go_skip
  | ((with_reducible refine qdz rfl 25 _ rfl D rfl ?_); intro B V1 hNB hB hk)
  | ((with_reducible refine qcz rfl 25 rfl zW wzz ?_); have hx := tk0; clear hx tk0; intro R V3 hNR hR hk3; replace hB := hB.next hk3; replace hk := btz hk hk3; clear hk3)
  | (with_reducible refine qez (by with_unfolding_all rfl) 25 _ rfl B rfl D hB _ underlying25 (by kernel_rfl) hzg ?_)
  | (go_at_call 16; (with_reducible refine (hfd _ hk).mono ?_); rintro e w5 ⟨C', rfl, oC', hb5, _⟩; have hl4 : Hid (R < _ ∧ w.heap.size ≤ _) := ⟨hR.lt, hk.size⟩; replace hB := hB.next hb5; replace hR := hR.next hb5; replace hk := btz hk hb5; have zC' := oC'.size; have e1 := oC'.kind; have e3 : C'[30]? = some (.int .i64 y.th.state) := oC'.th.state; obtain ⟨F, hF, f1, f2, f3⟩ := built_pr zC' zD; clear hfd hb5)
  | ((with_reducible refine qcz rfl 50 rfl zC qsz ?_); intro P W6 hN6 hP hk6; have hPl : Hid (w.heap.size ≤ P ∧ R ≠ P ∧ B ≠ P ∧ w5.heap.size ≤ P) := (by have := hN6.out; have := hk.size; have := hR.lt; have := hB.lt; exact ⟨by omega, by omega, by omega, by omega⟩); replace hB := hB.next hk6; replace hR := hR.next hk6; replace hk := btz hk hk6)
  | ((with_reducible refine qbz rfl 50 _ _ rfl P rfl C' rfl zC hP (qhz zC') (qmz.trans zC'.symm) oC'.one ?_); intro W7 hP7 q7; replace hB := hB.other q7 hPl.out.2.2.1; replace hR := hR.other q7 hPl.out.2.1; replace hk := q7.below _ _ hPl.out.1 hk; replace oC' := oC'.laterK (w' := W7) fun b hb => (q7.block b (by have := hb.2; have := hPl.out.2.2.2; omega)).trans (hk6.block b hb.2); have s7 : Hid (w5.heap.size ≤ W7.heap.size) := (by have := q7.size; have := hk6.size; show w5.heap.size ≤ W7.heap.size; omega))
  | (with_reducible refine qaz (by with_unfolding_all rfl) _ _ rfl P _ rfl _ _ hP7 _ e1 ga1 ?_)
  | (with_reducible refine qaz (by with_unfolding_all rfl) _ _ rfl P _ rfl _ _ hP7 _ e3 ga1 ?_)
  | (with_reducible refine qfz rfl _ _ rfl P rfl _ hP7 _ underlying50 rfl (qhz zC') ?_)
  | ((with_reducible refine qvz rfl 59 [(0, .tmp 31), (1, .tmp 32)] rfl F ?hf ?_); (case hf => exact hF))
  | ((with_reducible refine qcz rfl 59 rfl zF zero63 ?_); intro Q W8 hN8 hQ hk8; have hQl : Hid (w.heap.size ≤ Q ∧ R ≠ Q ∧ W7.heap.size ≤ Q ∧ R < W7.heap.size) := (by have := hN8.out; have := hk.size; have := hR.lt; exact ⟨by omega, by omega, by omega, by omega⟩); replace hR := hR.next hk8; replace hk := btz hk hk8) 
  | ((with_reducible refine qbz rfl 59 _ _ rfl Q rfl F rfl zF hQ (size63C f1) (wwz.trans f1.symm) ?ho ?_); (case ho => exact (pr_one hD.out f1 f2 f3 oC'.one oC'.size)); intro W9 hQ9 q9; replace hR := hR.other q9 hQl.out.2.1; have hRw : Hid (w.heap.size ≤ R) := (by have := hNB.out; have := hNR.out; show w.heap.size ≤ R; omega); have oC9 : ObD (Ez (fun b => b = R) Q W9) W9 C' y := (oC'.laterK fun b hb => (q9.block b (by have h1 := hb.2; have h2 := hQl.out; have h3 := s7.out; omega)).trans (hk8.block b (by have h1 := hb.2; have h3 := s7.out; omega))).wide fun b hb => (by have h0 := hb.1; have h1 := hb.2; have h2 := hQl.out; have h3 := s7.out; have h4 := q9.size; have h5 := hk8.size; have h6 := hl4.out.1; exact ⟨⟨by omega, by omega⟩, fun e => by omega⟩); have hk9 := q9.below _ _ hQl.out.1 hk; have oX9 : ObsD (Ez (fun b => b = R) Q W9) (Ez (fun b => b = R) Q W9) W9 ao n cap X := (ObsD.laterK h (fun b hb => hk9.block b hb) fun b hb => hk9.block b hb).wide (fun b hb => (by have h1 : b < w.heap.size := hb; have h2 := hQl.out.1; have h3 := hk9.size; have h4 := hRw.out; exact ⟨⟨by omega, by omega⟩, fun e => by omega⟩)) (fun b hb => (by have h1 : b < w.heap.size := hb; have h2 := hQl.out.1; have h3 := hk9.size; have h4 := hRw.out; exact ⟨⟨by omega, by omega⟩, fun e => by omega⟩)); have hP9 := pz_of hD.out hQ9 f1 f2 f3 oC9 oX9 (fun b hb => (by have := hR.lt; have e : b = R := hb; omega)); clear hk)
  | (go_at_call 18; (with_reducible refine (htu _ _ _ _ hP9).mono ?_); rintro e w10 ⟨rfl, F10, ao2, n2, cap2, hP10, hO10⟩; have hR10 : Blk w10 R zW 25 := (hO10.oth R hR.lt hQl.out.2.1).trans hR; have hk10 := hk9.trans (hO10.low.mono hQl.out.1); have hQ10 := hP10.blk; have wl10 := hP10.wld; have z10 := hP10.size; have ob10 := hP10.ob; have zo10 : (F10.extract 0 (0 + 51)).size = 51 := (by simp [z10]); have hpu := put_w (t := t) (ke := ke) (ro := ro) (D0 := Ez (fun b => b = R) Q w10) (fun b hb => hb.1.1) (hP10.obs.wide (fun _ hb => hb) fun b hb => hb.1.1) hs2 (by rw [← hP10.obs.1]; exact hl2) hm2 ob10 hxs)
  | (with_reducible refine qnz (by kernel_rfl) 25 _ rfl Q 51 rfl 4 _ _ hQ10 _ wl10 (by rw [z10]; decide) _ underlying25 (by kernel_rfl) (by kernel_rfl) ?_)
  | (with_reducible refine qnz (by kernel_rfl) 50 _ rfl Q 0 rfl 51 _ _ hQ10 _ rfl (by rw [z10]; decide) _ underlying50 (by kernel_rfl) (by kernel_rfl) ?_)
  | (go_at_call 19; (with_reducible refine hpu.mono ?_); rintro e w11 ⟨ao3, n3, cap3, rfl, p11, hb11⟩; have hR11 := hR10.next hb11; have hk11 := btz hk10 hb11)
  | ((with_reducible refine qbz rfl 25 _ _ rfl R rfl #[.int .i64 t, .int .u64 ke, .int .u64 ro, .slice ao3 n3 cap3] rfl zW hR11 (hz2 _ _ _) (hsw _) (h12 _ _ _) ?_); intro W12 hR12 q12))
 exact bodyPost_ret (v := .tuple #[.agg #[.int .i64 t, .int .u64 ke, .int .u64 ro, .slice ao3 n3 cap3], .int .i64 r.n]) (jVz results8 rfl rfl hR12 rfl) rfl ⟨ao3, n3, cap3, rfl, uNz p11 (fun b hb => by
  have h1 := hb11.size
  have h2 := hR10.lt
  rcases hb with hb | hb
  ·have h3 := hb.1.1
   have h4 : ¬ b = R := hb.2
   exact ⟨by omega, h4⟩
  ·have h3 := hb.1
   have h4 := hb.2
   exact ⟨by omega, by omega⟩) hR10.lt q12, q12.below _ _ hRw.out hk11⟩
end
end Go.Proofs.YtdeddhojjolihaaGreat
