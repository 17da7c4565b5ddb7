/-
 PROVED HERE: what cpu's do returns, or throws, when it is called (contracts over this translation): halt, jumps and calls; . What is asked stands at each.
-/
import Derived.Test.YtdeddhojjolihaaGreatZ48
namespace Go.Proofs.YtdeddhojjolihaaGreat
set_option maxRecDepth 100000
set_option maxHeartbeats 8000000
set_option linter.unusedVariables false
open Go.Proofs.Tryz
section
open Go.RowKit Go.Shelf
attribute [local go_sem] Oper.semAt_some
variable {Z : Nat → Prop} {ao : Option Addr} {F : Array Value} {t ke ro : Int} {n cap : Nat} {X : List Ob} {a b c : Nat} {w : World} {B : Nat} {i : Int} {x : Ob}
theorem do_0 (h : Pz Z w B F x t ke ro ao n cap X) (ha16 : a < 16) (hb16 : b < 16) (hc16 : c < 16) (hw : WdT x.th) : Calls prog 45 #[.pointer (some ⟨B, 0, none⟩), .agg #[.int .i64 0, .int .i64 (a : Int), .int .i64 (b : Int), .int .i64 (c : Int), .int .i32 i]] w fun e w' => e = .returned (.int .i64 (-1)) ∧ ∃ F', Pz Z w' B F' { x with th := plT 0 (a : Int) (b : Int) (c : Int) i x.th } t ke ro ao n cap X ∧ Ot B w w' := by
 have hmx : prog.follows .mixedOrders = true := by kernel_rfl
 have ga2 := isAgg22
 have ga3 := isAgg3
 have ga4 := isAgg21
 have hb := h.blk
 have hz := h.size
 have hBl := h.blk.lt
 have hk := Below.refl w.heap.size w
 have hra := h.reg ha16
 have hrb := h.reg hb16
 obtain ⟨RA, hRA⟩ : ∃ RA : Int, Hid (x.th.regs.getD a 0 = RA) := ⟨_, rfl⟩
 rw [hRA.out] at hra
 have hzI : (prog.info? 68).map (·.size) = some (#[.int .i64 0, .int .i64 (a : Int), .int .i64 (b : Int), .int .i64 (c : Int), .int .i32 i] : Array Value).size := wkz _ _ _ _ _
 obtain ⟨CI, hCI⟩ : ∃ CI : Array Value, CI = #[.int .i64 0, .int .i64 (a : Int), .int .i64 (b : Int), .int .i64 (c : Int), .int .i32 i] := ⟨_, rfl⟩
 have c0 : CI[0]? = some (.int .i64 0) := by rw [hCI]; rfl
 have c1 : CI[1]? = some (.int .i64 (a : Int)) := by rw [hCI]; rfl
 have c4 : CI[4]? = some (.int .i32 i) := by rw [hCI]; rfl
 have c2 : CI[2]? = some (.int .i64 (b : Int)) := by rw [hCI]; rfl
 rw [← hCI] at hzI
 rw [← hCI]
 replace hCI : Hid _ := hCI
 go_enter func45, ntmps45
 go_wp2_with (first
  | go_skip
  | ((with_reducible refine qdz rfl 68 _ rfl CI rfl ?_); intro I W1 hNI hI hk1; have hIB : Hid (B ≠ I) := (by have := hNI.out; show B ≠ I; omega); replace hb := hb.next hk1; replace hk := btz hk hk1))
 have hB := hb
 refine PgM.region_out (S := fun W => Blk W B F 59 ∧ Blk W I CI 68 ∧ Below w.heap.size w W) hmx (⟨hB.next (Below.refl _ _).drew, hI.next (Below.refl _ _).drew, hk.trans ((Below.refl _ _).drew.mono hk.size)⟩) (fun hS0 => ?_)
 generalize W1.drew = v0 at hS0 ⊢
 refine qoz (by kernel_rfl) (fun _ _ _ _ _ h => h) hS0 [(0, none), (1, none), (2, some (.int .i64 (a : Int))), (3, none), (4, none), (5, none), (6, none), (7, some (.pointer (some ⟨B, 8 + a, none⟩))), (8, some (.int .u64 RA)), (9, none)] (l' := #[tt, tt, tt, tt, tt, tt, tt, tt, tt, tt]) (a' := { tmps := #[.pointer (some ⟨B, 0, none⟩), .agg CI, undef, .pointer (some ⟨I, 0, none⟩), .int .i64 0, .int .u64 RA, .pointer (some ⟨B, 0, none⟩), .pointer (some ⟨I, 1, none⟩), .int .i64 (a : Int), .pointer (some ⟨B, 0, none⟩), .pointer (some ⟨B, 0, none⟩), .pointer (some ⟨B, 8, none⟩), .pointer (some ⟨B, 8, none⟩), .pointer (some ⟨B, 8 + a, none⟩), .int .u64 RA, ud, ud, ud, ud, ud, ud, ud, ud, ud, ud, ud, ud, ud, ud, ud, ud, ud, ud, ud, ud, ud, ud, ud, ud, ud, ud, ud, ud, ud, ud, ud, ud, ud, ud, ud, ud, ud, ud, ud, ud, ud, ud, ud, ud, ud, ud, ud, ud, ud, ud, ud, ud, ud, ud, ud, ud, ud, ud, ud, ud, ud, ud, ud, ud, ud, ud, ud, ud, ud, ud, ud, ud, ud, ud, ud, ud, ud, ud, ud, ud, ud, ud, ud, ud, ud, ud, ud, ud, ud, ud, ud, ud, ud, ud, ud, ud, ud, ud, ud, ud, ud, ud, ud, ud, ud, ud, ud, ud, ud, ud, ud, ud, ud, ud, undef], defers := [] }) (obs := [.load 3 I 1 (.int .i64 (a : Int)), .ia 37 (.pointer (some ⟨B, 8, none⟩)) (.int .i64 (a : Int)) (.pointer (some ⟨B, 8 + a, none⟩)), .load 22 B (8 + a) (.int .u64 RA)]) (n := 0) (by kernel_rfl) (by kernel_rfl) ⟨qgz (fun W hS => hS.2.1) c1 ga3, fun W hS => qFz ha16 W, qgz (fun W hS => hS.1) hra ga2, trivial⟩ ?_
 refine wpAnyH_done (by kernel_rfl) ?_ _
 have hB1 := hS0.1
 have hI1 := hS0.2.1
 have hk1 := hS0.2.2
 go_wp2_with (first
  | go_skip
  | (with_reducible refine qaz (by kernel_rfl) _ _ rfl I _ rfl _ _ hI1 _ c0 (by assumption) ?_)
  | (with_reducible refine qaz (by kernel_rfl) _ _ rfl I _ rfl _ _ hI1 _ c1 (by assumption) ?_)
  | (with_reducible refine qaz (by kernel_rfl) _ _ rfl I _ rfl _ _ hI1 _ c4 (by assumption) ?_)
  | (with_reducible refine qfz rfl _ _ rfl I rfl _ hI1 _ underlying68 rfl hzI ?_)
  | ((with_reducible refine qkz rfl 3 _ _ rfl B 30 rfl (.int .i64 2) rfl rfl F _ hB1 (by kernel_rfl) (by rw [hz]; decide) rfl ?_); intro W3 hb3 o3))
 go_ret
 have hP := (h.next hk1).put (j := 22) (by decide) (by rfl) ((h.next hk1).ob.th.setstate 2) hb3 o3
 exact ⟨rfl, _, hP, (Ot.of hk1 hBl).trans (Ot.set o3)⟩
theorem do_18 (h : Pz Z w B F x t ke ro ao n cap X) (ha16 : a < 16) (hb16 : b < 16) (hc16 : c < 16) (hw : WdT x.th) : Calls prog 45 #[.pointer (some ⟨B, 0, none⟩), .agg #[.int .i64 18, .int .i64 (a : Int), .int .i64 (b : Int), .int .i64 (c : Int), .int .i32 i]] w fun e w' => e = .returned (.int .i64 (-1)) ∧ ∃ F', Pz Z w' B F' { x with th := plT 18 (a : Int) (b : Int) (c : Int) i x.th } t ke ro ao n cap X ∧ Ot B w w' := by
 have hmx : prog.follows .mixedOrders = true := by kernel_rfl
 have ga2 := isAgg22
 have ga3 := isAgg3
 have ga4 := isAgg21
 have hb := h.blk
 have hz := h.size
 have hBl := h.blk.lt
 have hk := Below.refl w.heap.size w
 have hra := h.reg ha16
 have hrb := h.reg hb16
 obtain ⟨RA, hRA⟩ : ∃ RA : Int, Hid (x.th.regs.getD a 0 = RA) := ⟨_, rfl⟩
 rw [hRA.out] at hra
 have hzI : (prog.info? 68).map (·.size) = some (#[.int .i64 18, .int .i64 (a : Int), .int .i64 (b : Int), .int .i64 (c : Int), .int .i32 i] : Array Value).size := wkz _ _ _ _ _
 obtain ⟨CI, hCI⟩ : ∃ CI : Array Value, CI = #[.int .i64 18, .int .i64 (a : Int), .int .i64 (b : Int), .int .i64 (c : Int), .int .i32 i] := ⟨_, rfl⟩
 have c0 : CI[0]? = some (.int .i64 18) := by rw [hCI]; rfl
 have c1 : CI[1]? = some (.int .i64 (a : Int)) := by rw [hCI]; rfl
 have c4 : CI[4]? = some (.int .i32 i) := by rw [hCI]; rfl
 have c2 : CI[2]? = some (.int .i64 (b : Int)) := by rw [hCI]; rfl
 rw [← hCI] at hzI
 rw [← hCI]
 replace hCI : Hid _ := hCI
 go_enter func45, ntmps45
 go_wp2_with (first
  | go_skip
  | ((with_reducible refine qdz rfl 68 _ rfl CI rfl ?_); intro I W1 hNI hI hk1; have hIB : Hid (B ≠ I) := (by have := hNI.out; show B ≠ I; omega); replace hb := hb.next hk1; replace hk := btz hk hk1))
 have hB := hb
 refine PgM.region_out (S := fun W => Blk W B F 59 ∧ Blk W I CI 68 ∧ Below w.heap.size w W) hmx (⟨hB.next (Below.refl _ _).drew, hI.next (Below.refl _ _).drew, hk.trans ((Below.refl _ _).drew.mono hk.size)⟩) (fun hS0 => ?_)
 generalize W1.drew = v0 at hS0 ⊢
 refine qoz (by kernel_rfl) (fun _ _ _ _ _ h => h) hS0 [(0, none), (1, none), (2, some (.int .i64 (a : Int))), (3, none), (4, none), (5, none), (6, none), (7, some (.pointer (some ⟨B, 8 + a, none⟩))), (8, some (.int .u64 RA)), (9, none)] (l' := #[tt, tt, tt, tt, tt, tt, tt, tt, tt, tt]) (a' := { tmps := #[.pointer (some ⟨B, 0, none⟩), .agg CI, undef, .pointer (some ⟨I, 0, none⟩), .int .i64 0, .int .u64 RA, .pointer (some ⟨B, 0, none⟩), .pointer (some ⟨I, 1, none⟩), .int .i64 (a : Int), .pointer (some ⟨B, 0, none⟩), .pointer (some ⟨B, 0, none⟩), .pointer (some ⟨B, 8, none⟩), .pointer (some ⟨B, 8, none⟩), .pointer (some ⟨B, 8 + a, none⟩), .int .u64 RA, ud, ud, ud, ud, ud, ud, ud, ud, ud, ud, ud, ud, ud, ud, ud, ud, ud, ud, ud, ud, ud, ud, ud, ud, ud, ud, ud, ud, ud, ud, ud, ud, ud, ud, ud, ud, ud, ud, ud, ud, ud, ud, ud, ud, ud, ud, ud, ud, ud, ud, ud, ud, ud, ud, ud, ud, ud, ud, ud, ud, ud, ud, ud, ud, ud, ud, ud, ud, ud, ud, ud, ud, ud, ud, ud, ud, ud, ud, ud, ud, ud, ud, ud, ud, ud, ud, ud, ud, ud, ud, ud, ud, ud, ud, ud, ud, ud, ud, ud, ud, ud, ud, ud, ud, ud, ud, ud, ud, ud, ud, ud, ud, ud, ud, undef], defers := [] }) (obs := [.load 3 I 1 (.int .i64 (a : Int)), .ia 37 (.pointer (some ⟨B, 8, none⟩)) (.int .i64 (a : Int)) (.pointer (some ⟨B, 8 + a, none⟩)), .load 22 B (8 + a) (.int .u64 RA)]) (n := 0) (by kernel_rfl) (by kernel_rfl) ⟨qgz (fun W hS => hS.2.1) c1 ga3, fun W hS => qFz ha16 W, qgz (fun W hS => hS.1) hra ga2, trivial⟩ ?_
 refine wpAnyH_done (by kernel_rfl) ?_ _
 have hB1 := hS0.1
 have hI1 := hS0.2.1
 have hk1 := hS0.2.2
 go_wp2_with (first
  | go_skip
  | (with_reducible refine qaz (by kernel_rfl) _ _ rfl I _ rfl _ _ hI1 _ c0 (by assumption) ?_)
  | (with_reducible refine qaz (by kernel_rfl) _ _ rfl I _ rfl _ _ hI1 _ c1 (by assumption) ?_)
  | (with_reducible refine qaz (by kernel_rfl) _ _ rfl I _ rfl _ _ hI1 _ c4 (by assumption) ?_)
  | (with_reducible refine qfz rfl _ _ rfl I rfl _ hI1 _ underlying68 rfl hzI ?_)
  | (go_at_call 71; (with_reducible refine (j6z (h.next hk1)).mono ?_); rintro e w3 ⟨rfl, F3, hP3, q3⟩))
 go_ret
 refine ⟨rfl, F3, ?_, (Ot.of hk1 hBl).trans q3⟩
 exact hP3
theorem do_19 (h : Pz Z w B F x t ke ro ao n cap X) (ha16 : a < 16) (hb16 : b < 16) (hc16 : c < 16) (hw : WdT x.th) : Calls prog 45 #[.pointer (some ⟨B, 0, none⟩), .agg #[.int .i64 19, .int .i64 (a : Int), .int .i64 (b : Int), .int .i64 (c : Int), .int .i32 i]] w fun e w' => e = .returned (.int .i64 (-1)) ∧ ∃ F', Pz Z w' B F' { x with th := plT 19 (a : Int) (b : Int) (c : Int) i x.th } t ke ro ao n cap X ∧ Ot B w w' := by
 have hmx : prog.follows .mixedOrders = true := by kernel_rfl
 have ga2 := isAgg22
 have ga3 := isAgg3
 have ga4 := isAgg21
 have hb := h.blk
 have hz := h.size
 have hBl := h.blk.lt
 have hk := Below.refl w.heap.size w
 have hra := h.reg ha16
 have hrb := h.reg hb16
 obtain ⟨RA, hRA⟩ : ∃ RA : Int, Hid (x.th.regs.getD a 0 = RA) := ⟨_, rfl⟩
 rw [hRA.out] at hra
 have hzI : (prog.info? 68).map (·.size) = some (#[.int .i64 19, .int .i64 (a : Int), .int .i64 (b : Int), .int .i64 (c : Int), .int .i32 i] : Array Value).size := wkz _ _ _ _ _
 obtain ⟨CI, hCI⟩ : ∃ CI : Array Value, CI = #[.int .i64 19, .int .i64 (a : Int), .int .i64 (b : Int), .int .i64 (c : Int), .int .i32 i] := ⟨_, rfl⟩
 have c0 : CI[0]? = some (.int .i64 19) := by rw [hCI]; rfl
 have c1 : CI[1]? = some (.int .i64 (a : Int)) := by rw [hCI]; rfl
 have c4 : CI[4]? = some (.int .i32 i) := by rw [hCI]; rfl
 have c2 : CI[2]? = some (.int .i64 (b : Int)) := by rw [hCI]; rfl
 rw [← hCI] at hzI
 rw [← hCI]
 replace hCI : Hid _ := hCI
 go_enter func45, ntmps45
 go_wp2_with (first
  | go_skip
  | ((with_reducible refine qdz rfl 68 _ rfl CI rfl ?_); intro I W1 hNI hI hk1; have hIB : Hid (B ≠ I) := (by have := hNI.out; show B ≠ I; omega); replace hb := hb.next hk1; replace hk := btz hk hk1))
 have hB := hb
 refine PgM.region_out (S := fun W => Blk W B F 59 ∧ Blk W I CI 68 ∧ Below w.heap.size w W) hmx (⟨hB.next (Below.refl _ _).drew, hI.next (Below.refl _ _).drew, hk.trans ((Below.refl _ _).drew.mono hk.size)⟩) (fun hS0 => ?_)
 generalize W1.drew = v0 at hS0 ⊢
 refine qoz (by kernel_rfl) (fun _ _ _ _ _ h => h) hS0 [(0, none), (1, none), (2, some (.int .i64 (a : Int))), (3, none), (4, none), (5, none), (6, none), (7, some (.pointer (some ⟨B, 8 + a, none⟩))), (8, some (.int .u64 RA)), (9, none)] (l' := #[tt, tt, tt, tt, tt, tt, tt, tt, tt, tt]) (a' := { tmps := #[.pointer (some ⟨B, 0, none⟩), .agg CI, undef, .pointer (some ⟨I, 0, none⟩), .int .i64 0, .int .u64 RA, .pointer (some ⟨B, 0, none⟩), .pointer (some ⟨I, 1, none⟩), .int .i64 (a : Int), .pointer (some ⟨B, 0, none⟩), .pointer (some ⟨B, 0, none⟩), .pointer (some ⟨B, 8, none⟩), .pointer (some ⟨B, 8, none⟩), .pointer (some ⟨B, 8 + a, none⟩), .int .u64 RA, ud, ud, ud, ud, ud, ud, ud, ud, ud, ud, ud, ud, ud, ud, ud, ud, ud, ud, ud, ud, ud, ud, ud, ud, ud, ud, ud, ud, ud, ud, ud, ud, ud, ud, ud, ud, ud, ud, ud, ud, ud, ud, ud, ud, ud, ud, ud, ud, ud, ud, ud, ud, ud, ud, ud, ud, ud, ud, ud, ud, ud, ud, ud, ud, ud, ud, ud, ud, ud, ud, ud, ud, ud, ud, ud, ud, ud, ud, ud, ud, ud, ud, ud, ud, ud, ud, ud, ud, ud, ud, ud, ud, ud, ud, ud, ud, ud, ud, ud, ud, ud, ud, ud, ud, ud, ud, ud, ud, ud, ud, ud, ud, ud, ud, undef], defers := [] }) (obs := [.load 3 I 1 (.int .i64 (a : Int)), .ia 37 (.pointer (some ⟨B, 8, none⟩)) (.int .i64 (a : Int)) (.pointer (some ⟨B, 8 + a, none⟩)), .load 22 B (8 + a) (.int .u64 RA)]) (n := 0) (by kernel_rfl) (by kernel_rfl) ⟨qgz (fun W hS => hS.2.1) c1 ga3, fun W hS => qFz ha16 W, qgz (fun W hS => hS.1) hra ga2, trivial⟩ ?_
 refine wpAnyH_done (by kernel_rfl) ?_ _
 have hB1 := hS0.1
 have hI1 := hS0.2.1
 have hk1 := hS0.2.2
 go_wp2_with (first
  | go_skip
  | (with_reducible refine qaz (by kernel_rfl) _ _ rfl I _ rfl _ _ hI1 _ c0 (by assumption) ?_)
  | (with_reducible refine qaz (by kernel_rfl) _ _ rfl I _ rfl _ _ hI1 _ c1 (by assumption) ?_)
  | (with_reducible refine qaz (by kernel_rfl) _ _ rfl I _ rfl _ _ hI1 _ c4 (by assumption) ?_)
  | (with_reducible refine qfz rfl _ _ rfl I rfl _ hI1 _ underlying68 rfl hzI ?_)
  | (go_at_call 72; (with_reducible refine (ygz (h.next hk1)).mono ?_); rintro e w3 ⟨rfl, F3, hP3, q3⟩))
 go_ret
 refine ⟨rfl, F3, ?_, (Ot.of hk1 hBl).trans q3⟩
 have e : plT 19 (a : Int) (b : Int) (c : Int) i x.th = { x.th with pc := if (RA == 0) = true then frI x.th i else nxI x.th } := by
  have : rgI x.th (a : Int) = RA := hRA.out
  unfold plT
  simp only [show ¬ ((19 : Int) = 0) by decide, show ¬ ((19 : Int) = 1) by decide, show ¬ ((19 : Int) = 2) by decide, show ¬ ((19 : Int) = 3) by decide, show ¬ ((19 : Int) = 14) by decide, show ¬ ((19 : Int) = 18) by decide, if_false, if_true, this]
  by_cases q : RA = 0 <;> simp [q]
 rw [e]
 first | exact hP3 | (simpa using hP3)
theorem do_20 (h : Pz Z w B F x t ke ro ao n cap X) (ha16 : a < 16) (hb16 : b < 16) (hc16 : c < 16) (hw : WdT x.th) : Calls prog 45 #[.pointer (some ⟨B, 0, none⟩), .agg #[.int .i64 20, .int .i64 (a : Int), .int .i64 (b : Int), .int .i64 (c : Int), .int .i32 i]] w fun e w' => e = .returned (.int .i64 (-1)) ∧ ∃ F', Pz Z w' B F' { x with th := plT 20 (a : Int) (b : Int) (c : Int) i x.th } t ke ro ao n cap X ∧ Ot B w w' := by
 have hmx : prog.follows .mixedOrders = true := by kernel_rfl
 have ga2 := isAgg22
 have ga3 := isAgg3
 have ga4 := isAgg21
 have hb := h.blk
 have hz := h.size
 have hBl := h.blk.lt
 have hk := Below.refl w.heap.size w
 have hra := h.reg ha16
 have hrb := h.reg hb16
 obtain ⟨RA, hRA⟩ : ∃ RA : Int, Hid (x.th.regs.getD a 0 = RA) := ⟨_, rfl⟩
 rw [hRA.out] at hra
 have hzI : (prog.info? 68).map (·.size) = some (#[.int .i64 20, .int .i64 (a : Int), .int .i64 (b : Int), .int .i64 (c : Int), .int .i32 i] : Array Value).size := wkz _ _ _ _ _
 obtain ⟨CI, hCI⟩ : ∃ CI : Array Value, CI = #[.int .i64 20, .int .i64 (a : Int), .int .i64 (b : Int), .int .i64 (c : Int), .int .i32 i] := ⟨_, rfl⟩
 have c0 : CI[0]? = some (.int .i64 20) := by rw [hCI]; rfl
 have c1 : CI[1]? = some (.int .i64 (a : Int)) := by rw [hCI]; rfl
 have c4 : CI[4]? = some (.int .i32 i) := by rw [hCI]; rfl
 have c2 : CI[2]? = some (.int .i64 (b : Int)) := by rw [hCI]; rfl
 rw [← hCI] at hzI
 rw [← hCI]
 replace hCI : Hid _ := hCI
 go_enter func45, ntmps45
 go_wp2_with (first
  | go_skip
  | ((with_reducible refine qdz rfl 68 _ rfl CI rfl ?_); intro I W1 hNI hI hk1; have hIB : Hid (B ≠ I) := (by have := hNI.out; show B ≠ I; omega); replace hb := hb.next hk1; replace hk := btz hk hk1))
 have hB := hb
 refine PgM.region_out (S := fun W => Blk W B F 59 ∧ Blk W I CI 68 ∧ Below w.heap.size w W) hmx (⟨hB.next (Below.refl _ _).drew, hI.next (Below.refl _ _).drew, hk.trans ((Below.refl _ _).drew.mono hk.size)⟩) (fun hS0 => ?_)
 generalize W1.drew = v0 at hS0 ⊢
 refine qoz (by kernel_rfl) (fun _ _ _ _ _ h => h) hS0 [(0, none), (1, none), (2, some (.int .i64 (a : Int))), (3, none), (4, none), (5, none), (6, none), (7, some (.pointer (some ⟨B, 8 + a, none⟩))), (8, some (.int .u64 RA)), (9, none)] (l' := #[tt, tt, tt, tt, tt, tt, tt, tt, tt, tt]) (a' := { tmps := #[.pointer (some ⟨B, 0, none⟩), .agg CI, undef, .pointer (some ⟨I, 0, none⟩), .int .i64 0, .int .u64 RA, .pointer (some ⟨B, 0, none⟩), .pointer (some ⟨I, 1, none⟩), .int .i64 (a : Int), .pointer (some ⟨B, 0, none⟩), .pointer (some ⟨B, 0, none⟩), .pointer (some ⟨B, 8, none⟩), .pointer (some ⟨B, 8, none⟩), .pointer (some ⟨B, 8 + a, none⟩), .int .u64 RA, ud, ud, ud, ud, ud, ud, ud, ud, ud, ud, ud, ud, ud, ud, ud, ud, ud, ud, ud, ud, ud, ud, ud, ud, ud, ud, ud, ud, ud, ud, ud, ud, ud, ud, ud, ud, ud, ud, ud, ud, ud, ud, ud, ud, ud, ud, ud, ud, ud, ud, ud, ud, ud, ud, ud, ud, ud, ud, ud, ud, ud, ud, ud, ud, ud, ud, ud, ud, ud, ud, ud, ud, ud, ud, ud, ud, ud, ud, ud, ud, ud, ud, ud, ud, ud, ud, ud, ud, ud, ud, ud, ud, ud, ud, ud, ud, ud, ud, ud, ud, ud, ud, ud, ud, ud, ud, ud, ud, ud, ud, ud, ud, ud, ud, undef], defers := [] }) (obs := [.load 3 I 1 (.int .i64 (a : Int)), .ia 37 (.pointer (some ⟨B, 8, none⟩)) (.int .i64 (a : Int)) (.pointer (some ⟨B, 8 + a, none⟩)), .load 22 B (8 + a) (.int .u64 RA)]) (n := 0) (by kernel_rfl) (by kernel_rfl) ⟨qgz (fun W hS => hS.2.1) c1 ga3, fun W hS => qFz ha16 W, qgz (fun W hS => hS.1) hra ga2, trivial⟩ ?_
 refine wpAnyH_done (by kernel_rfl) ?_ _
 have hB1 := hS0.1
 have hI1 := hS0.2.1
 have hk1 := hS0.2.2
 go_wp2_with (first
  | go_skip
  | (with_reducible refine qaz (by kernel_rfl) _ _ rfl I _ rfl _ _ hI1 _ c0 (by assumption) ?_)
  | (with_reducible refine qaz (by kernel_rfl) _ _ rfl I _ rfl _ _ hI1 _ c1 (by assumption) ?_)
  | (with_reducible refine qaz (by kernel_rfl) _ _ rfl I _ rfl _ _ hI1 _ c4 (by assumption) ?_)
  | (with_reducible refine qfz rfl _ _ rfl I rfl _ hI1 _ underlying68 rfl hzI ?_)
  | (go_at_call 72; (with_reducible refine (ygz (h.next hk1)).mono ?_); rintro e w3 ⟨rfl, F3, hP3, q3⟩))
 go_ret
 refine ⟨rfl, F3, ?_, (Ot.of hk1 hBl).trans q3⟩
 have e : plT 20 (a : Int) (b : Int) (c : Int) i x.th = { x.th with pc := if (RA != 0) = true then frI x.th i else nxI x.th } := by
  have : rgI x.th (a : Int) = RA := hRA.out
  unfold plT
  simp only [show ¬ ((20 : Int) = 0) by decide, show ¬ ((20 : Int) = 1) by decide, show ¬ ((20 : Int) = 2) by decide, show ¬ ((20 : Int) = 3) by decide, show ¬ ((20 : Int) = 14) by decide, show ¬ ((20 : Int) = 18) by decide, show ¬ ((20 : Int) = 19) by decide, if_false, if_true, this]
  by_cases q : RA = 0 <;> simp [q]
 rw [e]
 first | exact hP3 | (simpa using hP3)
theorem do_21 (h : Pz Z w B F x t ke ro ao n cap X) (ha16 : a < 16) (hb16 : b < 16) (hc16 : c < 16) (hw : WdT x.th) : Calls prog 45 #[.pointer (some ⟨B, 0, none⟩), .agg #[.int .i64 21, .int .i64 (a : Int), .int .i64 (b : Int), .int .i64 (c : Int), .int .i32 i]] w fun e w' => e = .returned (.int .i64 (-1)) ∧ ∃ F', Pz Z w' B F' { x with th := plT 21 (a : Int) (b : Int) (c : Int) i x.th } t ke ro ao n cap X ∧ Ot B w w' := by
 have hmx : prog.follows .mixedOrders = true := by kernel_rfl
 have ga2 := isAgg22
 have ga3 := isAgg3
 have ga4 := isAgg21
 have hb := h.blk
 have hz := h.size
 have hBl := h.blk.lt
 have hk := Below.refl w.heap.size w
 have hra := h.reg ha16
 have hrb := h.reg hb16
 obtain ⟨RA, hRA⟩ : ∃ RA : Int, Hid (x.th.regs.getD a 0 = RA) := ⟨_, rfl⟩
 rw [hRA.out] at hra
 have hzI : (prog.info? 68).map (·.size) = some (#[.int .i64 21, .int .i64 (a : Int), .int .i64 (b : Int), .int .i64 (c : Int), .int .i32 i] : Array Value).size := wkz _ _ _ _ _
 obtain ⟨CI, hCI⟩ : ∃ CI : Array Value, CI = #[.int .i64 21, .int .i64 (a : Int), .int .i64 (b : Int), .int .i64 (c : Int), .int .i32 i] := ⟨_, rfl⟩
 have c0 : CI[0]? = some (.int .i64 21) := by rw [hCI]; rfl
 have c1 : CI[1]? = some (.int .i64 (a : Int)) := by rw [hCI]; rfl
 have c4 : CI[4]? = some (.int .i32 i) := by rw [hCI]; rfl
 have c2 : CI[2]? = some (.int .i64 (b : Int)) := by rw [hCI]; rfl
 rw [← hCI] at hzI
 rw [← hCI]
 replace hCI : Hid _ := hCI
 go_enter func45, ntmps45
 go_wp2_with (first
  | go_skip
  | ((with_reducible refine qdz rfl 68 _ rfl CI rfl ?_); intro I W1 hNI hI hk1; have hIB : Hid (B ≠ I) := (by have := hNI.out; show B ≠ I; omega); replace hb := hb.next hk1; replace hk := btz hk hk1))
 have hB := hb
 refine PgM.region_out (S := fun W => Blk W B F 59 ∧ Blk W I CI 68 ∧ Below w.heap.size w W) hmx (⟨hB.next (Below.refl _ _).drew, hI.next (Below.refl _ _).drew, hk.trans ((Below.refl _ _).drew.mono hk.size)⟩) (fun hS0 => ?_)
 generalize W1.drew = v0 at hS0 ⊢
 refine qoz (by kernel_rfl) (fun _ _ _ _ _ h => h) hS0 [(0, none), (1, none), (2, some (.int .i64 (a : Int))), (3, none), (4, none), (5, none), (6, none), (7, some (.pointer (some ⟨B, 8 + a, none⟩))), (8, some (.int .u64 RA)), (9, none)] (l' := #[tt, tt, tt, tt, tt, tt, tt, tt, tt, tt]) (a' := { tmps := #[.pointer (some ⟨B, 0, none⟩), .agg CI, undef, .pointer (some ⟨I, 0, none⟩), .int .i64 0, .int .u64 RA, .pointer (some ⟨B, 0, none⟩), .pointer (some ⟨I, 1, none⟩), .int .i64 (a : Int), .pointer (some ⟨B, 0, none⟩), .pointer (some ⟨B, 0, none⟩), .pointer (some ⟨B, 8, none⟩), .pointer (some ⟨B, 8, none⟩), .pointer (some ⟨B, 8 + a, none⟩), .int .u64 RA, ud, ud, ud, ud, ud, ud, ud, ud, ud, ud, ud, ud, ud, ud, ud, ud, ud, ud, ud, ud, ud, ud, ud, ud, ud, ud, ud, ud, ud, ud, ud, ud, ud, ud, ud, ud, ud, ud, ud, ud, ud, ud, ud, ud, ud, ud, ud, ud, ud, ud, ud, ud, ud, ud, ud, ud, ud, ud, ud, ud, ud, ud, ud, ud, ud, ud, ud, ud, ud, ud, ud, ud, ud, ud, ud, ud, ud, ud, ud, ud, ud, ud, ud, ud, ud, ud, ud, ud, ud, ud, ud, ud, ud, ud, ud, ud, ud, ud, ud, ud, ud, ud, ud, ud, ud, ud, ud, ud, ud, ud, ud, ud, ud, ud, undef], defers := [] }) (obs := [.load 3 I 1 (.int .i64 (a : Int)), .ia 37 (.pointer (some ⟨B, 8, none⟩)) (.int .i64 (a : Int)) (.pointer (some ⟨B, 8 + a, none⟩)), .load 22 B (8 + a) (.int .u64 RA)]) (n := 0) (by kernel_rfl) (by kernel_rfl) ⟨qgz (fun W hS => hS.2.1) c1 ga3, fun W hS => qFz ha16 W, qgz (fun W hS => hS.1) hra ga2, trivial⟩ ?_
 refine wpAnyH_done (by kernel_rfl) ?_ _
 have hB1 := hS0.1
 have hI1 := hS0.2.1
 have hk1 := hS0.2.2
 have hcv := call_v (op := 21) (i := i) (b := b) (c := c) (h.next hk1) ha16
 rw [← hCI.out] at hcv
 go_wp2_with (first
  | go_skip
  | (with_reducible refine qaz (by kernel_rfl) _ _ rfl I _ rfl _ _ hI1 _ c0 (by assumption) ?_)
  | (with_reducible refine qaz (by kernel_rfl) _ _ rfl I _ rfl _ _ hI1 _ c1 (by assumption) ?_)
  | (with_reducible refine qaz (by kernel_rfl) _ _ rfl I _ rfl _ _ hI1 _ c4 (by assumption) ?_)
  | (with_reducible refine qfz rfl _ _ rfl I rfl _ hI1 _ underlying68 rfl hzI ?_)
  | (go_at_call 73; (with_reducible refine (hcv).mono ?_); rintro e w3 ⟨rfl, F3, hP3, q3⟩))
 go_ret
 refine ⟨rfl, F3, ?_, (Ot.of hk1 hBl).trans q3⟩
 exact hP3
theorem do_22 (h : Pz Z w B F x t ke ro ao n cap X) (ha16 : a < 16) (hb16 : b < 16) (hc16 : c < 16) (hw : WdT x.th) : Calls prog 45 #[.pointer (some ⟨B, 0, none⟩), .agg #[.int .i64 22, .int .i64 (a : Int), .int .i64 (b : Int), .int .i64 (c : Int), .int .i32 i]] w fun e w' => e = .returned (.int .i64 (-1)) ∧ ∃ F', Pz Z w' B F' { x with th := plT 22 (a : Int) (b : Int) (c : Int) i x.th } t ke ro ao n cap X ∧ Ot B w w' := by
 have hmx : prog.follows .mixedOrders = true := by kernel_rfl
 have ga2 := isAgg22
 have ga3 := isAgg3
 have ga4 := isAgg21
 have hb := h.blk
 have hz := h.size
 have hBl := h.blk.lt
 have hk := Below.refl w.heap.size w
 have hra := h.reg ha16
 have hrb := h.reg hb16
 obtain ⟨RA, hRA⟩ : ∃ RA : Int, Hid (x.th.regs.getD a 0 = RA) := ⟨_, rfl⟩
 rw [hRA.out] at hra
 have hzI : (prog.info? 68).map (·.size) = some (#[.int .i64 22, .int .i64 (a : Int), .int .i64 (b : Int), .int .i64 (c : Int), .int .i32 i] : Array Value).size := wkz _ _ _ _ _
 obtain ⟨CI, hCI⟩ : ∃ CI : Array Value, CI = #[.int .i64 22, .int .i64 (a : Int), .int .i64 (b : Int), .int .i64 (c : Int), .int .i32 i] := ⟨_, rfl⟩
 have c0 : CI[0]? = some (.int .i64 22) := by rw [hCI]; rfl
 have c1 : CI[1]? = some (.int .i64 (a : Int)) := by rw [hCI]; rfl
 have c4 : CI[4]? = some (.int .i32 i) := by rw [hCI]; rfl
 have c2 : CI[2]? = some (.int .i64 (b : Int)) := by rw [hCI]; rfl
 rw [← hCI] at hzI
 rw [← hCI]
 replace hCI : Hid _ := hCI
 go_enter func45, ntmps45
 go_wp2_with (first
  | go_skip
  | ((with_reducible refine qdz rfl 68 _ rfl CI rfl ?_); intro I W1 hNI hI hk1; have hIB : Hid (B ≠ I) := (by have := hNI.out; show B ≠ I; omega); replace hb := hb.next hk1; replace hk := btz hk hk1))
 have hB := hb
 refine PgM.region_out (S := fun W => Blk W B F 59 ∧ Blk W I CI 68 ∧ Below w.heap.size w W) hmx (⟨hB.next (Below.refl _ _).drew, hI.next (Below.refl _ _).drew, hk.trans ((Below.refl _ _).drew.mono hk.size)⟩) (fun hS0 => ?_)
 generalize W1.drew = v0 at hS0 ⊢
 refine qoz (by kernel_rfl) (fun _ _ _ _ _ h => h) hS0 [(0, none), (1, none), (2, some (.int .i64 (a : Int))), (3, none), (4, none), (5, none), (6, none), (7, some (.pointer (some ⟨B, 8 + a, none⟩))), (8, some (.int .u64 RA)), (9, none)] (l' := #[tt, tt, tt, tt, tt, tt, tt, tt, tt, tt]) (a' := { tmps := #[.pointer (some ⟨B, 0, none⟩), .agg CI, undef, .pointer (some ⟨I, 0, none⟩), .int .i64 0, .int .u64 RA, .pointer (some ⟨B, 0, none⟩), .pointer (some ⟨I, 1, none⟩), .int .i64 (a : Int), .pointer (some ⟨B, 0, none⟩), .pointer (some ⟨B, 0, none⟩), .pointer (some ⟨B, 8, none⟩), .pointer (some ⟨B, 8, none⟩), .pointer (some ⟨B, 8 + a, none⟩), .int .u64 RA, ud, ud, ud, ud, ud, ud, ud, ud, ud, ud, ud, ud, ud, ud, ud, ud, ud, ud, ud, ud, ud, ud, ud, ud, ud, ud, ud, ud, ud, ud, ud, ud, ud, ud, ud, ud, ud, ud, ud, ud, ud, ud, ud, ud, ud, ud, ud, ud, ud, ud, ud, ud, ud, ud, ud, ud, ud, ud, ud, ud, ud, ud, ud, ud, ud, ud, ud, ud, ud, ud, ud, ud, ud, ud, ud, ud, ud, ud, ud, ud, ud, ud, ud, ud, ud, ud, ud, ud, ud, ud, ud, ud, ud, ud, ud, ud, ud, ud, ud, ud, ud, ud, ud, ud, ud, ud, ud, ud, ud, ud, ud, ud, ud, ud, undef], defers := [] }) (obs := [.load 3 I 1 (.int .i64 (a : Int)), .ia 37 (.pointer (some ⟨B, 8, none⟩)) (.int .i64 (a : Int)) (.pointer (some ⟨B, 8 + a, none⟩)), .load 22 B (8 + a) (.int .u64 RA)]) (n := 0) (by kernel_rfl) (by kernel_rfl) ⟨qgz (fun W hS => hS.2.1) c1 ga3, fun W hS => qFz ha16 W, qgz (fun W hS => hS.1) hra ga2, trivial⟩ ?_
 refine wpAnyH_done (by kernel_rfl) ?_ _
 have hB1 := hS0.1
 have hI1 := hS0.2.1
 have hk1 := hS0.2.2
 go_wp2_with (first
  | go_skip
  | (with_reducible refine qaz (by kernel_rfl) _ _ rfl I _ rfl _ _ hI1 _ c0 (by assumption) ?_)
  | (with_reducible refine qaz (by kernel_rfl) _ _ rfl I _ rfl _ _ hI1 _ c1 (by assumption) ?_)
  | (with_reducible refine qaz (by kernel_rfl) _ _ rfl I _ rfl _ _ hI1 _ c4 (by assumption) ?_)
  | (with_reducible refine qfz rfl _ _ rfl I rfl _ hI1 _ underlying68 rfl hzI ?_)
  | ((with_reducible refine qkz rfl 22 _ _ rfl B 24 rfl (.int .u64 RA) rfl rfl F _ hB1 (by kernel_rfl) (by rw [hz]; decide) rfl ?_); intro W3 hb3 o3))
 go_ret
 have hP := (h.next hk1).put (j := 16) (by decide) (by rfl) ((h.next hk1).ob.th.setpc RA) hb3 o3
 have e : plT 22 (a : Int) (b : Int) (c : Int) i x.th = { x.th with pc := RA } := by rw [← hRA.out]; rfl
 rw [e]
 exact ⟨rfl, _, hP, (Ot.of hk1 hBl).trans (Ot.set o3)⟩
end
section
open Go.RowKit Go.Shelf
attribute [local go_sem] Oper.semAt_some
variable {Z : Nat → Prop} {ao : Option Addr} {F : Array Value} {t ke ro : Int} {n cap : Nat} {X : List Ob} {a b c : Nat} {w : World} {B : Nat} {i : Int} {x : Ob}
theorem do_1 (h : Pz Z w B F x t ke ro ao n cap X) (ha16 : a < 16) (hb16 : b < 16) (hc16 : c < 16) (hw : WdT x.th) : Calls prog 45 #[.pointer (some ⟨B, 0, none⟩), .agg #[.int .i64 1, .int .i64 (a : Int), .int .i64 (b : Int), .int .i64 (c : Int), .int .i32 i]] w fun e w' => e = .returned (.int .i64 (-1)) ∧ ∃ F', Pz Z w' B F' { x with th := plT 1 (a : Int) (b : Int) (c : Int) i x.th } t ke ro ao n cap X ∧ Ot B w w' := by
 have hmx : prog.follows .mixedOrders = true := by kernel_rfl
 have ga2 := isAgg22
 have ga3 := isAgg3
 have ga4 := isAgg21
 have hb := h.blk
 have hz := h.size
 have hBl := h.blk.lt
 have hk := Below.refl w.heap.size w
 have hra := h.reg ha16
 have hrb := h.reg hb16
 obtain ⟨RA, hRA⟩ : ∃ RA : Int, Hid (x.th.regs.getD a 0 = RA) := ⟨_, rfl⟩
 rw [hRA.out] at hra
 have hzI : (prog.info? 68).map (·.size) = some (#[.int .i64 1, .int .i64 (a : Int), .int .i64 (b : Int), .int .i64 (c : Int), .int .i32 i] : Array Value).size := wkz _ _ _ _ _
 obtain ⟨CI, hCI⟩ : ∃ CI : Array Value, CI = #[.int .i64 1, .int .i64 (a : Int), .int .i64 (b : Int), .int .i64 (c : Int), .int .i32 i] := ⟨_, rfl⟩
 have c0 : CI[0]? = some (.int .i64 1) := by rw [hCI]; rfl
 have c1 : CI[1]? = some (.int .i64 (a : Int)) := by rw [hCI]; rfl
 have c4 : CI[4]? = some (.int .i32 i) := by rw [hCI]; rfl
 have c2 : CI[2]? = some (.int .i64 (b : Int)) := by rw [hCI]; rfl
 rw [← hCI] at hzI
 rw [← hCI]
 replace hCI : Hid _ := hCI
 go_enter func45, ntmps45
 go_wp2_with (first
  | go_skip
  | ((with_reducible refine qdz rfl 68 _ rfl CI rfl ?_); intro I W1 hNI hI hk1; have hIB : Hid (B ≠ I) := (by have := hNI.out; show B ≠ I; omega); replace hb := hb.next hk1; replace hk := btz hk hk1))
 have hB := hb
 refine PgM.region_out (S := fun W => Blk W B F 59 ∧ Blk W I CI 68 ∧ Below w.heap.size w W) hmx (⟨hB.next (Below.refl _ _).drew, hI.next (Below.refl _ _).drew, hk.trans ((Below.refl _ _).drew.mono hk.size)⟩) (fun hS0 => ?_)
 generalize W1.drew = v0 at hS0 ⊢
 refine qoz (by kernel_rfl) (fun _ _ _ _ _ h => h) hS0 [(0, none), (1, none), (2, some (.int .i64 (a : Int))), (3, none), (4, none), (5, none), (6, none), (7, some (.pointer (some ⟨B, 8 + a, none⟩))), (8, some (.int .u64 RA)), (9, none)] (l' := #[tt, tt, tt, tt, tt, tt, tt, tt, tt, tt]) (a' := { tmps := #[.pointer (some ⟨B, 0, none⟩), .agg CI, undef, .pointer (some ⟨I, 0, none⟩), .int .i64 0, .int .u64 RA, .pointer (some ⟨B, 0, none⟩), .pointer (some ⟨I, 1, none⟩), .int .i64 (a : Int), .pointer (some ⟨B, 0, none⟩), .pointer (some ⟨B, 0, none⟩), .pointer (some ⟨B, 8, none⟩), .pointer (some ⟨B, 8, none⟩), .pointer (some ⟨B, 8 + a, none⟩), .int .u64 RA, ud, ud, ud, ud, ud, ud, ud, ud, ud, ud, ud, ud, ud, ud, ud, ud, ud, ud, ud, ud, ud, ud, ud, ud, ud, ud, ud, ud, ud, ud, ud, ud, ud, ud, ud, ud, ud, ud, ud, ud, ud, ud, ud, ud, ud, ud, ud, ud, ud, ud, ud, ud, ud, ud, ud, ud, ud, ud, ud, ud, ud, ud, ud, ud, ud, ud, ud, ud, ud, ud, ud, ud, ud, ud, ud, ud, ud, ud, ud, ud, ud, ud, ud, ud, ud, ud, ud, ud, ud, ud, ud, ud, ud, ud, ud, ud, ud, ud, ud, ud, ud, ud, ud, ud, ud, ud, ud, ud, ud, ud, ud, ud, ud, ud, undef], defers := [] }) (obs := [.load 3 I 1 (.int .i64 (a : Int)), .ia 37 (.pointer (some ⟨B, 8, none⟩)) (.int .i64 (a : Int)) (.pointer (some ⟨B, 8 + a, none⟩)), .load 22 B (8 + a) (.int .u64 RA)]) (n := 0) (by kernel_rfl) (by kernel_rfl) ⟨qgz (fun W hS => hS.2.1) c1 ga3, fun W hS => qFz ha16 W, qgz (fun W hS => hS.1) hra ga2, trivial⟩ ?_
 refine wpAnyH_done (by kernel_rfl) ?_ _
 have hB1 := hS0.1
 have hI1 := hS0.2.1
 have hk1 := hS0.2.2
 go_wp2_with (first
  | go_skip
  | (with_reducible refine qaz (by kernel_rfl) _ _ rfl I _ rfl _ _ hI1 _ c0 (by assumption) ?_)
  | (with_reducible refine qaz (by kernel_rfl) _ _ rfl I _ rfl _ _ hI1 _ c1 (by assumption) ?_)
  | (with_reducible refine qaz (by kernel_rfl) _ _ rfl I _ rfl _ _ hI1 _ c4 (by assumption) ?_)
  | (with_reducible refine qfz rfl _ _ rfl I rfl _ hI1 _ underlying68 rfl hzI ?_)
)
 have hB := hB1
 have hI := hI1
 have hk := hk1
 refine wrz (S := fun W => Blk W B F 59 ∧ Blk W I CI 68 ∧ Below w.heap.size w W) 6 hmx (⟨hB.next (Below.refl _ _).drew, hI.next (Below.refl _ _).drew, hk.trans ((Below.refl _ _).drew.mono hk.size)⟩) (fun hS5 => ?_)
 generalize v0.drew = v5 at hS5 ⊢
 refine qPz (by kernel_rfl) (fun _ _ _ _ _ h => h) hS5 [(0, none, []), (1, none, [2]), (2, some (.int .i64 (a : Int)), []), (3, none, [4, 5]), (4, some (.int .i32 i), [5])] (l' := #[tt, tt, tt, tt, tt, ff, ff]) (a' := { tmps := #[.pointer (some ⟨B, 0, none⟩), .agg CI, undef, .pointer (some ⟨I, 0, none⟩), .int .i64 0, .int .u64 RA, .pointer (some ⟨B, 0, none⟩), .pointer (some ⟨I, 1, none⟩), .int .i64 (a : Int), .pointer (some ⟨B, 0, none⟩), .pointer (some ⟨B, 0, none⟩), .pointer (some ⟨B, 8, none⟩), .pointer (some ⟨B, 8, none⟩), .pointer (some ⟨B, 8 + a, none⟩), .int .u64 RA, .pointer (some ⟨I, 0, none⟩), .int .i64 1, ud, ud, undef, .bool false, .bool false, ud, ud, ud, ud, undef, .bool true, .bool true, .pointer (some ⟨B, 0, none⟩), .pointer (some ⟨I, 1, none⟩), .int .i64 (a : Int), .pointer (some ⟨I, 4, none⟩), .int .i32 i, ud, ud, ud, ud, ud, ud, ud, ud, ud, ud, ud, ud, ud, ud, ud, ud, ud, ud, ud, ud, ud, ud, ud, ud, ud, ud, ud, ud, ud, ud, ud, ud, ud, ud, ud, ud, ud, ud, ud, ud, ud, ud, ud, ud, ud, ud, ud, ud, ud, ud, ud, ud, ud, ud, ud, ud, ud, ud, ud, ud, ud, ud, ud, ud, ud, ud, ud, ud, ud, ud, ud, ud, ud, ud, ud, ud, ud, ud, ud, ud, ud, ud, ud, ud, ud, ud, ud, ud, ud, ud, ud, ud, ud, ud, ud, undef], defers := [] }) (obs := [.load 3 I 1 (.int .i64 (a : Int)), .load 21 I 4 (.int .i32 i)]) (n := 2) (by kernel_rfl) (by kernel_rfl) ⟨qgz (fun W hS => hS.2.1) c1 ga3, qgz (fun W hS => hS.2.1) c4 ga4, trivial⟩ ?_
 refine qtz (i := 5) (n := 1) rfl (by kernel_rfl) ?_
 refine qpz (f := 68) (vs := [.int .i32 i]) (d := some 34) (by kernel_rfl) call68 (jyz _ _) ?_
 rintro e w51 ⟨rfl, rfl⟩
 refine ⟨_, rfl, fun _ => hS5, ?_⟩
 refine qtz (i := 6) (n := 0) rfl (by kernel_rfl) ?_
 refine qpz (f := 67) (vs := [.pointer (some ⟨B, 0, none⟩), .int .i64 (a : Int), .int .u64 ((Al.extN i : Nat) : Int)]) (d := some 35) (by kernel_rfl) call67 (ytz (h.next hS5.2.2) ha16) ?_
 rintro e w52 ⟨rfl, F3, hP3, q3⟩
 have hz5 := (Ot.of hS5.2.2 hBl).trans q3
 refine ⟨_, rfl, (fun q => absurd rfl q), ?_⟩
 refine q1z (by kernel_rfl) ?_ _
 go_wp2
 go_ret
 refine ⟨rfl, F3, ?_, hz5⟩
 have e : ((Al.extN i : Nat) : Int) = i % 18446744073709551616 := by unfold Al.extN; omega
 rw [e] at hP3
 exact hP3
theorem do_2 (h : Pz Z w B F x t ke ro ao n cap X) (ha16 : a < 16) (hb16 : b < 16) (hc16 : c < 16) (hw : WdT x.th) : Calls prog 45 #[.pointer (some ⟨B, 0, none⟩), .agg #[.int .i64 2, .int .i64 (a : Int), .int .i64 (b : Int), .int .i64 (c : Int), .int .i32 i]] w fun e w' => e = .returned (.int .i64 (-1)) ∧ ∃ F', Pz Z w' B F' { x with th := plT 2 (a : Int) (b : Int) (c : Int) i x.th } t ke ro ao n cap X ∧ Ot B w w' := by
 have hmx : prog.follows .mixedOrders = true := by kernel_rfl
 have ga2 := isAgg22
 have ga3 := isAgg3
 have ga4 := isAgg21
 have hb := h.blk
 have hz := h.size
 have hBl := h.blk.lt
 have hk := Below.refl w.heap.size w
 have hra := h.reg ha16
 have hrb := h.reg hb16
 obtain ⟨RA, hRA⟩ : ∃ RA : Int, Hid (x.th.regs.getD a 0 = RA) := ⟨_, rfl⟩
 rw [hRA.out] at hra
 have hzI : (prog.info? 68).map (·.size) = some (#[.int .i64 2, .int .i64 (a : Int), .int .i64 (b : Int), .int .i64 (c : Int), .int .i32 i] : Array Value).size := wkz _ _ _ _ _
 obtain ⟨CI, hCI⟩ : ∃ CI : Array Value, CI = #[.int .i64 2, .int .i64 (a : Int), .int .i64 (b : Int), .int .i64 (c : Int), .int .i32 i] := ⟨_, rfl⟩
 have c0 : CI[0]? = some (.int .i64 2) := by rw [hCI]; rfl
 have c1 : CI[1]? = some (.int .i64 (a : Int)) := by rw [hCI]; rfl
 have c4 : CI[4]? = some (.int .i32 i) := by rw [hCI]; rfl
 have c2 : CI[2]? = some (.int .i64 (b : Int)) := by rw [hCI]; rfl
 rw [← hCI] at hzI
 rw [← hCI]
 replace hCI : Hid _ := hCI
 have hWA : Al.W RA.toNat := by have := hw.reg a; rw [hRA.out] at this; unfold Al.W; omega
 have hRN : ((RA.toNat : Nat) : Int) = RA := Int.toNat_of_nonneg (by have := hw.reg a; rw [hRA.out] at this; exact this.1)
 have hmh := fun W : World => movh_any hWA i W
 rw [hRN] at hmh
 replace hRN : Hid _ := hRN
 go_enter func45, ntmps45
 go_wp2_with (first
  | go_skip
  | ((with_reducible refine qdz rfl 68 _ rfl CI rfl ?_); intro I W1 hNI hI hk1; have hIB : Hid (B ≠ I) := (by have := hNI.out; show B ≠ I; omega); replace hb := hb.next hk1; replace hk := btz hk hk1))
 have hB := hb
 refine PgM.region_out (S := fun W => Blk W B F 59 ∧ Blk W I CI 68 ∧ Below w.heap.size w W) hmx (⟨hB.next (Below.refl _ _).drew, hI.next (Below.refl _ _).drew, hk.trans ((Below.refl _ _).drew.mono hk.size)⟩) (fun hS0 => ?_)
 generalize W1.drew = v0 at hS0 ⊢
 refine qoz (by kernel_rfl) (fun _ _ _ _ _ h => h) hS0 [(0, none), (1, none), (2, some (.int .i64 (a : Int))), (3, none), (4, none), (5, none), (6, none), (7, some (.pointer (some ⟨B, 8 + a, none⟩))), (8, some (.int .u64 RA)), (9, none)] (l' := #[tt, tt, tt, tt, tt, tt, tt, tt, tt, tt]) (a' := { tmps := #[.pointer (some ⟨B, 0, none⟩), .agg CI, undef, .pointer (some ⟨I, 0, none⟩), .int .i64 0, .int .u64 RA, .pointer (some ⟨B, 0, none⟩), .pointer (some ⟨I, 1, none⟩), .int .i64 (a : Int), .pointer (some ⟨B, 0, none⟩), .pointer (some ⟨B, 0, none⟩), .pointer (some ⟨B, 8, none⟩), .pointer (some ⟨B, 8, none⟩), .pointer (some ⟨B, 8 + a, none⟩), .int .u64 RA, ud, ud, ud, ud, ud, ud, ud, ud, ud, ud, ud, ud, ud, ud, ud, ud, ud, ud, ud, ud, ud, ud, ud, ud, ud, ud, ud, ud, ud, ud, ud, ud, ud, ud, ud, ud, ud, ud, ud, ud, ud, ud, ud, ud, ud, ud, ud, ud, ud, ud, ud, ud, ud, ud, ud, ud, ud, ud, ud, ud, ud, ud, ud, ud, ud, ud, ud, ud, ud, ud, ud, ud, ud, ud, ud, ud, ud, ud, ud, ud, ud, ud, ud, ud, ud, ud, ud, ud, ud, ud, ud, ud, ud, ud, ud, ud, ud, ud, ud, ud, ud, ud, ud, ud, ud, ud, ud, ud, ud, ud, ud, ud, ud, ud, undef], defers := [] }) (obs := [.load 3 I 1 (.int .i64 (a : Int)), .ia 37 (.pointer (some ⟨B, 8, none⟩)) (.int .i64 (a : Int)) (.pointer (some ⟨B, 8 + a, none⟩)), .load 22 B (8 + a) (.int .u64 RA)]) (n := 0) (by kernel_rfl) (by kernel_rfl) ⟨qgz (fun W hS => hS.2.1) c1 ga3, fun W hS => qFz ha16 W, qgz (fun W hS => hS.1) hra ga2, trivial⟩ ?_
 refine wpAnyH_done (by kernel_rfl) ?_ _
 have hB1 := hS0.1
 have hI1 := hS0.2.1
 have hk1 := hS0.2.2
 go_wp2_with (first
  | go_skip
  | (with_reducible refine qaz (by kernel_rfl) _ _ rfl I _ rfl _ _ hI1 _ c0 (by assumption) ?_)
  | (with_reducible refine qaz (by kernel_rfl) _ _ rfl I _ rfl _ _ hI1 _ c1 (by assumption) ?_)
  | (with_reducible refine qaz (by kernel_rfl) _ _ rfl I _ rfl _ _ hI1 _ c4 (by assumption) ?_)
  | (with_reducible refine qfz rfl _ _ rfl I rfl _ hI1 _ underlying68 rfl hzI ?_)
)
 have hB := hB1
 have hI := hI1
 have hk := hk1
 refine wrz (S := fun W => Blk W B F 59 ∧ Blk W I CI 68 ∧ Below w.heap.size w W) 7 hmx (⟨hB.next (Below.refl _ _).drew, hI.next (Below.refl _ _).drew, hk.trans ((Below.refl _ _).drew.mono hk.size)⟩) (fun hS5 => ?_)
 generalize v0.drew = v5 at hS5 ⊢
 refine qPz (by kernel_rfl) (fun _ _ _ _ _ h => h) hS5 [(0, none, []), (1, none, [2]), (2, some (.int .i64 (a : Int)), []), (3, none, [6]), (4, none, [5, 6]), (5, some (.int .i32 i), [6])] (l' := #[tt, tt, tt, tt, tt, tt, ff, ff]) (a' := { tmps := #[.pointer (some ⟨B, 0, none⟩), .agg CI, undef, .pointer (some ⟨I, 0, none⟩), .int .i64 0, .int .u64 RA, .pointer (some ⟨B, 0, none⟩), .pointer (some ⟨I, 1, none⟩), .int .i64 (a : Int), .pointer (some ⟨B, 0, none⟩), .pointer (some ⟨B, 0, none⟩), .pointer (some ⟨B, 8, none⟩), .pointer (some ⟨B, 8, none⟩), .pointer (some ⟨B, 8 + a, none⟩), .int .u64 RA, .pointer (some ⟨I, 0, none⟩), .int .i64 2, ud, ud, undef, .bool false, .bool false, ud, ud, ud, ud, undef, .bool false, .bool false, ud, ud, ud, ud, ud, ud, undef, .bool true, .bool true, .pointer (some ⟨B, 0, none⟩), .pointer (some ⟨I, 1, none⟩), .int .i64 (a : Int), .int .u64 RA, .pointer (some ⟨I, 4, none⟩), .int .i32 i, ud, ud, ud, ud, ud, ud, ud, ud, ud, ud, ud, ud, ud, ud, ud, ud, ud, ud, ud, ud, ud, ud, ud, ud, ud, ud, ud, ud, ud, ud, ud, ud, ud, ud, ud, ud, ud, ud, ud, ud, ud, ud, ud, ud, ud, ud, ud, ud, ud, ud, ud, ud, ud, ud, ud, ud, ud, ud, ud, ud, ud, ud, ud, ud, ud, ud, ud, ud, ud, ud, ud, ud, ud, ud, ud, ud, ud, ud, ud, ud, ud, ud, ud, ud, ud, undef], defers := [] }) (obs := [.load 3 I 1 (.int .i64 (a : Int)), .load 21 I 4 (.int .i32 i)]) (n := 2) (by kernel_rfl) (by kernel_rfl) ⟨qgz (fun W hS => hS.2.1) c1 ga3, qgz (fun W hS => hS.2.1) c4 ga4, trivial⟩ ?_
 refine qtz (i := 6) (n := 1) rfl (by kernel_rfl) ?_
 refine qpz (f := 69) (vs := [.int .u64 RA, .int .i32 i]) (d := some 44) (by kernel_rfl) call69 (hmh _) ?_
 rintro e w51 ⟨rfl, rfl⟩
 refine ⟨_, rfl, fun _ => hS5, ?_⟩
 refine qtz (i := 7) (n := 0) rfl (by kernel_rfl) ?_
 refine qpz (f := 67) (vs := [.pointer (some ⟨B, 0, none⟩), .int .i64 (a : Int), .int .u64 ((Al.movhN RA.toNat i : Nat) : Int)]) (d := some 45) (by kernel_rfl) call67 (ytz (h.next hS5.2.2) ha16) ?_
 rintro e w52 ⟨rfl, F3, hP3, q3⟩
 have hz5 := (Ot.of hS5.2.2 hBl).trans q3
 refine ⟨_, rfl, (fun q => absurd rfl q), ?_⟩
 refine q1z (by kernel_rfl) ?_ _
 go_wp2
 go_ret
 refine ⟨rfl, F3, ?_, hz5⟩
 have e : rgI x.th (a : Int) = RA := hRA.out
 show Pz _ _ _ _ { x with th := seI x.th (a : Int) ((Al.movhN (rgI x.th (a : Int)).toNat i : Nat) : Int) } _ _ _ _ _ _ _
 rw [e]
 exact hP3
theorem do_3 (h : Pz Z w B F x t ke ro ao n cap X) (ha16 : a < 16) (hb16 : b < 16) (hc16 : c < 16) (hw : WdT x.th) : Calls prog 45 #[.pointer (some ⟨B, 0, none⟩), .agg #[.int .i64 3, .int .i64 (a : Int), .int .i64 (b : Int), .int .i64 (c : Int), .int .i32 i]] w fun e w' => e = .returned (.int .i64 (-1)) ∧ ∃ F', Pz Z w' B F' { x with th := plT 3 (a : Int) (b : Int) (c : Int) i x.th } t ke ro ao n cap X ∧ Ot B w w' := by
 have hmx : prog.follows .mixedOrders = true := by kernel_rfl
 have ga2 := isAgg22
 have ga3 := isAgg3
 have ga4 := isAgg21
 have hb := h.blk
 have hz := h.size
 have hBl := h.blk.lt
 have hk := Below.refl w.heap.size w
 have hra := h.reg ha16
 have hrb := h.reg hb16
 obtain ⟨RA, hRA⟩ : ∃ RA : Int, Hid (x.th.regs.getD a 0 = RA) := ⟨_, rfl⟩
 rw [hRA.out] at hra
 have hzI : (prog.info? 68).map (·.size) = some (#[.int .i64 3, .int .i64 (a : Int), .int .i64 (b : Int), .int .i64 (c : Int), .int .i32 i] : Array Value).size := wkz _ _ _ _ _
 obtain ⟨CI, hCI⟩ : ∃ CI : Array Value, CI = #[.int .i64 3, .int .i64 (a : Int), .int .i64 (b : Int), .int .i64 (c : Int), .int .i32 i] := ⟨_, rfl⟩
 have c0 : CI[0]? = some (.int .i64 3) := by rw [hCI]; rfl
 have c1 : CI[1]? = some (.int .i64 (a : Int)) := by rw [hCI]; rfl
 have c4 : CI[4]? = some (.int .i32 i) := by rw [hCI]; rfl
 have c2 : CI[2]? = some (.int .i64 (b : Int)) := by rw [hCI]; rfl
 rw [← hCI] at hzI
 rw [← hCI]
 replace hCI : Hid _ := hCI
 go_enter func45, ntmps45
 go_wp2_with (first
  | go_skip
  | ((with_reducible refine qdz rfl 68 _ rfl CI rfl ?_); intro I W1 hNI hI hk1; have hIB : Hid (B ≠ I) := (by have := hNI.out; show B ≠ I; omega); replace hb := hb.next hk1; replace hk := btz hk hk1))
 have hB := hb
 refine PgM.region_out (S := fun W => Blk W B F 59 ∧ Blk W I CI 68 ∧ Below w.heap.size w W) hmx (⟨hB.next (Below.refl _ _).drew, hI.next (Below.refl _ _).drew, hk.trans ((Below.refl _ _).drew.mono hk.size)⟩) (fun hS0 => ?_)
 generalize W1.drew = v0 at hS0 ⊢
 refine qoz (by kernel_rfl) (fun _ _ _ _ _ h => h) hS0 [(0, none), (1, none), (2, some (.int .i64 (a : Int))), (3, none), (4, none), (5, none), (6, none), (7, some (.pointer (some ⟨B, 8 + a, none⟩))), (8, some (.int .u64 RA)), (9, none)] (l' := #[tt, tt, tt, tt, tt, tt, tt, tt, tt, tt]) (a' := { tmps := #[.pointer (some ⟨B, 0, none⟩), .agg CI, undef, .pointer (some ⟨I, 0, none⟩), .int .i64 0, .int .u64 RA, .pointer (some ⟨B, 0, none⟩), .pointer (some ⟨I, 1, none⟩), .int .i64 (a : Int), .pointer (some ⟨B, 0, none⟩), .pointer (some ⟨B, 0, none⟩), .pointer (some ⟨B, 8, none⟩), .pointer (some ⟨B, 8, none⟩), .pointer (some ⟨B, 8 + a, none⟩), .int .u64 RA, ud, ud, ud, ud, ud, ud, ud, ud, ud, ud, ud, ud, ud, ud, ud, ud, ud, ud, ud, ud, ud, ud, ud, ud, ud, ud, ud, ud, ud, ud, ud, ud, ud, ud, ud, ud, ud, ud, ud, ud, ud, ud, ud, ud, ud, ud, ud, ud, ud, ud, ud, ud, ud, ud, ud, ud, ud, ud, ud, ud, ud, ud, ud, ud, ud, ud, ud, ud, ud, ud, ud, ud, ud, ud, ud, ud, ud, ud, ud, ud, ud, ud, ud, ud, ud, ud, ud, ud, ud, ud, ud, ud, ud, ud, ud, ud, ud, ud, ud, ud, ud, ud, ud, ud, ud, ud, ud, ud, ud, ud, ud, ud, ud, ud, undef], defers := [] }) (obs := [.load 3 I 1 (.int .i64 (a : Int)), .ia 37 (.pointer (some ⟨B, 8, none⟩)) (.int .i64 (a : Int)) (.pointer (some ⟨B, 8 + a, none⟩)), .load 22 B (8 + a) (.int .u64 RA)]) (n := 0) (by kernel_rfl) (by kernel_rfl) ⟨qgz (fun W hS => hS.2.1) c1 ga3, fun W hS => qFz ha16 W, qgz (fun W hS => hS.1) hra ga2, trivial⟩ ?_
 refine wpAnyH_done (by kernel_rfl) ?_ _
 have hB1 := hS0.1
 have hI1 := hS0.2.1
 have hk1 := hS0.2.2
 go_wp2_with (first
  | go_skip
  | (with_reducible refine qaz (by kernel_rfl) _ _ rfl I _ rfl _ _ hI1 _ c0 (by assumption) ?_)
  | (with_reducible refine qaz (by kernel_rfl) _ _ rfl I _ rfl _ _ hI1 _ c1 (by assumption) ?_)
  | (with_reducible refine qaz (by kernel_rfl) _ _ rfl I _ rfl _ _ hI1 _ c4 (by assumption) ?_)
  | (with_reducible refine qfz rfl _ _ rfl I rfl _ hI1 _ underlying68 rfl hzI ?_)
)
 have hB := hB1
 have hI := hI1
 have hk := hk1
 refine wrz (S := fun W => Blk W B F 59 ∧ Blk W I CI 68 ∧ Below w.heap.size w W) 12 hmx (⟨hB.next (Below.refl _ _).drew, hI.next (Below.refl _ _).drew, hk.trans ((Below.refl _ _).drew.mono hk.size)⟩) (fun hS5 => ?_)
 generalize v0.drew = v5 at hS5 ⊢
 refine qPz (by kernel_rfl) (fun _ _ _ _ _ h => h) hS5 [(0, none, []), (1, none, [2]), (2, some (.int .i64 (a : Int)), []), (3, none, [6, 7, 8, 9, 10, 11]), (4, none, [5, 10, 11]), (5, some (.int .i64 (b : Int)), [10, 11]), (6, none, [7, 8, 9, 10, 11]), (7, none, [8, 9, 10, 11]), (8, none, [9, 10, 11]), (9, none, [10, 11]), (10, some (.pointer (some ⟨B, 8 + b, none⟩)), [11]), (11, some (.int .u64 (x.th.regs.getD b 0)), [])] (l' := #[tt, tt, tt, tt, tt, tt, tt, tt, tt, tt, tt, tt, ff]) (a' := { tmps := #[.pointer (some ⟨B, 0, none⟩), .agg CI, undef, .pointer (some ⟨I, 0, none⟩), .int .i64 0, .int .u64 RA, .pointer (some ⟨B, 0, none⟩), .pointer (some ⟨I, 1, none⟩), .int .i64 (a : Int), .pointer (some ⟨B, 0, none⟩), .pointer (some ⟨B, 0, none⟩), .pointer (some ⟨B, 8, none⟩), .pointer (some ⟨B, 8, none⟩), .pointer (some ⟨B, 8 + a, none⟩), .int .u64 RA, .pointer (some ⟨I, 0, none⟩), .int .i64 3, ud, ud, undef, .bool false, .bool false, ud, ud, ud, ud, undef, .bool false, .bool false, ud, ud, ud, ud, ud, ud, undef, .bool false, .bool false, ud, ud, ud, ud, ud, ud, ud, undef, .bool true, .bool true, .pointer (some ⟨B, 0, none⟩), .pointer (some ⟨I, 1, none⟩), .int .i64 (a : Int), .pointer (some ⟨B, 0, none⟩), .pointer (some ⟨I, 2, none⟩), .int .i64 (b : Int), .pointer (some ⟨B, 0, none⟩), .pointer (some ⟨B, 0, none⟩), .pointer (some ⟨B, 8, none⟩), .pointer (some ⟨B, 8, none⟩), .pointer (some ⟨B, 8 + b, none⟩), .int .u64 (x.th.regs.getD b 0), ud, ud, ud, ud, ud, ud, ud, ud, ud, ud, ud, ud, ud, ud, ud, ud, ud, ud, ud, ud, ud, ud, ud, ud, ud, ud, ud, ud, ud, ud, ud, ud, ud, ud, ud, ud, ud, ud, ud, ud, ud, ud, ud, ud, ud, ud, ud, ud, ud, ud, ud, ud, ud, ud, ud, ud, ud, ud, ud, ud, ud, ud, ud, ud, ud, ud, ud, ud, ud, undef], defers := [] }) (obs := [.load 3 I 1 (.int .i64 (a : Int)), .load 3 I 2 (.int .i64 (b : Int)), .ia 37 (.pointer (some ⟨B, 8, none⟩)) (.int .i64 (b : Int)) (.pointer (some ⟨B, 8 + b, none⟩)), .load 22 B (8 + b) (.int .u64 (x.th.regs.getD b 0))]) (n := 1) (by kernel_rfl) (by kernel_rfl) ⟨qgz (fun W hS => hS.2.1) c1 ga3, qgz (fun W hS => hS.2.1) c2 ga3, fun W hS => qFz hb16 W, qgz (fun W hS => hS.1) hrb ga2, trivial⟩ ?_
 refine qtz (i := 12) (n := 0) rfl (by kernel_rfl) ?_
 refine qpz (f := 67) (vs := [.pointer (some ⟨B, 0, none⟩), .int .i64 (a : Int), .int .u64 (x.th.regs.getD b 0)]) (d := some 60) (by kernel_rfl) call67 (ytz (h.next hS5.2.2) ha16) ?_
 rintro e w51 ⟨rfl, F3, hP3, q3⟩
 have hz5 := (Ot.of hS5.2.2 hBl).trans q3
 refine ⟨_, rfl, (fun q => absurd rfl q), ?_⟩
 refine q1z (by kernel_rfl) ?_ _
 go_wp2
 go_ret
 refine ⟨rfl, F3, ?_, hz5⟩
 exact hP3
theorem do_14 (h : Pz Z w B F x t ke ro ao n cap X) (ha16 : a < 16) (hb16 : b < 16) (hc16 : c < 16) (hw : WdT x.th) : Calls prog 45 #[.pointer (some ⟨B, 0, none⟩), .agg #[.int .i64 14, .int .i64 (a : Int), .int .i64 (b : Int), .int .i64 (c : Int), .int .i32 i]] w fun e w' => e = .returned (.int .i64 (-1)) ∧ ∃ F', Pz Z w' B F' { x with th := plT 14 (a : Int) (b : Int) (c : Int) i x.th } t ke ro ao n cap X ∧ Ot B w w' := by
 have hmx : prog.follows .mixedOrders = true := by kernel_rfl
 have ga2 := isAgg22
 have ga3 := isAgg3
 have ga4 := isAgg21
 have hb := h.blk
 have hz := h.size
 have hBl := h.blk.lt
 have hk := Below.refl w.heap.size w
 have hra := h.reg ha16
 have hrb := h.reg hb16
 obtain ⟨RA, hRA⟩ : ∃ RA : Int, Hid (x.th.regs.getD a 0 = RA) := ⟨_, rfl⟩
 rw [hRA.out] at hra
 have hzI : (prog.info? 68).map (·.size) = some (#[.int .i64 14, .int .i64 (a : Int), .int .i64 (b : Int), .int .i64 (c : Int), .int .i32 i] : Array Value).size := wkz _ _ _ _ _
 obtain ⟨CI, hCI⟩ : ∃ CI : Array Value, CI = #[.int .i64 14, .int .i64 (a : Int), .int .i64 (b : Int), .int .i64 (c : Int), .int .i32 i] := ⟨_, rfl⟩
 have c0 : CI[0]? = some (.int .i64 14) := by rw [hCI]; rfl
 have c1 : CI[1]? = some (.int .i64 (a : Int)) := by rw [hCI]; rfl
 have c4 : CI[4]? = some (.int .i32 i) := by rw [hCI]; rfl
 have c2 : CI[2]? = some (.int .i64 (b : Int)) := by rw [hCI]; rfl
 rw [← hCI] at hzI
 rw [← hCI]
 replace hCI : Hid _ := hCI
 go_enter func45, ntmps45
 go_wp2_with (first
  | go_skip
  | ((with_reducible refine qdz rfl 68 _ rfl CI rfl ?_); intro I W1 hNI hI hk1; have hIB : Hid (B ≠ I) := (by have := hNI.out; show B ≠ I; omega); replace hb := hb.next hk1; replace hk := btz hk hk1))
 have hB := hb
 refine PgM.region_out (S := fun W => Blk W B F 59 ∧ Blk W I CI 68 ∧ Below w.heap.size w W) hmx (⟨hB.next (Below.refl _ _).drew, hI.next (Below.refl _ _).drew, hk.trans ((Below.refl _ _).drew.mono hk.size)⟩) (fun hS0 => ?_)
 generalize W1.drew = v0 at hS0 ⊢
 refine qoz (by kernel_rfl) (fun _ _ _ _ _ h => h) hS0 [(0, none), (1, none), (2, some (.int .i64 (a : Int))), (3, none), (4, none), (5, none), (6, none), (7, some (.pointer (some ⟨B, 8 + a, none⟩))), (8, some (.int .u64 RA)), (9, none)] (l' := #[tt, tt, tt, tt, tt, tt, tt, tt, tt, tt]) (a' := { tmps := #[.pointer (some ⟨B, 0, none⟩), .agg CI, undef, .pointer (some ⟨I, 0, none⟩), .int .i64 0, .int .u64 RA, .pointer (some ⟨B, 0, none⟩), .pointer (some ⟨I, 1, none⟩), .int .i64 (a : Int), .pointer (some ⟨B, 0, none⟩), .pointer (some ⟨B, 0, none⟩), .pointer (some ⟨B, 8, none⟩), .pointer (some ⟨B, 8, none⟩), .pointer (some ⟨B, 8 + a, none⟩), .int .u64 RA, ud, ud, ud, ud, ud, ud, ud, ud, ud, ud, ud, ud, ud, ud, ud, ud, ud, ud, ud, ud, ud, ud, ud, ud, ud, ud, ud, ud, ud, ud, ud, ud, ud, ud, ud, ud, ud, ud, ud, ud, ud, ud, ud, ud, ud, ud, ud, ud, ud, ud, ud, ud, ud, ud, ud, ud, ud, ud, ud, ud, ud, ud, ud, ud, ud, ud, ud, ud, ud, ud, ud, ud, ud, ud, ud, ud, ud, ud, ud, ud, ud, ud, ud, ud, ud, ud, ud, ud, ud, ud, ud, ud, ud, ud, ud, ud, ud, ud, ud, ud, ud, ud, ud, ud, ud, ud, ud, ud, ud, ud, ud, ud, ud, ud, undef], defers := [] }) (obs := [.load 3 I 1 (.int .i64 (a : Int)), .ia 37 (.pointer (some ⟨B, 8, none⟩)) (.int .i64 (a : Int)) (.pointer (some ⟨B, 8 + a, none⟩)), .load 22 B (8 + a) (.int .u64 RA)]) (n := 0) (by kernel_rfl) (by kernel_rfl) ⟨qgz (fun W hS => hS.2.1) c1 ga3, fun W hS => qFz ha16 W, qgz (fun W hS => hS.1) hra ga2, trivial⟩ ?_
 refine wpAnyH_done (by kernel_rfl) ?_ _
 have hB1 := hS0.1
 have hI1 := hS0.2.1
 have hk1 := hS0.2.2
 go_wp2_with (first
  | go_skip
  | (with_reducible refine qaz (by kernel_rfl) _ _ rfl I _ rfl _ _ hI1 _ c0 (by assumption) ?_)
  | (with_reducible refine qaz (by kernel_rfl) _ _ rfl I _ rfl _ _ hI1 _ c1 (by assumption) ?_)
  | (with_reducible refine qaz (by kernel_rfl) _ _ rfl I _ rfl _ _ hI1 _ c4 (by assumption) ?_)
  | (with_reducible refine qfz rfl _ _ rfl I rfl _ hI1 _ underlying68 rfl hzI ?_)
)
 have hB := hB1
 have hI := hI1
 have hk := hk1
 refine wrz (S := fun W => Blk W B F 59 ∧ Blk W I CI 68 ∧ Below w.heap.size w W) 6 hmx (⟨hB.next (Below.refl _ _).drew, hI.next (Below.refl _ _).drew, hk.trans ((Below.refl _ _).drew.mono hk.size)⟩) (fun hS5 => ?_)
 generalize v0.drew = v5 at hS5 ⊢
 refine qPz (by kernel_rfl) (fun _ _ _ _ _ h => h) hS5 [(0, none, []), (1, none, [2]), (2, some (.int .i64 (a : Int)), []), (3, none, [5]), (4, some (.agg CI), [5])] (l' := #[tt, tt, tt, tt, tt, ff, ff]) (a' := { tmps := #[.pointer (some ⟨B, 0, none⟩), .agg CI, undef, .pointer (some ⟨I, 0, none⟩), .int .i64 0, .int .u64 RA, .pointer (some ⟨B, 0, none⟩), .pointer (some ⟨I, 1, none⟩), .int .i64 (a : Int), .pointer (some ⟨B, 0, none⟩), .pointer (some ⟨B, 0, none⟩), .pointer (some ⟨B, 8, none⟩), .pointer (some ⟨B, 8, none⟩), .pointer (some ⟨B, 8 + a, none⟩), .int .u64 RA, .pointer (some ⟨I, 0, none⟩), .int .i64 14, ud, ud, undef, .bool false, .bool false, ud, ud, ud, ud, undef, .bool false, .bool false, ud, ud, ud, ud, ud, ud, undef, .bool false, .bool false, ud, ud, ud, ud, ud, ud, ud, undef, .bool false, .bool false, ud, ud, ud, ud, ud, ud, ud, ud, ud, ud, ud, ud, undef, .bool true, .bool true, .pointer (some ⟨B, 0, none⟩), .pointer (some ⟨I, 1, none⟩), .int .i64 (a : Int), .pointer (some ⟨B, 0, none⟩), .agg CI, ud, ud, ud, ud, ud, ud, ud, ud, ud, ud, ud, ud, ud, ud, ud, ud, ud, ud, ud, ud, ud, ud, ud, ud, ud, ud, ud, ud, ud, ud, ud, ud, ud, ud, ud, ud, ud, ud, ud, ud, ud, ud, ud, ud, ud, ud, ud, ud, ud, ud, ud, ud, ud, ud, ud, ud, ud, ud, ud, ud, ud, undef], defers := [] }) (obs := [.load 3 I 1 (.int .i64 (a : Int)), .load 68 I 0 (.agg CI)]) (n := 2) (by kernel_rfl) (by kernel_rfl) ⟨qgz (fun W hS => hS.2.1) c1 ga3, qTz (fun W hS => hS.2.1) underlying68 rfl hzI, trivial⟩ ?_
 have hsm := y8z (op := 14) (a := a) (c := c) (i := i) (h.next hS5.2.2) hb16
 rw [← hCI.out] at hsm
 refine qtz (i := 5) (n := 1) rfl (by kernel_rfl) ?_
 refine qpz (f := 70) (vs := [.pointer (some ⟨B, 0, none⟩), .agg CI]) (d := some 68) (by kernel_rfl) call70 (hsm) ?_
 rintro e w51 ⟨rfl, hb6⟩
 have hS51 : Blk w51 B F 59 ∧ Blk w51 I CI 68 ∧ Below w.heap.size w w51 := ⟨hS5.1.next hb6, hS5.2.1.next hb6, hS5.2.2.trans (hb6.mono hS5.2.2.size)⟩
 refine ⟨_, rfl, fun _ => hS51, ?_⟩
 refine qtz (i := 6) (n := 0) rfl (by kernel_rfl) ?_
 refine qpz (f := 67) (vs := [.pointer (some ⟨B, 0, none⟩), .int .i64 (a : Int), .int .u64 (smI x.th (b : Int) i)]) (d := some 69) (by kernel_rfl) call67 (ytz (h.next hS51.2.2) ha16) ?_
 rintro e w52 ⟨rfl, F3, hP3, q3⟩
 have hz5 := (Ot.of hS51.2.2 hBl).trans q3
 refine ⟨_, rfl, (fun q => absurd rfl q), ?_⟩
 refine q1z (by kernel_rfl) ?_ _
 go_wp2
 go_ret
 refine ⟨rfl, F3, ?_, hz5⟩
 exact hP3
theorem do_23y (h : Pz Z w B F x t ke ro ao n cap X) (ha16 : a < 16) (hb16 : b < 16) (hc16 : c < 16) (hw : WdT x.th) (hg : Gx X n x) (hE : wkE X x (smI x.th (b : Int) i) = 0) : Calls prog 45 #[.pointer (some ⟨B, 0, none⟩), .agg #[.int .i64 23, .int .i64 (a : Int), .int .i64 (b : Int), .int .i64 (c : Int), .int .i32 i]] w fun e w' => e = .returned (.int .i64 (-1)) ∧ ∃ F', Pz Z w' B F' { x with th := seI x.th (a : Int) (ldV X x (smI x.th (b : Int) i)) } t ke ro ao n cap X ∧ Ot B w w' := by
 have hmx : prog.follows .mixedOrders = true := by kernel_rfl
 have ga2 := isAgg22
 have ga3 := isAgg3
 have ga4 := isAgg21
 have hb := h.blk
 have hz := h.size
 have hBl := h.blk.lt
 have hk := Below.refl w.heap.size w
 have hra := h.reg ha16
 have hrb := h.reg hb16
 obtain ⟨RA, hRA⟩ : ∃ RA : Int, Hid (x.th.regs.getD a 0 = RA) := ⟨_, rfl⟩
 rw [hRA.out] at hra
 have hzI : (prog.info? 68).map (·.size) = some (#[.int .i64 23, .int .i64 (a : Int), .int .i64 (b : Int), .int .i64 (c : Int), .int .i32 i] : Array Value).size := wkz _ _ _ _ _
 obtain ⟨CI, hCI⟩ : ∃ CI : Array Value, CI = #[.int .i64 23, .int .i64 (a : Int), .int .i64 (b : Int), .int .i64 (c : Int), .int .i32 i] := ⟨_, rfl⟩
 have c0 : CI[0]? = some (.int .i64 23) := by rw [hCI]; rfl
 have c1 : CI[1]? = some (.int .i64 (a : Int)) := by rw [hCI]; rfl
 have c4 : CI[4]? = some (.int .i32 i) := by rw [hCI]; rfl
 have c2 : CI[2]? = some (.int .i64 (b : Int)) := by rw [hCI]; rfl
 rw [← hCI] at hzI
 rw [← hCI]
 replace hCI : Hid _ := hCI
 have hsw : 0 ≤ smI x.th (b : Int) i ∧ smI x.th (b : Int) i ≤ 18446744073709551615 := by unfold smI; omega
 go_enter func45, ntmps45
 go_wp2_with (first
  | go_skip
  | ((with_reducible refine qdz rfl 68 _ rfl CI rfl ?_); intro I W1 hNI hI hk1; have hIB : Hid (B ≠ I) := (by have := hNI.out; show B ≠ I; omega); replace hb := hb.next hk1; replace hk := btz hk hk1))
 have hB := hb
 refine PgM.region_out (S := fun W => Blk W B F 59 ∧ Blk W I CI 68 ∧ Below w.heap.size w W) hmx (⟨hB.next (Below.refl _ _).drew, hI.next (Below.refl _ _).drew, hk.trans ((Below.refl _ _).drew.mono hk.size)⟩) (fun hS0 => ?_)
 generalize W1.drew = v0 at hS0 ⊢
 refine qoz (by kernel_rfl) (fun _ _ _ _ _ h => h) hS0 [(0, none), (1, none), (2, some (.int .i64 (a : Int))), (3, none), (4, none), (5, none), (6, none), (7, some (.pointer (some ⟨B, 8 + a, none⟩))), (8, some (.int .u64 RA)), (9, none)] (l' := #[tt, tt, tt, tt, tt, tt, tt, tt, tt, tt]) (a' := { tmps := #[.pointer (some ⟨B, 0, none⟩), .agg CI, undef, .pointer (some ⟨I, 0, none⟩), .int .i64 0, .int .u64 RA, .pointer (some ⟨B, 0, none⟩), .pointer (some ⟨I, 1, none⟩), .int .i64 (a : Int), .pointer (some ⟨B, 0, none⟩), .pointer (some ⟨B, 0, none⟩), .pointer (some ⟨B, 8, none⟩), .pointer (some ⟨B, 8, none⟩), .pointer (some ⟨B, 8 + a, none⟩), .int .u64 RA, ud, ud, ud, ud, ud, ud, ud, ud, ud, ud, ud, ud, ud, ud, ud, ud, ud, ud, ud, ud, ud, ud, ud, ud, ud, ud, ud, ud, ud, ud, ud, ud, ud, ud, ud, ud, ud, ud, ud, ud, ud, ud, ud, ud, ud, ud, ud, ud, ud, ud, ud, ud, ud, ud, ud, ud, ud, ud, ud, ud, ud, ud, ud, ud, ud, ud, ud, ud, ud, ud, ud, ud, ud, ud, ud, ud, ud, ud, ud, ud, ud, ud, ud, ud, ud, ud, ud, ud, ud, ud, ud, ud, ud, ud, ud, ud, ud, ud, ud, ud, ud, ud, ud, ud, ud, ud, ud, ud, ud, ud, ud, ud, ud, ud, undef], defers := [] }) (obs := [.load 3 I 1 (.int .i64 (a : Int)), .ia 37 (.pointer (some ⟨B, 8, none⟩)) (.int .i64 (a : Int)) (.pointer (some ⟨B, 8 + a, none⟩)), .load 22 B (8 + a) (.int .u64 RA)]) (n := 0) (by kernel_rfl) (by kernel_rfl) ⟨qgz (fun W hS => hS.2.1) c1 ga3, fun W hS => qFz ha16 W, qgz (fun W hS => hS.1) hra ga2, trivial⟩ ?_
 refine wpAnyH_done (by kernel_rfl) ?_ _
 have hB1 := hS0.1
 have hI1 := hS0.2.1
 have hk1 := hS0.2.2
 go_wp2_with (first
  | go_skip
  | (with_reducible refine qaz (by kernel_rfl) _ _ rfl I _ rfl _ _ hI1 _ c0 (by assumption) ?_)
  | (with_reducible refine qaz (by kernel_rfl) _ _ rfl I _ rfl _ _ hI1 _ c1 (by assumption) ?_)
  | (with_reducible refine qaz (by kernel_rfl) _ _ rfl I _ rfl _ _ hI1 _ c4 (by assumption) ?_)
  | (with_reducible refine qfz rfl _ _ rfl I rfl _ hI1 _ underlying68 rfl hzI ?_)
)
 have hB := hB1
 have hI := hI1
 have hk := hk1
 refine wrz (S := fun W => Blk W B F 59 ∧ Blk W I CI 68 ∧ Below w.heap.size w W) 8 hmx (⟨hB.next (Below.refl _ _).drew, hI.next (Below.refl _ _).drew, hk.trans ((Below.refl _ _).drew.mono hk.size)⟩) (fun hS5 => ?_)
 generalize v0.drew = v5 at hS5 ⊢
 refine qPz (by kernel_rfl) (fun _ _ _ _ _ h => h) hS5 [(0, none, []), (1, none, [2]), (2, some (.int .i64 (a : Int)), []), (3, none, [7]), (4, none, [6, 7]), (5, some (.agg CI), [6, 7])] (l' := #[tt, tt, tt, tt, tt, tt, ff, ff, ff]) (a' := { tmps := #[.pointer (some ⟨B, 0, none⟩), .agg CI, undef, .pointer (some ⟨I, 0, none⟩), .int .i64 0, .int .u64 RA, .pointer (some ⟨B, 0, none⟩), .pointer (some ⟨I, 1, none⟩), .int .i64 (a : Int), .pointer (some ⟨B, 0, none⟩), .pointer (some ⟨B, 0, none⟩), .pointer (some ⟨B, 8, none⟩), .pointer (some ⟨B, 8, none⟩), .pointer (some ⟨B, 8 + a, none⟩), .int .u64 RA, .pointer (some ⟨I, 0, none⟩), .int .i64 23, ud, ud, undef, .bool false, .bool false, ud, ud, ud, ud, undef, .bool false, .bool false, ud, ud, ud, ud, ud, ud, undef, .bool false, .bool false, ud, ud, ud, ud, ud, ud, ud, undef, .bool false, .bool false, ud, ud, ud, ud, ud, ud, ud, ud, ud, ud, ud, ud, undef, .bool false, .bool false, ud, ud, ud, ud, ud, ud, undef, .bool false, .bool false, ud, ud, ud, undef, .bool false, .bool false, ud, ud, ud, ud, ud, undef, .bool false, .bool false, ud, ud, ud, ud, ud, undef, .bool false, .bool false, ud, ud, undef, .bool false, .bool false, ud, ud, ud, ud, ud, undef, .bool true, .bool true, .pointer (some ⟨B, 0, none⟩), .pointer (some ⟨I, 1, none⟩), .int .i64 (a : Int), .pointer (some ⟨B, 0, none⟩), .pointer (some ⟨B, 0, none⟩), .agg CI, ud, ud, ud, ud, ud, ud, ud, ud, ud, ud, ud, ud, ud, ud, ud, ud, undef], defers := [] }) (obs := [.load 3 I 1 (.int .i64 (a : Int)), .load 68 I 0 (.agg CI)]) (n := 3) (by kernel_rfl) (by kernel_rfl) ⟨qgz (fun W hS => hS.2.1) c1 ga3, qTz (fun W hS => hS.2.1) underlying68 rfl hzI, trivial⟩ ?_
 have hsm := y8z (op := 23) (a := a) (c := c) (i := i) (h.next hS5.2.2) hb16
 rw [← hCI.out] at hsm
 refine qtz (i := 6) (n := 2) rfl (by kernel_rfl) ?_
 refine qpz (f := 70) (vs := [.pointer (some ⟨B, 0, none⟩), .agg CI]) (d := some 113) (by kernel_rfl) call70 (hsm) ?_
 rintro e w51 ⟨rfl, hb6⟩
 have hS51 : Blk w51 B F 59 ∧ Blk w51 I CI 68 ∧ Below w.heap.size w w51 := ⟨hS5.1.next hb6, hS5.2.1.next hb6, hS5.2.2.trans (hb6.mono hS5.2.2.size)⟩
 refine ⟨_, rfl, fun _ => hS51, ?_⟩
 refine qtz (i := 7) (n := 1) rfl (by kernel_rfl) ?_
 refine qpz (f := 74) (vs := [.pointer (some ⟨B, 0, none⟩), .int .u64 (smI x.th (b : Int) i), .int .u64 3]) (d := some 114) (by kernel_rfl) call74 (yYz (h.next hS51.2.2) hg hsw hE) ?_
 rintro e w52 ⟨rfl, hb7⟩
 have hS52 : Blk w52 B F 59 ∧ Blk w52 I CI 68 ∧ Below w.heap.size w w52 := ⟨hS51.1.next hb7, hS51.2.1.next hb7, hS51.2.2.trans (hb7.mono hS51.2.2.size)⟩
 refine ⟨_, rfl, fun _ => hS52, ?_⟩
 refine qtz (i := 8) (n := 0) rfl (by kernel_rfl) ?_
 refine qpz (f := 67) (vs := [.pointer (some ⟨B, 0, none⟩), .int .i64 (a : Int), .int .u64 (ldV X x (smI x.th (b : Int) i))]) (d := some 115) (by kernel_rfl) call67 (ytz (h.next hS52.2.2) ha16) ?_
 rintro e w53 ⟨rfl, F3, hP3, q3⟩
 have hz5 := (Ot.of hS52.2.2 hBl).trans q3
 refine ⟨_, rfl, (fun q => absurd rfl q), ?_⟩
 refine q1z (by kernel_rfl) ?_ _
 go_wp2
 go_ret
 refine ⟨rfl, F3, ?_, hz5⟩
 exact hP3
theorem do_23n (h : Pz Z w B F x t ke ro ao n cap X) (ha16 : a < 16) (hb16 : b < 16) (hc16 : c < 16) (hw : WdT x.th) (hg : Gx X n x) (hE : wkE X x (smI x.th (b : Int) i) ≠ 0) : Calls prog 45 #[.pointer (some ⟨B, 0, none⟩), .agg #[.int .i64 23, .int .i64 (a : Int), .int .i64 (b : Int), .int .i64 (c : Int), .int .i32 i]] w fun e w' => e = .panicked (thrF 3) ∧ Below w.heap.size w w' := by
 have hmx : prog.follows .mixedOrders = true := by kernel_rfl
 have ga2 := isAgg22
 have ga3 := isAgg3
 have ga4 := isAgg21
 have hb := h.blk
 have hz := h.size
 have hBl := h.blk.lt
 have hk := Below.refl w.heap.size w
 have hra := h.reg ha16
 have hrb := h.reg hb16
 obtain ⟨RA, hRA⟩ : ∃ RA : Int, Hid (x.th.regs.getD a 0 = RA) := ⟨_, rfl⟩
 rw [hRA.out] at hra
 have hzI : (prog.info? 68).map (·.size) = some (#[.int .i64 23, .int .i64 (a : Int), .int .i64 (b : Int), .int .i64 (c : Int), .int .i32 i] : Array Value).size := wkz _ _ _ _ _
 obtain ⟨CI, hCI⟩ : ∃ CI : Array Value, CI = #[.int .i64 23, .int .i64 (a : Int), .int .i64 (b : Int), .int .i64 (c : Int), .int .i32 i] := ⟨_, rfl⟩
 have c0 : CI[0]? = some (.int .i64 23) := by rw [hCI]; rfl
 have c1 : CI[1]? = some (.int .i64 (a : Int)) := by rw [hCI]; rfl
 have c4 : CI[4]? = some (.int .i32 i) := by rw [hCI]; rfl
 have c2 : CI[2]? = some (.int .i64 (b : Int)) := by rw [hCI]; rfl
 rw [← hCI] at hzI
 rw [← hCI]
 replace hCI : Hid _ := hCI
 have hsw : 0 ≤ smI x.th (b : Int) i ∧ smI x.th (b : Int) i ≤ 18446744073709551615 := by unfold smI; omega
 go_enter func45, ntmps45
 go_wp2_with (first
  | go_skip
  | ((with_reducible refine qdz rfl 68 _ rfl CI rfl ?_); intro I W1 hNI hI hk1; have hIB : Hid (B ≠ I) := (by have := hNI.out; show B ≠ I; omega); replace hb := hb.next hk1; replace hk := btz hk hk1))
 have hB := hb
 refine PgM.region_out (S := fun W => Blk W B F 59 ∧ Blk W I CI 68 ∧ Below w.heap.size w W) hmx (⟨hB.next (Below.refl _ _).drew, hI.next (Below.refl _ _).drew, hk.trans ((Below.refl _ _).drew.mono hk.size)⟩) (fun hS0 => ?_)
 generalize W1.drew = v0 at hS0 ⊢
 refine qoz (by kernel_rfl) (fun _ _ _ _ _ h => h) hS0 [(0, none), (1, none), (2, some (.int .i64 (a : Int))), (3, none), (4, none), (5, none), (6, none), (7, some (.pointer (some ⟨B, 8 + a, none⟩))), (8, some (.int .u64 RA)), (9, none)] (l' := #[tt, tt, tt, tt, tt, tt, tt, tt, tt, tt]) (a' := { tmps := #[.pointer (some ⟨B, 0, none⟩), .agg CI, undef, .pointer (some ⟨I, 0, none⟩), .int .i64 0, .int .u64 RA, .pointer (some ⟨B, 0, none⟩), .pointer (some ⟨I, 1, none⟩), .int .i64 (a : Int), .pointer (some ⟨B, 0, none⟩), .pointer (some ⟨B, 0, none⟩), .pointer (some ⟨B, 8, none⟩), .pointer (some ⟨B, 8, none⟩), .pointer (some ⟨B, 8 + a, none⟩), .int .u64 RA, ud, ud, ud, ud, ud, ud, ud, ud, ud, ud, ud, ud, ud, ud, ud, ud, ud, ud, ud, ud, ud, ud, ud, ud, ud, ud, ud, ud, ud, ud, ud, ud, ud, ud, ud, ud, ud, ud, ud, ud, ud, ud, ud, ud, ud, ud, ud, ud, ud, ud, ud, ud, ud, ud, ud, ud, ud, ud, ud, ud, ud, ud, ud, ud, ud, ud, ud, ud, ud, ud, ud, ud, ud, ud, ud, ud, ud, ud, ud, ud, ud, ud, ud, ud, ud, ud, ud, ud, ud, ud, ud, ud, ud, ud, ud, ud, ud, ud, ud, ud, ud, ud, ud, ud, ud, ud, ud, ud, ud, ud, ud, ud, ud, ud, undef], defers := [] }) (obs := [.load 3 I 1 (.int .i64 (a : Int)), .ia 37 (.pointer (some ⟨B, 8, none⟩)) (.int .i64 (a : Int)) (.pointer (some ⟨B, 8 + a, none⟩)), .load 22 B (8 + a) (.int .u64 RA)]) (n := 0) (by kernel_rfl) (by kernel_rfl) ⟨qgz (fun W hS => hS.2.1) c1 ga3, fun W hS => qFz ha16 W, qgz (fun W hS => hS.1) hra ga2, trivial⟩ ?_
 refine wpAnyH_done (by kernel_rfl) ?_ _
 have hB1 := hS0.1
 have hI1 := hS0.2.1
 have hk1 := hS0.2.2
 go_wp2_with (first
  | go_skip
  | (with_reducible refine qaz (by kernel_rfl) _ _ rfl I _ rfl _ _ hI1 _ c0 (by assumption) ?_)
  | (with_reducible refine qaz (by kernel_rfl) _ _ rfl I _ rfl _ _ hI1 _ c1 (by assumption) ?_)
  | (with_reducible refine qaz (by kernel_rfl) _ _ rfl I _ rfl _ _ hI1 _ c4 (by assumption) ?_)
  | (with_reducible refine qfz rfl _ _ rfl I rfl _ hI1 _ underlying68 rfl hzI ?_)
)
 have hB := hB1
 have hI := hI1
 have hk := hk1
 refine wrz (S := fun W => Blk W B F 59 ∧ Blk W I CI 68 ∧ Below w.heap.size w W) 8 hmx (⟨hB.next (Below.refl _ _).drew, hI.next (Below.refl _ _).drew, hk.trans ((Below.refl _ _).drew.mono hk.size)⟩) (fun hS5 => ?_)
 generalize v0.drew = v5 at hS5 ⊢
 refine qPz (by kernel_rfl) (fun _ _ _ _ _ h => h) hS5 [(0, none, []), (1, none, [2]), (2, some (.int .i64 (a : Int)), []), (3, none, [7]), (4, none, [6, 7]), (5, some (.agg CI), [6, 7])] (l' := #[tt, tt, tt, tt, tt, tt, ff, ff, ff]) (a' := { tmps := #[.pointer (some ⟨B, 0, none⟩), .agg CI, undef, .pointer (some ⟨I, 0, none⟩), .int .i64 0, .int .u64 RA, .pointer (some ⟨B, 0, none⟩), .pointer (some ⟨I, 1, none⟩), .int .i64 (a : Int), .pointer (some ⟨B, 0, none⟩), .pointer (some ⟨B, 0, none⟩), .pointer (some ⟨B, 8, none⟩), .pointer (some ⟨B, 8, none⟩), .pointer (some ⟨B, 8 + a, none⟩), .int .u64 RA, .pointer (some ⟨I, 0, none⟩), .int .i64 23, ud, ud, undef, .bool false, .bool false, ud, ud, ud, ud, undef, .bool false, .bool false, ud, ud, ud, ud, ud, ud, undef, .bool false, .bool false, ud, ud, ud, ud, ud, ud, ud, undef, .bool false, .bool false, ud, ud, ud, ud, ud, ud, ud, ud, ud, ud, ud, ud, undef, .bool false, .bool false, ud, ud, ud, ud, ud, ud, undef, .bool false, .bool false, ud, ud, ud, undef, .bool false, .bool false, ud, ud, ud, ud, ud, undef, .bool false, .bool false, ud, ud, ud, ud, ud, undef, .bool false, .bool false, ud, ud, undef, .bool false, .bool false, ud, ud, ud, ud, ud, undef, .bool true, .bool true, .pointer (some ⟨B, 0, none⟩), .pointer (some ⟨I, 1, none⟩), .int .i64 (a : Int), .pointer (some ⟨B, 0, none⟩), .pointer (some ⟨B, 0, none⟩), .agg CI, ud, ud, ud, ud, ud, ud, ud, ud, ud, ud, ud, ud, ud, ud, ud, ud, undef], defers := [] }) (obs := [.load 3 I 1 (.int .i64 (a : Int)), .load 68 I 0 (.agg CI)]) (n := 3) (by kernel_rfl) (by kernel_rfl) ⟨qgz (fun W hS => hS.2.1) c1 ga3, qTz (fun W hS => hS.2.1) underlying68 rfl hzI, trivial⟩ ?_
 have hsm := y8z (op := 23) (a := a) (c := c) (i := i) (h.next hS5.2.2) hb16
 rw [← hCI.out] at hsm
 refine qtz (i := 6) (n := 2) rfl (by kernel_rfl) ?_
 refine qpz (f := 70) (vs := [.pointer (some ⟨B, 0, none⟩), .agg CI]) (d := some 113) (by kernel_rfl) call70 (hsm) ?_
 rintro e w51 ⟨rfl, hb6⟩
 have hS51 : Blk w51 B F 59 ∧ Blk w51 I CI 68 ∧ Below w.heap.size w w51 := ⟨hS5.1.next hb6, hS5.2.1.next hb6, hS5.2.2.trans (hb6.mono hS5.2.2.size)⟩
 refine ⟨_, rfl, fun _ => hS51, ?_⟩
 refine qtz (i := 7) (n := 1) rfl (by kernel_rfl) ?_
 refine wVz (f := 74) (vs := [.pointer (some ⟨B, 0, none⟩), .int .u64 (smI x.th (b : Int) i), .int .u64 3]) (d := some 114) (by kernel_rfl) call74 (word_n (h.next hS51.2.2) hg hsw hE) ?_
 rintro e w9 ⟨rfl, hb9⟩
 refine .inr ⟨_, rfl, ?_⟩
 exact ⟨rfl, rfl, hS51.2.2.trans (hb9.mono hS51.2.2.size)⟩
end
end Go.Proofs.YtdeddhojjolihaaGreat
