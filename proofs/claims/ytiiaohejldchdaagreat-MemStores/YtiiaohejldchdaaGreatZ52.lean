/-
 PROVED HERE: what the law's awake of chapter 17 returns when it is called (a contract over this translation); what the law'. What is asked stands at each.
-/
import Derived.Test.YtiiaohejldchdaaGreatZ21
import Derived.Test.YtiiaohejldchdaaGreatZ35
import Derived.Test.YtiiaohejldchdaaGreatZ37
import Derived.Test.YtiiaohejldchdaaGreatZ40
import Derived.Test.YtiiaohejldchdaaGreatZ42
import Derived.Test.YtiiaohejldchdaaGreatZ43
import Derived.Test.YtiiaohejldchdaaGreatZ47
import Derived.Test.YtiiaohejldchdaaGreatZ51
namespace Go.Proofs.YtiiaohejldchdaaGreat
set_option maxRecDepth 100000
set_option maxHeartbeats 8000000
open Go.RowKit Go.Shelf
set_option linter.unusedVariables false
attribute [local go_sem] Oper.semAt_some

def aw1 : Ob := ⟨1, 2, [], 3, false, [], [], [], zTh, zGt, [], []⟩
theorem aw_srt : Srt [aw1] := by unfold Srt; simp
theorem aw_sml : Smalls [aw1] := fun x hx => by
 obtain rfl : x = aw1 := by simpa using hx
 exact ⟨by decide, by decide, by decide, by decide, by decide, by decide, by decide, by decide, by decide, by decide, by decide, by decide, by decide, by decide⟩
def c1v : Array Value := comC (.int .u64 1) (.int .i64 2) (.slice none 0 0) (.int .i64 3) (.bool false)
def dwv (S : Nat) : Array Value := #[.int .i64 0, .int .u64 0, .int .u64 1, .slice (some ⟨S, 0, none⟩) 1 1]
theorem blt_1 : Tryz.prog.built 43 [(0, .int .u64 1), (1, .int .i64 2), (3, .int .i64 3)] = some (c1v) := by kernel_rfl
theorem blt_w (S : Nat) : Tryz.prog.built 25 [(2, .int .u64 1), (3, .slice (some ⟨S, 0, none⟩) 1 1)] = some (dwv S) := by kernel_rfl
theorem aw1_d (D : Nat → Prop) (w : World) : ObD D w (c1v) aw1 := comC_d (LabD.nil D w)
end Go.Proofs.YtiiaohejldchdaaGreat
namespace Go.Proofs.YtiiaohejldchdaaGreat
set_option maxRecDepth 100000
set_option maxHeartbeats 8000000
open Go.RowKit Go.Shelf
set_option linter.unusedVariables false
attribute [local go_sem] Oper.semAt_some

def at9 : Ob := ⟨9, 4, [], 1, false, [], [], [], zTh, zGt, [], []⟩
def ct9 : Array Value := comC (.int .u64 9) (.int .i64 4) (.slice none 0 0) (.int .i64 1) (.bool false)
theorem blt_9 : Tryz.prog.built 43 [(0, .int .u64 9), (1, .int .i64 4), (3, .int .i64 1)] = some ct9 := by kernel_rfl
theorem at9_d (D : Nat → Prop) (w : World) : ObD D w ct9 at9 := comC_d (LabD.nil D w)
theorem aw_snd : ∀ y ∈ [aw1], soundB y = true := fun y hy => by
 obtain rfl : y = aw1 := by simpa using hy
 decide +kernel
theorem aw_k : wkE [aw1] at9 5 = 1 := by decide +kernel
theorem aw_mw {w : World} {B : Nat} (hB : Blk w B c1v 43) : Mw w (some ⟨B, 0, none⟩) 1 1 [aw1] ct9 at9 := ⟨obs_one hB (aw1_d (LtN w) w), aw_srt, by decide, aw_sml, aw_snd, at9_d _ _, by decide⟩
theorem awake18_any (w : World) : Calls Tryz.prog 9 #[] w fun e w' => e = .returned (.bool true) ∧ Below w.heap.size w w' := by
 have hz1 := (aw1_d (fun _ => True) w).size
 have ho1 := (aw1_d (fun _ => True) w).one
 have hz9 := (at9_d (fun _ => True) w).size
 have hz2 : ∀ S : Nat, (Tryz.prog.info? 25).map (·.size) = some (dwv S).size := fun S => by kernel_rfl
 have hs2 : ∀ S : Nat, zW.size = (dwv S).size := fun S => rfl
 have hn2 : ∀ S : Nat, (dwv S).all (·.oneCell') = true := fun S => by kernel_rfl
 have hld := fun (W : World) (B : Nat) (hB : Blk W B c1v 43) => load_n (t := 0) (ke := 0) (ro := 1) (a := 5) (aw_mw hB) (by decide) (by rw [aw_k]; decide)
 change ∀ (W : World) (B : Nat) (_ : Blk W B c1v 43), Calls Tryz.prog _ #[.agg (dwv B), .agg ct9, .int .u64 5] W _ at hld
 have hwk := fun (W : World) (B : Nat) (hB : Blk W B c1v 43) => walk_v (t := 0) (ke := 0) (ro := 1) (a := 5) (aw_mw hB) (by decide)
 rw [aw_k] at hwk
 unfold WkO at hwk
 change ∀ (W : World) (B : Nat) (_ : Blk W B c1v 43), Calls Tryz.prog _ #[.agg (dwv B), .agg ct9, .int .u64 5] W (fun e w' => ∃ C, e = .returned (.tuple #[.agg C, .int .u64 0, .bool false, .int .i64 1]) ∧ _ ∧ _) at hwk
 generalize wkO [aw1] at9 5 = y at hwk
 go_enter Tryz.func9, Tryz.ntmps9
 go_wp2_with (first
  | go_skip
  | ((with_reducible refine wpList_build rfl 43 [(0, .const (.int .u64 1)), (1, .const (.int .i64 2)), (3, .const (.int .i64 3))] rfl c1v ?hf ?_); (case hf => exact blt_1))
  | ((with_reducible refine wpList_build rfl 43 [(0, .const (.int .u64 9)), (1, .const (.int .i64 4)), (3, .const (.int .i64 1))] rfl ct9 ?hf ?_); (case hf => exact blt_9))
  | ((with_reducible refine wpList_bs1 rfl _ rfl c1v rfl hz1 ?_); intro S V0 hNS hS hk)
  | ((with_reducible refine wpList_build rfl 25 [(2, .const (.int .u64 1)), (3, .tmp 9)] rfl (dwv S) ?hf ?_); (case hf => exact blt_w S))
  | ((with_reducible refine wpList_alloc rfl 25 rfl zW zero43 ?_); intro B V1 hNB hBa hk1; replace hS := hS.next hk1; replace hk := hk.trans (hk1.mono hk.size); clear hk1; have nSB : Hid (S ≠ B) := (by have := hNS.out; have := hNB.out; show S ≠ B; omega))
  | ((with_reducible refine wpList_store_blk rfl _ _ _ rfl B rfl (dwv S) rfl zW hBa (hz2 _) (hs2 _) (hn2 _) ?_); intro V2 hB q2; have hBw : w.heap.size ≤ B := (by have := hNB.out; have := hNS.out; omega); replace hS := hS.other q2 nSB.out; replace hk := q2.below _ _ hBw hk; clear q2 hBa)
  | (with_reducible refine wpList_loadb (by kernel_rfl) 25 _ rfl B rfl (dwv S) hB _ Tryz.underlying25 (by kernel_rfl) (hz2 _) ?_)
  | (go_at_call 12; (with_reducible refine (hld _ S hS).mono ?_); rintro e w1 ⟨rfl, hb3⟩; replace hS := hS.next hb3; replace hB := hB.next hb3; replace hk := hk.trans (hb3.mono hk.size); clear hb3; skip)
  | (go_at_call 10; (with_reducible refine (hwk _ S hS).mono ?_); rintro e w4 ⟨CF1, rfl, oF1, hb1⟩)
  | ((with_reducible refine wpList_alloc rfl 43 rfl zC zero40 ?_); have hx := oF1; intro P1 U1 hN21 hPa1 hka1; clear hx)
  | ((with_reducible refine wpList_store_blk rfl _ _ _ rfl P1 rfl CF1 rfl zC hPa1 (size40C oF1.size) (zC_size.trans oF1.size.symm) oF1.one ?_); intro X1 hP1 q1; obtain ⟨hbz, oG1⟩ := laidF hb1 oF1 hN21 hka1 q1; have zG1 := oG1.size; clear oF1 hb1 hN21 hka1 q1 hPa1; have nw1 : Hid (w.heap.size ≤ _) := hk.size; replace hS := hS.next hbz; replace hB := hB.next hbz; replace hk := hk.trans (hbz.mono hk.size); clear hbz; skip))
 go_ret
 exact ⟨rfl, hk⟩
end Go.Proofs.YtiiaohejldchdaaGreat
namespace Go.Proofs.YtiiaohejldchdaaGreat
set_option maxRecDepth 100000
set_option maxHeartbeats 8000000
open Go.RowKit Go.Shelf
set_option linter.unusedVariables false
attribute [local go_sem] Oper.semAt_some

theorem Obs.next {w w' : World} {ao : Option Addr} {n cap : Nat} {l : List Ob} (h : Obs w ao n cap l) (k : Below w.heap.size w w') : Obs w' ao n cap l := obs_next h k
theorem laidW {W2 w3 W4 V4 : World} {P : Nat} {ao : Option Addr} {n cap : Nat} {X : List Ob} (hb3 : Below W2.heap.size W2 w3) (oW : Obs w3 ao n cap X) (hN4 : Hid (w3.heap.size = P ∧ W4.heap.size = P + 1)) (hk4 : Below w3.heap.size w3 W4) (q4 : Oth P W4 V4) : Below W2.heap.size W2 V4 ∧ Obs V4 ao n cap X := by
 have h1 := hN4.out
 have h2 := hb3.size
 have hb : Below w3.heap.size w3 V4 := q4.below _ _ (by omega) hk4
 exact ⟨hb3.trans (hb.mono h2), obs_next oW hb⟩
theorem lab_at {W : World} {C : Array Value} {y : Ob} {a : Option Addr} {n c : Nat} (o : ObD (LtN W) W C y) (e : C[2]? = some (.slice a n c)) : Lab W.heap.size W a n c y.label := by
 obtain ⟨a', n', c', e', l⟩ := o.label
 rw [e] at e'
 cases e'
 exact LabD.lab' l (Below.refl _ _)
theorem st_of {X : List Ob} {x : Ob} {a : Int} (h : wkE X x a ≠ 0) : stB X x a = false := by
 cases q : stB X x a with
 | false => rfl
 | true => exact absurd (st_zero q).1 h
theorem mw_st {W : World} {ao : Option Addr} {n cap : Nat} {Y : List Ob} {C : Array Value} {x : Ob} {t ro : Int} {key : Nat} (hf : fitD t key ro Y = true) (hl : Y.length ≤ 20) (o : Obs W ao n cap Y) (hC : ObD (LtN W) W C x) (hll : x.label.length < 1048576) : Mw W ao n cap Y C x ∧ n < 1024 ∧ ∀ y ∈ Y, y.id ≠ 0 := by
 have hT := tre_of hf
 have hn : Y.length = n := o.1
 exact ⟨⟨o, hT.srt, by omega, fun y hy => sound_small0 (hT.snd y hy), hT.snd, hC, hll⟩, by omega, fun y hy => by have := id_pos (hT.snd y hy); omega⟩
theorem u64_in {a : Int} (h : (Lit.int .u64 a).wf = true) : 0 ≤ a ∧ a ≤ 18446744073709551615 := by
 obtain ⟨n, e, hn⟩ := u64_nat h
 omega
theorem st_wd {X : List Ob} {x : Ob} {a v : Int} (hs : Srt X) (h : ∀ y ∈ X, WdO y) : ∀ y ∈ stX X x a v, WdO y := fun y hy => by
 cases q : stB X x a with
 | false => rw [st_no q] at hy; exact h y hy
 | true =>
  rw [st_map hs q] at hy
  obtain ⟨z, hz, rfl⟩ := List.mem_map.1 hy
  have k := (gSt_wo (wkO X x a).id (mpA X x a) v).kin z
  have := h z hz
  unfold WdO at this ⊢
  rw [k.id, k.lo, k.hi]
  exact this
theorem ob_lnw {S : World → Prop} {ao : Option Addr} {n cap : Nat} : Obl.holds Tryz.prog S (.ln 28 3 (.slice ao n cap) (.int .i64 n)) := fun w hS => by
 go_simp
theorem infoW4 (a b c : Int) (ao : Option Addr) (n cap : Nat) : (Tryz.prog.info? 25).map (·.size) = some (#[.int .i64 a, .int .u64 b, .int .u64 c, .slice ao n cap] : Array Value).size := by kernel_rfl
theorem zW4 (a b c : Int) (ao : Option Addr) (n cap : Nat) : zW.size = (#[.int .i64 a, .int .u64 b, .int .u64 c, .slice ao n cap] : Array Value).size := rfl
theorem oneW4 (a b c : Int) (ao : Option Addr) (n cap : Nat) : (#[.int .i64 a, .int .u64 b, .int .u64 c, .slice ao n cap] : Array Value).all (·.oneCell') = true := by kernel_rfl
end Go.Proofs.YtiiaohejldchdaaGreat
