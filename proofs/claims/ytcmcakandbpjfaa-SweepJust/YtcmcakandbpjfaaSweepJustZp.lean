/-
 PROVED HERE: what goes are those that no container is left for; all that is left lies in a container, but the root, and is as it was, but for the links of the one; a whole world stays whole, and no container has less room (SweepJust), over the landed code. No condition.
-/
import Derived.Test.YtcmcakandbpjfaaRows
import Derived.WalkKit
import Derived.ProofKit
import Derived.OpenShut
import Derived.Below
import Derived.ShutString
import Derived.Deep.QuietTactic
import Derived.Deep.DeepCutAuto
import Derived.Test.YtcmcakandbpjfaaZ7
import Derived.Test.YtcmcakandbpjfaaZ8
import Derived.Test.YtcmcakandbpjfaaZ14
import Derived.Test.YtcmcakandbpjfaaZ20
namespace Go.Proofs.Ytcmcakandbpjfaa
set_option maxRecDepth 100000
set_option maxHeartbeats 8000000
namespace sweepJust
open Go.ChangeShapes Go.WideShapes Go.ChangeAt Go.RowKit
open Go.ChangeMaps (open_string shut_string)
set_option linter.unusedVariables false

theorem own : ownKnob Try.prog.godebug = none := by kernel_rfl

theorem walk (t0 : Int) (ke0 : Nat) (ro0 : Int) (ao0 : Option Addr) (n0 cap0 : Nat) (X0 : List Ob) (a1 : Int) (a2 : Int) (w : World) (l0 : Obs w ao0 n0 cap0 X0 ∧ ∀ x ∈ X0, WdO x) (w1 : (Lit.int .u64 a1).wf = true) (w2 : (Lit.int .u64 a2).wf = true) :
  Calls Try.prog 4 #[.agg #[.int .i64 t0, .int .u64 (ke0 : Int), .int .u64 ro0, .slice ao0 n0 cap0], .int .u64 a1, .int .u64 a2] w fun e w' => e = .returned (.bool true) ∧ Below w.heap.size w w' := by
 have hmx : Try.prog.follows .mixedOrders = true := by kernel_rfl
 obtain ⟨l0, hw0⟩ := l0
 have hn : Hid (X0.length = n0) := l0.1
 have hX : Ws w #[.int .i64 t0, .int .u64 (ke0 : Int), .int .u64 ro0, .slice ao0 n0 cap0] t0 ke0 ro0 X0 := ⟨_, _, _, rfl, l0⟩
 have hzw := hX.size
 have few0 := fun (W : World) (hk : Below w.heap.size w W) => few15_any (t := t0) (key := ke0) (ro := ro0) (obs_next l0 hk) hw0
 have g3 : (#[.int .i64 t0, .int .u64 (ke0 : Int), .int .u64 ro0, .slice ao0 n0 cap0] : Array Value)[3]? = some (.slice ao0 n0 cap0) := rfl
 have g2 : (#[.int .i64 t0, .int .u64 (ke0 : Int), .int .u64 ro0, .slice ao0 n0 cap0] : Array Value)[2]? = some (.int .u64 ro0) := rfl
 have g0 : (#[.int .i64 t0, .int .u64 (ke0 : Int), .int .u64 ro0, .slice ao0 n0 cap0] : Array Value)[0]? = some (.int .i64 t0) := rfl
 obtain ⟨G, hG⟩ : ∃ G : Array Value, G = #[.int .i64 t0, .int .u64 (ke0 : Int), .int .u64 ro0, .slice ao0 n0 cap0] := ⟨_, rfl⟩
 rw [← hG] at hX hzw g3 g2 g0
 simp only [← hG] at few0
 rw [← hG]
 clear hG
 by_cases hfw : few15P t0 ke0 ro0 X0
 ·have hf := hfw.2
  have hT := tre_of hf
  have hl2 : X0.length < 1024 := by have := hfw.1.1; omega
  by_cases hin : a2 ∈ (fO X0 a1).links
  ·have hxy : Hid (¬ ((0 : Int) = 1)) := by show ¬ _; omega
   go_enter Try.func4, Try.ntmps4
   try simp only [List.append]
   go_upto_region 6 with (first
    | go_skip
    | (with_reducible refine wpList_box rfl 25 _ rfl G rfl ?_; intro B W1 hN1 hB hk; replace hX := hX.next hk)
    | (with_reducible refine wpList_loadb (by first | kernel_rfl | with_unfolding_all rfl) 25 _ rfl B rfl G hB _ Try.underlying25 (by kernel_rfl) hzw ?_)
    | (go_at_call 7; (with_reducible refine ((few0 _ hk).yes hfw).mono ?_); rintro e w3 ⟨rfl, hb8⟩; replace hB := hB.next hb8; replace hX := hX.next hb8; replace hk := hk.trans (hb8.mono hk.size); clear hb8)
    | (go_at_call 9; (with_reducible refine (unref_k hX hf hl2 hin).mono ?_); rintro e w5 ⟨V, al, m, cl, L, rfl, hGn, hV, hcL, hb8⟩; have hzV := hV.size; have hoV := hV.old; have h1V := hV.one; replace hB := hB.next hb8; replace hX := hX.next hb8; replace hk := hk.trans (hb8.mono hk.size); clear hb8)
    | ((with_reducible refine wpList_alloc rfl 25 rfl zW zero43 ?_); intro P7 W6 hN6 hP7a hk6; have hle6 := hN6.out.1)
    | ((with_reducible refine wpList_store_blk rfl _ _ _ rfl P7 rfl V rfl zW hP7a hzV hoV h1V ?_); intro V7 hP7 o7; have k7 := o7.below _ _ (Nat.le_of_eq hle6) hk6; replace hV := hV.next k7; replace hcL := ct_up hcL k7; clear hP7a hk6 o7 hN6; replace hB := hB.next k7; replace hX := hX.next k7; replace hk := hk.trans (k7.mono hk.size); clear k7))
   have hY := hGn.out
   have hfY := swp_fit hf hY
   have hwY := wd_swp (P := oneP a1 a2) (G := L) hw0
   have hTY := tre_of hfY
   have hlm : L.length = m := hcL.1
   have hall := swp_all (P := oneP a1 a2) hT.srt hY.rise hY.mem
   have hly := swp_len X0 (oneP a1 a2) L
   have jn := fun (x : Int) (hx : x ∈ L) => just_none hf hY hx
   have jw := fun (x : Int) (hx : x ∈ L) => just_was hf hY hx
   have jh := fun (o : Ob) (ho : o ∈ swpX X0 (oneP a1 a2) L) (hne : o.id ≠ ro0) => just_hold hf hY ho hne
   have jo := fun (o : Ob) (ho : o ∈ swpX X0 (oneP a1 a2) L) => mem_swp.1 ho
   have jl := fun (c : Ob) (hc : fnd X0 a1 = some c) => just_len hf hin hc
   have jr := fun (c : Ob) (hc : c ∈ X0) (hg : ¬ c.id ∈ L) => just_room hf hY hc hg
   have hri := hY.rise
   obtain ⟨hv0, hv2, aoY, nY, capY, hv3, hOY⟩ := hV.cells
   have hnY : Hid ((swpX X0 (oneP a1 a2) L).length = nY) := hOY.1
   have hnYc := hOY.2.1
   have hnYm := hOY.2.2.1.1
   have hnL := hcL.2.1
   have hmL := hcL.2.2.1.1
   have hsum : IntKind.i64.wrap ((nY : Int) + (m : Int)) = (n0 : Int) := by
    have h1 := hn.out
    have h2 := hnY.out
    rw [IntKind.wrap_i64]
    omega
   have hll : (swpX X0 (oneP a1 a2) L).length ≤ 4096 := by omega
   clear hOY hall hY hGn hin
   generalize swpX X0 (oneP a1 a2) L = Y at *
   clear hly
   go_wp2_with (first
    | go_skip
    | (with_reducible refine wpList_loadb (by first | kernel_rfl | with_unfolding_all rfl) 25 _ rfl P7 rfl V hP7 _ Try.underlying25 (by kernel_rfl) hzV ?_)
    | (go_at_call 15; (with_reducible refine (rtfit_s hV hfY hwY).mono ?_); rintro e w6 ⟨rfl, hb8⟩; replace hcL := ct_up hcL hb8; replace hB := hB.next hb8; replace hX := hX.next hb8; replace hV := hV.next hb8; replace hP7 := hP7.next hb8; replace hk := hk.trans (hb8.mono hk.size); clear hb8)
    | (with_reducible refine wpList_load1 (by first | kernel_rfl | with_unfolding_all rfl) _ _ rfl P7 3 rfl _ _ hP7 _ hv3 Try.isAgg23 ?_)
    | (with_reducible refine wpList_load1 (by first | kernel_rfl | with_unfolding_all rfl) _ _ rfl B 3 rfl _ _ hB _ g3 Try.isAgg23 ?_)
    | (with_reducible refine wpList_load1 (by first | kernel_rfl | with_unfolding_all rfl) _ _ rfl P7 2 rfl _ _ hP7 _ hv2 Try.isAgg22 ?_)
    | (with_reducible refine wpList_load1 (by first | kernel_rfl | with_unfolding_all rfl) _ _ rfl B 2 rfl _ _ hB _ g2 Try.isAgg22 ?_)
    | (with_reducible refine wpList_load1 (by first | kernel_rfl | with_unfolding_all rfl) _ _ rfl P7 0 rfl _ _ hP7 _ hv0 Try.isAgg3 ?_)
    | (with_reducible refine wpList_load1 (by first | kernel_rfl | with_unfolding_all rfl) _ _ rfl B 0 rfl _ _ hB _ g0 Try.isAgg3 ?_))
   have hkw := hk
   go_loopw [76] (fun i wr => ∃ k : Nat, k ≤ m ∧ i = .int .i64 k ∧ Below w6.heap.size w6 wr) (fun i _ => m - (intOf i).toNat)
   case atStart => exact ⟨0, Nat.zero_le _, rfl, Below.refl _ _⟩
   case round =>
    clear hk
    obtain ⟨k, hkm1, rfl, hk⟩ := hrel
    replace hV := hV.next hk
    replace hP7 := hP7.next hk
    replace hB := hB.next hk
    replace hX := hX.next hk
    by_cases hkm : k < m
    ·have hkm' : (k : Int) < m := by omega
     obtain ⟨bL, oL, rfl, hRw⟩ := Rw.of (ct_up hcL hk) (by omega)
     have hxm : L.getD k 0 ∈ L := by
      rw [List.getD_eq_getElem?_getD, List.getElem?_eq_getElem (by rw [hlm]; exact hkm)]
      exact List.getElem_mem _
     have hx1 := jw _ hxm
     have hx2 := jn _ hxm
     have hia := fun (W : World) => (iaw_at (S := fun _ => True) (b := bL) (off := oL) (i := k) (n := m) (cap := cl) hkm) W trivial
     have hck := fun {W : World} (h : Rw W bL oL m L) => h.at_ k hkm
     obtain ⟨x, hx⟩ : ∃ x, Hid (L.getD k 0 = x) := ⟨_, rfl⟩
     simp only [hx.out] at hck
     rw [hx.out] at hx1 hx2
     have hfw := fun {W : World} (h : Ws W G t0 ke0 ro0 X0) => rfind_s h (i := x)
     have hfa := fun {W : World} (h : Ws W V t0 ke0 ro0 Y) => rfind_s h (i := x)
     have hho := fun {W : World} (h : Ws W V t0 ke0 ro0 Y) => rholders_s h hll (i := x)
     simp only [hx1.1] at hfw
     simp only [hx1.2] at hfa
     simp only [hx2, List.length_nil] at hho
     clear hx1 hx2 jn jw jh jo jl jr hxm few0
     have tk1 : True := trivial
     have tk2 : True := trivial
     by_cases hk0 : k = 0
     ·subst hk0
      go_wp2_with (first
       | go_skip
       | (with_reducible refine wpList_iaX (by first | kernel_rfl | with_unfolding_all rfl) _ _ _ rfl _ _ rfl rfl _ (hia _) ?_)
       | (with_reducible refine wpList_loadc (by first | kernel_rfl | with_unfolding_all rfl) _ _ rfl bL (oL + 0) rfl _ (hck hRw) Try.isAgg22 ?_)
       | (with_reducible refine wpList_loadb (by first | kernel_rfl | with_unfolding_all rfl) 25 _ rfl B rfl G hB _ Try.underlying25 (by kernel_rfl) hzw ?_)
       | (go_at_call 16; (with_reducible refine (hfw hX).mono ?_); rintro e w12 ⟨C12, rfl, hC12, hb8⟩; have hz12 := hC12.size; have h112 := hC12.one; clear hC12; replace hB := hB.next hb8; replace hX := hX.next hb8; replace hV := hV.next hb8; replace hP7 := hP7.next hb8; replace hRw := hRw.next hb8; replace hk := hk.trans (hb8.mono hk.size); clear hb8)
       | (clear tk1; (with_reducible refine wpList_alloc rfl 54 rfl zC zero40 ?_); intro P12 A12 hN12 hP12a hkA12; have hle12 := hN12.out.1)
       | ((with_reducible refine wpList_store_blk rfl _ _ _ rfl P12 rfl C12 rfl zC hP12a (size40C hz12) (zC_size.trans hz12.symm) h112 ?_); intro S12 hP12 o12; have k12 := o12.below _ _ (Nat.le_of_eq hle12) hkA12; clear hP12a hkA12 o12 hN12; replace hB := hB.next k12; replace hX := hX.next k12; replace hV := hV.next k12; replace hP7 := hP7.next k12; replace hRw := hRw.next k12; replace hk := hk.trans (k12.mono hk.size); clear k12)
       | (with_reducible refine wpList_loadb (by with_unfolding_all rfl) 25 _ rfl P7 rfl V hP7 _ Try.underlying25 (by kernel_rfl) hzV ?_)
       | (go_at_call 16; (with_reducible refine (hfa hV).mono ?_); rintro e w14 ⟨C14, rfl, hC14, hb8⟩; have hz14 := hC14.size; have h114 := hC14.one; clear hC14; replace hB := hB.next hb8; replace hX := hX.next hb8; replace hV := hV.next hb8; replace hP7 := hP7.next hb8; replace hRw := hRw.next hb8; replace hk := hk.trans (hb8.mono hk.size); clear hb8)
       | (clear tk2; (with_reducible refine wpList_alloc rfl 54 rfl zC zero40 ?_); intro P14 A14 hN14 hP14a hkA14; have hle14 := hN14.out.1)
       | ((with_reducible refine wpList_store_blk rfl _ _ _ rfl P14 rfl C14 rfl zC hP14a (size40C hz14) (zC_size.trans hz14.symm) h114 ?_); intro S14 hP14 o14; have k14 := o14.below _ _ (Nat.le_of_eq hle14) hkA14; clear hP14a hkA14 o14 hN14; replace hB := hB.next k14; replace hX := hX.next k14; replace hV := hV.next k14; replace hP7 := hP7.next k14; replace hRw := hRw.next k14; replace hk := hk.trans (k14.mono hk.size); clear k14)
       | (go_at_call 17; (with_reducible refine (hho hV).mono ?_); rintro e w15 ⟨ah, ch, rfl, hb8⟩; replace hB := hB.next hb8; replace hX := hX.next hb8; replace hV := hV.next hb8; replace hP7 := hP7.next hb8; replace hRw := hRw.next hb8; replace hk := hk.trans (hb8.mono hk.size); clear hb8))
      go_roundw
      case rel => exact ⟨1, by omega, by go_num, hk⟩
      case measure => simp [intOf]; omega
     ·obtain ⟨j, hj⟩ : ∃ j, Hid (k = j + 1) := ⟨k - 1, by show k = _; omega⟩
      have hjm : j < m := by have := hj.out; omega
      have hwj : IntKind.i64.wrap ((k : Int) - 1) = (j : Int) := by have := hj.out; rw [IntKind.wrap_i64]; omega
      have hpos : (0 : Int) < (k : Int) := by omega
      have hia1 := fun (W : World) => (iaw_at (S := fun _ => True) (b := bL) (off := oL) (i := j) (n := m) (cap := cl) hjm) W trivial
      have hcj := fun {W : World} (h : Rw W bL oL m L) => h.at_ j hjm
      have hlt0 : L.getD j 0 < x := by
       have h1 := rise_getD hri (show j < k by have := hj.out; omega) (by rw [hlm]; exact hkm)
       rw [hx.out] at h1
       exact h1
      obtain ⟨x1, hx1⟩ : ∃ x1, Hid (L.getD j 0 = x1) := ⟨_, rfl⟩
      rw [hx1.out] at hlt0
      simp only [hx1.out] at hcj
      have hlt : decide (x ≤ x1) = false := decide_eq_false (by omega)
      clear hlt0 hk0
      go_wp2_with (first
       | go_skip
       | (with_reducible refine wpList_iaX (by first | kernel_rfl | with_unfolding_all rfl) _ _ _ rfl _ _ rfl rfl _ (hia _) ?_)
       | (with_reducible refine wpList_iaX (by with_unfolding_all rfl) _ _ _ rfl _ _ rfl rfl _ (hia1 _) ?_)
       | (with_reducible refine wpList_loadc (by first | kernel_rfl | with_unfolding_all rfl) _ _ rfl bL (oL + k) rfl _ (hck hRw) Try.isAgg22 ?_)
       | (with_reducible refine wpList_loadc (by with_unfolding_all rfl) _ _ rfl bL (oL + j) rfl _ (hcj hRw) Try.isAgg22 ?_)
       | (with_reducible refine wpList_loadb (by first | kernel_rfl | with_unfolding_all rfl) 25 _ rfl B rfl G hB _ Try.underlying25 (by kernel_rfl) hzw ?_)
       | (go_at_call 16; (with_reducible refine (hfw hX).mono ?_); rintro e w12 ⟨C12, rfl, hC12, hb8⟩; have hz12 := hC12.size; have h112 := hC12.one; clear hC12; replace hB := hB.next hb8; replace hX := hX.next hb8; replace hV := hV.next hb8; replace hP7 := hP7.next hb8; replace hRw := hRw.next hb8; replace hk := hk.trans (hb8.mono hk.size); clear hb8)
       | (clear tk1; (with_reducible refine wpList_alloc rfl 54 rfl zC zero40 ?_); intro P12 A12 hN12 hP12a hkA12; have hle12 := hN12.out.1)
       | ((with_reducible refine wpList_store_blk rfl _ _ _ rfl P12 rfl C12 rfl zC hP12a (size40C hz12) (zC_size.trans hz12.symm) h112 ?_); intro S12 hP12 o12; have k12 := o12.below _ _ (Nat.le_of_eq hle12) hkA12; clear hP12a hkA12 o12 hN12; replace hB := hB.next k12; replace hX := hX.next k12; replace hV := hV.next k12; replace hP7 := hP7.next k12; replace hRw := hRw.next k12; replace hk := hk.trans (k12.mono hk.size); clear k12)
       | (with_reducible refine wpList_loadb (by with_unfolding_all rfl) 25 _ rfl P7 rfl V hP7 _ Try.underlying25 (by kernel_rfl) hzV ?_)
       | (go_at_call 16; (with_reducible refine (hfa hV).mono ?_); rintro e w14 ⟨C14, rfl, hC14, hb8⟩; have hz14 := hC14.size; have h114 := hC14.one; clear hC14; replace hB := hB.next hb8; replace hX := hX.next hb8; replace hV := hV.next hb8; replace hP7 := hP7.next hb8; replace hRw := hRw.next hb8; replace hk := hk.trans (hb8.mono hk.size); clear hb8)
       | (clear tk2; (with_reducible refine wpList_alloc rfl 54 rfl zC zero40 ?_); intro P14 A14 hN14 hP14a hkA14; have hle14 := hN14.out.1)
       | ((with_reducible refine wpList_store_blk rfl _ _ _ rfl P14 rfl C14 rfl zC hP14a (size40C hz14) (zC_size.trans hz14.symm) h114 ?_); intro S14 hP14 o14; have k14 := o14.below _ _ (Nat.le_of_eq hle14) hkA14; clear hP14a hkA14 o14 hN14; replace hB := hB.next k14; replace hX := hX.next k14; replace hV := hV.next k14; replace hP7 := hP7.next k14; replace hRw := hRw.next k14; replace hk := hk.trans (k14.mono hk.size); clear k14)
       | (go_at_call 17; (with_reducible refine (hho hV).mono ?_); rintro e w15 ⟨ah, ch, rfl, hb8⟩; replace hB := hB.next hb8; replace hX := hX.next hb8; replace hV := hV.next hb8; replace hP7 := hP7.next hb8; replace hRw := hRw.next hb8; replace hk := hk.trans (hb8.mono hk.size); clear hb8))
      go_roundw
      case rel => exact ⟨k + 1, by omega, by go_num, hk⟩
      case measure => simp [intOf]; omega
    ·obtain rfl : k = m := by omega
     have hk6 := hkw.trans (hk.mono hkw.size)
     clear hk jn jw hcL few0
     have hOY : Obs wr aoY nY capY Y := by
      obtain ⟨_, _, ao3, n3, cap3, e3, h3⟩ := hV.cells
      rw [hv3] at e3
      cases e3
      exact h3
     go_wp2_with (first
      | go_skip
      | (with_reducible refine wpList_load1 (by first | kernel_rfl | with_unfolding_all rfl) _ _ rfl P7 3 rfl _ _ hP7 _ hv3 Try.isAgg23 ?_))
     go_loopw [122] (fun i wq => ∃ k : Nat, k ≤ nY ∧ i = .int .i64 k ∧ Below wr.heap.size wr wq) (fun i _ => nY - (intOf i).toNat)
     case atStart => exact ⟨0, Nat.zero_le _, rfl, Below.refl _ _⟩
     case round =>
      obtain ⟨q, hq1, rfl, hk0⟩ := hrel
      replace hV := hV.next hk0
      replace hP7 := hP7.next hk0
      replace hB := hB.next hk0
      replace hX := hX.next hk0
      by_cases hqn : q < nY
      ·have hqn' : (q : Int) < nY := by omega
       have hqY : q < Y.length := by rw [hnY.out]; exact hqn
       have hom := oat_mem hqY
       obtain ⟨bY, offY, C, rfl, hbb, hC, hr⟩ := obs_at (obs_next hOY hk0) hqn
       have hjh := jh _ hom
       obtain ⟨c, hcX, hcg, hco⟩ := jo _ hom
       have hsY := hTY.snd _ hom
       have hsX := hT.snd c hcX
       have hrm := jr c hcX hcg
       have hcf : fnd X0 c.id = some c := (fnd_some hT.srt).2 ⟨hcX, rfl⟩
       have hid : (oat Y q).id = c.id := by rw [← hco]; rfl
       rw [hid] at hjh
       rw [hco] at hrm
       have hcl : c.id = a1 → (oat Y q).links.length + 1 = c.links.length := fun e => by rw [← hco]; exact jl c (e ▸ hcf)
       have hst : ({ oat Y q with links := c.links } : Ob) = c := by rw [← hco]; rfl
       have hns : ¬ c.id = a1 → oat Y q = c := fun e => by rw [← hco]; exact just_same e
       clear jh jo jl jr hom hco hcg
       have i0 := hC.id
       rw [hid] at i0
       obtain ⟨ci, hci⟩ : ∃ ci, c.id = ci := ⟨_, rfl⟩
       rw [hci] at hcl hns hjh hcf i0
       generalize oat Y q = y at *
       have hz := hC.size
       have h1c := hC.one
       have hfd := fun {W : World} (k : Below wr.heap.size wr W) => rfind_k hX k hcf
       have hry := fun {W : World} (k : Below wr.heap.size wr W) => rroom_s (hV.next k) hTY (hC.next k) hsY
       have hrx := fun {W : World} {C' : Array Value} (k : Below wr.heap.size wr W) (h : ObD (LtN wr) wr C' c) => rroom_s (hX.next k) hT (h.next k) hsX
       have hho := fun {W : World} (h : Ws W V t0 ke0 ro0 Y) => rholders_s h hll (i := ci)
       have hrm' : Hid (roomN X0 c ≤ roomN Y y) := (by show _ ≤ _; omega)
       generalize roomN Y y = ry at hry hrm'
       generalize roomN X0 c = rx at hrx hrm'
       obtain ⟨mh, hmh⟩ : ∃ mh, (holL Y ci).length = mh := ⟨_, rfl⟩
       rw [hmh] at hjh
       simp only [hmh] at hho
       clear hmh hrm
       obtain ⟨ay, ny, ky, cy5, ly⟩ := hC.links
       have hny : Hid (y.links.length = ny) := ly.1
       have hnyc := ly.2.1
       have hnym := ly.2.2.1.1
       clear ly
       have hk : Below wr.heap.size wr wr := Below.refl _ _
       have hBl : B < wr.heap.size := hB.lt
       have h7l : P7 < wr.heap.size := hP7.lt
       have tk1 : True := trivial
       have tk2 : True := trivial
       go_wp2_with (first
        | go_skip
        | (with_reducible refine wpList_loadm (by first | kernel_rfl | with_unfolding_all rfl) 54 _ rfl bY _ rfl C hr _ Try.underlying54 (by kernel_rfl) (size40C hz) ?_)
        | (clear tk1; (with_reducible refine wpList_alloc rfl 54 rfl zC zero40 ?_); intro P17 A17 hN17 hP17a hkA17; have hle17 := hN17.out.1)
        | ((with_reducible refine wpList_store_blk rfl _ _ _ rfl P17 rfl C rfl zC hP17a (size40C hz) (zC_size.trans hz.symm) h1c ?_); intro S17 hP17 o17; have k17 := o17.below _ _ (Nat.le_of_eq hle17) hkA17; have hq17 : wr.heap.size ≤ P17 := Nat.le_of_eq hle17; clear hP17a hkA17 o17 hN17; replace hB := hB.next k17; replace hP7 := hP7.next k17; replace hk := hk.trans (k17.mono hk.size); clear k17)
        | (with_reducible refine wpList_loadb (by first | kernel_rfl | with_unfolding_all rfl) 25 _ rfl B rfl G hB _ Try.underlying25 (by kernel_rfl) hzw ?_)
        | (with_reducible refine wpList_load1 (by first | kernel_rfl | with_unfolding_all rfl) _ _ rfl P17 0 rfl _ _ hP17 _ i0 Try.isAgg22 ?_)
        | (go_at_call 16; (with_reducible refine (hfd hk).mono ?_); rintro e w18 ⟨C18, rfl, hC18, hb8⟩; have hz18 := hC18.size; have h118 := hC18.one; replace hB := hB.next hb8; replace hP7 := hP7.next hb8; replace hP17 := hP17.next hb8; replace hk := hk.trans (hb8.mono hk.size); clear hb8)
        | (clear tk2; (with_reducible refine wpList_alloc rfl 54 rfl zC zero40 ?_); intro P18 A18 hN18 hP18a hkA18; have hle18 := hN18.out.1; have hq18 : P17 < P18 := (by have := hP17.lt; omega))
        | ((with_reducible refine wpList_store_blk rfl _ _ _ rfl P18 rfl C18 rfl zC hP18a (size40C hz18) (zC_size.trans hz18.symm) h118 ?_); intro S18 hP18 o18; have k18 := o18.below _ _ (Nat.le_of_eq hle18) hkA18; clear hP18a hkA18 o18 hN18; replace hB := hB.next k18; replace hP7 := hP7.next k18; replace hP17 := hP17.next k18; replace hk := hk.trans (k18.mono hk.size); clear k18))
       refine PgM.region_out (S := fun W => Below S18.heap.size S18 W) hmx ((Below.refl _ _).drew) (fun hS => ?_)
       generalize S18.drew = v5 at hS ⊢
       refine wpAnyH_sym (by kernel_rfl) (fun _ _ _ _ _ h => h) hS [(0, none), (1, none), (2, none), (3, some (.agg V)), (4, some (.agg C)), (6, some (.agg G)), (7, some (.agg C18))] (l' := #[true, true, true, true, true, false, true, true, false, false, false]) (a' := { tmps := #[.agg G, .int .u64 a1, .int .u64 a2, .pointer (some ⟨B, 0, none⟩), undef, undef, u6, .pointer (some ⟨P7, 0, none⟩), .slice al k cl, .int .i64 0, u10, u11, u12, u13, u14, u15, undef, .pointer (some ⟨P17, 0, none⟩), .pointer (some ⟨P18, 0, none⟩), .bool true, .agg G, .bool true, .bool false, undef, .tuple #[.agg V, .slice al k cl, .int .i64 0], .agg G, .int .u64 a1, .int .u64 a2, .tuple #[.agg V, .slice al k cl, .int .i64 0], .agg V, .slice al k cl, .int .i64 0, .int .i64 0, .bool false, undef, undef, undef, undef, undef, undef, undef, undef, undef, undef, undef, .agg V, .bool true, .bool false, .bool false, .pointer (some ⟨P7, 3, none⟩), .slice (some ⟨bY, offY, none⟩) nY capY, .int .i64 (nY : Int), .slice al k cl, .int .i64 (k : Int), .int .i64 (n0 : Int), .pointer (some ⟨B, 3, none⟩), .slice ao0 n0 cap0, .int .i64 (n0 : Int), .bool false, .bool false, .bool false, .pointer (some ⟨P7, 2, none⟩), .int .u64 ro0, .pointer (some ⟨B, 2, none⟩), .int .u64 ro0, .bool false, .bool false, .bool false, .pointer (some ⟨P7, 0, none⟩), .int .i64 t0, .pointer (some ⟨B, 0, none⟩), .int .i64 t0, .bool false, .bool false, .slice al k cl, .int .i64 (k : Int), .int .i64 (k : Int), .bool false, u78, u79, u80, u81, u82, u83, u84, u85, u86, u87, u88, u89, u90, u91, u92, u93, u94, u95, u96, u97, u98, u99, u100, u101, u102, u103, u104, u105, u106, u107, u108, u109, u110, u111, u112, u113, u114, u115, u116, u117, u118, .pointer (some ⟨P7, 3, none⟩), .slice (some ⟨bY, offY, none⟩) nY capY, .int .i64 (nY : Int), .int .i64 (q : Int), .bool true, .pointer (some ⟨bY, offY + q * 51, none⟩), .agg C, .tuple #[.agg C18, .bool true], .agg G, .pointer (some ⟨P17, 0, none⟩), .int .u64 ci, .tuple #[.agg C18, .bool true], .agg C18, .bool true, .bool true, .bool false, .bool false, .agg V, .agg C, u138, .agg G, .agg C18, u141, u142, u143, u144, u145, u146, u147, u148, u149, u150, u151, u152, u153, u154, u155, u156, u157, u158, u159, u160, u161, u162, u163, u164, u165, u166, u167, u168, u169, u170, u171, u172, u173, u174, u175, u176, u177, u178, undef], defers := [] }) (obs := [.load 25 P7 0 (.agg V), .load 54 P17 0 (.agg C), .load 25 B 0 (.agg G), .load 54 P18 0 (.agg C18)]) (n := 4) (by kernel_rfl) (by kernel_rfl) ⟨ob_loadb (fun _ h => hP7.next h) Try.underlying25 (by kernel_rfl) hzV, ob_loadb (fun _ h => hP17.next h) Try.underlying54 (by kernel_rfl) (size40C hz), ob_loadb (fun _ h => hB.next h) Try.underlying25 (by kernel_rfl) hzw, ob_loadb (fun _ h => hP18.next h) Try.underlying54 (by kernel_rfl) (size40C hz18), trivial⟩ ?_
       refine wpAnyH_callL (i := 5) (fuel := 3) (f := 18) (vs := [.agg V, .agg C]) (d := some 138) (by kernel_rfl) (by kernel_rfl) (by kernel_rfl) Try.call18 (hry (hk.trans (hS.mono hk.size))) ?_
       rintro e v6 ⟨rfl, hbv6⟩
       have hSv6 : Below S18.heap.size S18 v6 := hS.trans (hbv6.mono hS.size)
       refine ⟨_, rfl, hSv6, ?_⟩
       refine wpAnyH_callL (i := 8) (fuel := 2) (f := 18) (vs := [.agg G, .agg C18]) (d := some 141) (by kernel_rfl) (by kernel_rfl) (by kernel_rfl) Try.call18 (hrx (hk.trans (hSv6.mono hk.size)) hC18) ?_
       rintro e v7 ⟨rfl, hbv7⟩
       have hSv7 : Below S18.heap.size S18 v7 := hSv6.trans (hbv7.mono hSv6.size)
       refine ⟨_, rfl, hSv7, ?_⟩
       refine wpAnyH_sym (by kernel_rfl) (fun _ _ _ _ _ h => h) hSv7 [(9, some (.bool false)), (10, none)] (l' := #[true, true, true, true, true, true, true, true, true, true, true]) (a' := { tmps := #[.agg G, .int .u64 a1, .int .u64 a2, .pointer (some ⟨B, 0, none⟩), undef, undef, u6, .pointer (some ⟨P7, 0, none⟩), .slice al k cl, .int .i64 0, u10, u11, u12, u13, u14, u15, undef, .pointer (some ⟨P17, 0, none⟩), .pointer (some ⟨P18, 0, none⟩), .bool true, .agg G, .bool true, .bool false, undef, .tuple #[.agg V, .slice al k cl, .int .i64 0], .agg G, .int .u64 a1, .int .u64 a2, .tuple #[.agg V, .slice al k cl, .int .i64 0], .agg V, .slice al k cl, .int .i64 0, .int .i64 0, .bool false, undef, undef, undef, undef, undef, undef, undef, undef, undef, undef, undef, .agg V, .bool true, .bool false, .bool false, .pointer (some ⟨P7, 3, none⟩), .slice (some ⟨bY, offY, none⟩) nY capY, .int .i64 (nY : Int), .slice al k cl, .int .i64 (k : Int), .int .i64 (n0 : Int), .pointer (some ⟨B, 3, none⟩), .slice ao0 n0 cap0, .int .i64 (n0 : Int), .bool false, .bool false, .bool false, .pointer (some ⟨P7, 2, none⟩), .int .u64 ro0, .pointer (some ⟨B, 2, none⟩), .int .u64 ro0, .bool false, .bool false, .bool false, .pointer (some ⟨P7, 0, none⟩), .int .i64 t0, .pointer (some ⟨B, 0, none⟩), .int .i64 t0, .bool false, .bool false, .slice al k cl, .int .i64 (k : Int), .int .i64 (k : Int), .bool false, u78, u79, u80, u81, u82, u83, u84, u85, u86, u87, u88, u89, u90, u91, u92, u93, u94, u95, u96, u97, u98, u99, u100, u101, u102, u103, u104, u105, u106, u107, u108, u109, u110, u111, u112, u113, u114, u115, u116, u117, u118, .pointer (some ⟨P7, 3, none⟩), .slice (some ⟨bY, offY, none⟩) nY capY, .int .i64 (nY : Int), .int .i64 (q : Int), .bool true, .pointer (some ⟨bY, offY + q * 51, none⟩), .agg C, .tuple #[.agg C18, .bool true], .agg G, .pointer (some ⟨P17, 0, none⟩), .int .u64 ci, .tuple #[.agg C18, .bool true], .agg C18, .bool true, .bool true, .bool false, .bool false, .agg V, .agg C, .int .i64 ry, .agg G, .agg C18, .int .i64 rx, .bool false, .bool false, u144, u145, u146, u147, u148, u149, u150, u151, u152, u153, u154, u155, u156, u157, u158, u159, u160, u161, u162, u163, u164, u165, u166, u167, u168, u169, u170, u171, u172, u173, u174, u175, u176, u177, u178, undef], defers := [] }) (obs := [.test .lss 3 (.tmp 138) (.tmp 141) (.int .i64 ry) (.int .i64 rx) (.bool false)]) (n := 0) (by kernel_rfl) (by kernel_rfl) ⟨ob_no (fun _ => tlt_int _ _ _ _ _ _) (show Hid _ from Int.not_lt.2 hrm'.out), trivial⟩ ?_
       refine wpAnyH_done (by kernel_rfl) ?_ _
       replace hB := hB.next hSv7
       replace hP7 := hP7.next hSv7
       replace hP17 := hP17.next hSv7
       replace hP18 := hP18.next hSv7
       replace hk := hk.trans (hSv7.mono hk.size)
       obtain ⟨a5, n5, k5, c5, l5⟩ := hC18.links
       have hn5 : Hid (c.links.length = n5) := l5.1
       have hn5c := l5.2.1
       have hn5m := l5.2.2.1.1
       have hV2 := hV.next hk
       by_cases hd : ci = a1
       ·have hdb : (ci == a1) = true := by simpa using hd
        have hwl : IntKind.i64.wrap ((ny : Int) + 1) = (n5 : Int) := by
         have h1 := hcl hd
         have h2 := hny.out
         have h3 := hn5.out
         rw [IntKind.wrap_i64]
         omega
        have hT5 := hC.set5 (v := .slice a5 n5 k5) ⟨_, _, _, rfl, l5⟩ rfl
        rw [hst] at hT5
        obtain ⟨T, e1⟩ : ∃ T, Hid (C.setIfInBounds 5 (.slice a5 n5 k5) = T) := ⟨_, rfl⟩
        rw [e1.out] at hT5
        have t0' := hT5.id
        rw [hci] at t0'
        have hzT := hT5.size
        have hso := fun {W : World} (k : Below wr.heap.size wr W) => (rsameOne_any (hT5.next k) (hC18.next k)).yes rfl
        clear hT5 hcl hns hst l5 hd
        by_cases hr0 : ci = ro0
        ·have hrb : (ci != ro0) = false := by simpa using hr0
         clear hjh hr0
         go_wp2_with (first
          | go_skip
          | (with_reducible refine wpList_load1 (by first | kernel_rfl | with_unfolding_all rfl) _ _ rfl P18 5 rfl _ _ hP18 _ c5 Try.isAgg28 ?_)
          | (with_reducible refine wpList_load1 (by first | kernel_rfl | with_unfolding_all rfl) _ _ rfl P17 5 rfl _ _ hP17 _ cy5 Try.isAgg28 ?_)
          | (with_reducible refine wpList_load1 (by first | kernel_rfl | with_unfolding_all rfl) _ _ rfl P17 0 rfl _ _ hP17 _ i0 Try.isAgg22 ?_)
          | ((with_reducible refine wpList_store_cell rfl 28 _ _ rfl P17 5 rfl (.slice a5 n5 k5) rfl rfl C _ hP17 (by kernel_rfl) (by rw [hz]; decide) rfl ?_); intro W7 hPT o7; rw [e1.out] at hPT; have k7 := o7.below _ _ hq17 hk; clear hk; have hk := k7; replace hB := hB.other o7 (by omega); replace hP7 := hP7.other o7 (by omega); replace hP18 := hP18.other o7 (by omega); replace hV2 := hV.next hk; clear k7 o7 hP17)
          | (with_reducible refine wpList_load1 (by with_unfolding_all rfl) _ _ rfl P17 0 rfl _ _ hPT _ t0' Try.isAgg22 ?_)
          | (with_reducible refine wpList_loadb (by with_unfolding_all rfl) 54 _ rfl P17 rfl T hPT _ Try.underlying54 (by kernel_rfl) (size40C hzT) ?_)
          | (with_reducible refine wpList_loadb (by with_unfolding_all rfl) 54 _ rfl P18 rfl C18 hP18 _ Try.underlying54 (by kernel_rfl) (size40C hz18) ?_)
          | (go_at_call 19; (with_reducible refine (hso hk).mono ?_); rintro e w20 ⟨rfl, hb8⟩; replace hB := hB.next hb8; replace hP7 := hP7.next hb8; replace hPT := hPT.next hb8; replace hP18 := hP18.next hb8; replace hV2 := hV2.next hb8; replace hk := hk.trans (hb8.mono hk.size); clear hb8)
          | (with_reducible refine wpList_load1 (by with_unfolding_all rfl) _ _ rfl P7 2 rfl _ _ hP7 _ hv2 Try.isAgg22 ?_))
         go_roundw
         case rel => exact ⟨q + 1, by omega, by go_num, hk0.trans (hk.mono hk0.size)⟩
         case measure => simp [intOf]; omega
        ·have hrb : (ci != ro0) = true := by simpa using hr0
         have hmb : ((mh : Int) == 0) = false := by
          have := hjh hr0
          rw [beq_eq_false_iff_ne]
          omega
         clear hjh hr0
         go_wp2_with (first
          | go_skip
          | (with_reducible refine wpList_load1 (by first | kernel_rfl | with_unfolding_all rfl) _ _ rfl P18 5 rfl _ _ hP18 _ c5 Try.isAgg28 ?_)
          | (with_reducible refine wpList_load1 (by first | kernel_rfl | with_unfolding_all rfl) _ _ rfl P17 5 rfl _ _ hP17 _ cy5 Try.isAgg28 ?_)
          | (with_reducible refine wpList_load1 (by first | kernel_rfl | with_unfolding_all rfl) _ _ rfl P17 0 rfl _ _ hP17 _ i0 Try.isAgg22 ?_)
          | ((with_reducible refine wpList_store_cell rfl 28 _ _ rfl P17 5 rfl (.slice a5 n5 k5) rfl rfl C _ hP17 (by kernel_rfl) (by rw [hz]; decide) rfl ?_); intro W7 hPT o7; rw [e1.out] at hPT; have k7 := o7.below _ _ hq17 hk; clear hk; have hk := k7; replace hB := hB.other o7 (by omega); replace hP7 := hP7.other o7 (by omega); replace hP18 := hP18.other o7 (by omega); replace hV2 := hV.next hk; clear k7 o7 hP17)
          | (with_reducible refine wpList_load1 (by with_unfolding_all rfl) _ _ rfl P17 0 rfl _ _ hPT _ t0' Try.isAgg22 ?_)
          | (with_reducible refine wpList_loadb (by with_unfolding_all rfl) 54 _ rfl P17 rfl T hPT _ Try.underlying54 (by kernel_rfl) (size40C hzT) ?_)
          | (with_reducible refine wpList_loadb (by with_unfolding_all rfl) 54 _ rfl P18 rfl C18 hP18 _ Try.underlying54 (by kernel_rfl) (size40C hz18) ?_)
          | (go_at_call 19; (with_reducible refine (hso hk).mono ?_); rintro e w20 ⟨rfl, hb8⟩; replace hB := hB.next hb8; replace hP7 := hP7.next hb8; replace hPT := hPT.next hb8; replace hP18 := hP18.next hb8; replace hV2 := hV2.next hb8; replace hk := hk.trans (hb8.mono hk.size); clear hb8)
          | (with_reducible refine wpList_load1 (by with_unfolding_all rfl) _ _ rfl P7 2 rfl _ _ hP7 _ hv2 Try.isAgg22 ?_)
          | (with_reducible refine wpList_loadb (by with_unfolding_all rfl) 25 _ rfl P7 rfl V hP7 _ Try.underlying25 (by kernel_rfl) hzV ?_)
          | (go_at_call 17; (with_reducible refine (hho hV2).mono ?_); rintro e w21 ⟨ah, ch, rfl, hb8⟩; replace hB := hB.next hb8; replace hP7 := hP7.next hb8; replace hPT := hPT.next hb8; replace hP18 := hP18.next hb8; replace hV2 := hV2.next hb8; replace hk := hk.trans (hb8.mono hk.size); clear hb8))
         go_roundw
         case rel => exact ⟨q + 1, by omega, by go_num, hk0.trans (hk.mono hk0.size)⟩
         case measure => simp [intOf]; omega
       ·have hdb : (ci == a1) = false := by simpa using hd
        have hyc := hns hd
        have hso := fun {W : World} (k : Below wr.heap.size wr W) => (rsameOne_any (hC.next k) (hC18.next k)).yes hyc
        clear hcl hns hst l5 hd hyc
        by_cases hr0 : ci = ro0
        ·have hrb : (ci != ro0) = false := by simpa using hr0
         clear hjh hr0
         go_wp2_with (first
          | go_skip
          | (with_reducible refine wpList_load1 (by first | kernel_rfl | with_unfolding_all rfl) _ _ rfl P18 5 rfl _ _ hP18 _ c5 Try.isAgg28 ?_)
          | (with_reducible refine wpList_load1 (by with_unfolding_all rfl) _ _ rfl P17 0 rfl _ _ hP17 _ i0 Try.isAgg22 ?_)
          | (with_reducible refine wpList_loadb (by with_unfolding_all rfl) 54 _ rfl P17 rfl C hP17 _ Try.underlying54 (by kernel_rfl) (size40C hz) ?_)
          | (with_reducible refine wpList_loadb (by with_unfolding_all rfl) 54 _ rfl P18 rfl C18 hP18 _ Try.underlying54 (by kernel_rfl) (size40C hz18) ?_)
          | (go_at_call 19; (with_reducible refine (hso hk).mono ?_); rintro e w20 ⟨rfl, hb8⟩; replace hB := hB.next hb8; replace hP7 := hP7.next hb8; replace hP17 := hP17.next hb8; replace hP18 := hP18.next hb8; replace hV2 := hV2.next hb8; replace hk := hk.trans (hb8.mono hk.size); clear hb8)
          | (with_reducible refine wpList_load1 (by with_unfolding_all rfl) _ _ rfl P7 2 rfl _ _ hP7 _ hv2 Try.isAgg22 ?_))
         go_roundw
         case rel => exact ⟨q + 1, by omega, by go_num, hk0.trans (hk.mono hk0.size)⟩
         case measure => simp [intOf]; omega
        ·have hrb : (ci != ro0) = true := by simpa using hr0
         have hmb : ((mh : Int) == 0) = false := by
          have := hjh hr0
          rw [beq_eq_false_iff_ne]
          omega
         clear hjh hr0
         go_wp2_with (first
          | go_skip
          | (with_reducible refine wpList_load1 (by first | kernel_rfl | with_unfolding_all rfl) _ _ rfl P18 5 rfl _ _ hP18 _ c5 Try.isAgg28 ?_)
          | (with_reducible refine wpList_load1 (by with_unfolding_all rfl) _ _ rfl P17 0 rfl _ _ hP17 _ i0 Try.isAgg22 ?_)
          | (with_reducible refine wpList_loadb (by with_unfolding_all rfl) 54 _ rfl P17 rfl C hP17 _ Try.underlying54 (by kernel_rfl) (size40C hz) ?_)
          | (with_reducible refine wpList_loadb (by with_unfolding_all rfl) 54 _ rfl P18 rfl C18 hP18 _ Try.underlying54 (by kernel_rfl) (size40C hz18) ?_)
          | (go_at_call 19; (with_reducible refine (hso hk).mono ?_); rintro e w20 ⟨rfl, hb8⟩; replace hB := hB.next hb8; replace hP7 := hP7.next hb8; replace hP17 := hP17.next hb8; replace hP18 := hP18.next hb8; replace hV2 := hV2.next hb8; replace hk := hk.trans (hb8.mono hk.size); clear hb8)
          | (with_reducible refine wpList_load1 (by with_unfolding_all rfl) _ _ rfl P7 2 rfl _ _ hP7 _ hv2 Try.isAgg22 ?_)
          | (with_reducible refine wpList_loadb (by with_unfolding_all rfl) 25 _ rfl P7 rfl V hP7 _ Try.underlying25 (by kernel_rfl) hzV ?_)
          | (go_at_call 17; (with_reducible refine (hho hV2).mono ?_); rintro e w21 ⟨ah, ch, rfl, hb8⟩; replace hB := hB.next hb8; replace hP7 := hP7.next hb8; replace hP17 := hP17.next hb8; replace hP18 := hP18.next hb8; replace hV2 := hV2.next hb8; replace hk := hk.trans (hb8.mono hk.size); clear hb8))
         go_roundw
         case rel => exact ⟨q + 1, by omega, by go_num, hk0.trans (hk.mono hk0.size)⟩
         case measure => simp [intOf]; omega
      ·obtain rfl : q = nY := by omega
       have hk := hk6.trans (hk0.mono hk6.size)
       go_wp2_with (first
        | go_skip
        | (go_at_call 8; (with_reducible refine (awake15_any _).mono ?_); rintro e w4 ⟨rfl, hb8⟩; replace hk := hk.trans (hb8.mono hk.size)))
       all_goals go_ret
       all_goals exact ⟨rfl, hk⟩


  ·go_enter Try.func4, Try.ntmps4
   try simp only [List.append]
   go_wp2_with (first
    | go_skip
    | (with_reducible refine wpList_box rfl 25 _ rfl G rfl ?_; intro B W1 hN1 hB hk; replace hX := hX.next hk)
    | (with_reducible refine wpList_loadb (by first | kernel_rfl | with_unfolding_all rfl) 25 _ rfl B rfl G hB _ Try.underlying25 (by kernel_rfl) hzw ?_)
    | (go_at_call 7; (with_reducible refine ((few0 _ hk).yes hfw).mono ?_); rintro e w3 ⟨rfl, hb8⟩; replace hB := hB.next hb8; replace hX := hX.next hb8; replace hk := hk.trans (hb8.mono hk.size); clear hb8)
    | (go_at_call 9; (with_reducible refine (unref_n hX hf hl2 hin).mono ?_); rintro e w5 ⟨V, rfl, hV, hb8⟩; have hzV := hV.size; have hoV := hV.old; have h1V := hV.one; replace hB := hB.next hb8; replace hX := hX.next hb8; replace hk := hk.trans (hb8.mono hk.size); clear hb8)
    | ((with_reducible refine wpList_alloc rfl 25 rfl zW zero43 ?_); intro P7 W6 hN6 hP7a hk6; have hle6 := hN6.out.1)
    | ((with_reducible refine wpList_store_blk rfl _ _ _ rfl P7 rfl V rfl zW hP7a hzV hoV h1V ?_); intro V7 hP7 o7; have k7 := o7.below _ _ (Nat.le_of_eq hle6) hk6; replace hV := hV.next k7; clear hP7a hk6 o7 hN6; replace hB := hB.next k7; replace hX := hX.next k7; replace hk := hk.trans (k7.mono hk.size); clear k7)
    | (with_reducible refine wpList_loadb (by first | kernel_rfl | with_unfolding_all rfl) 25 _ rfl P7 rfl V hP7 _ Try.underlying25 (by kernel_rfl) hzV ?_)
    | (go_at_call 11; (with_reducible refine (rsame_s hV hX).mono ?_); rintro e w6 ⟨rfl, hb8⟩; replace hB := hB.next hb8; replace hX := hX.next hb8; replace hV := hV.next hb8; replace hP7 := hP7.next hb8; replace hk := hk.trans (hb8.mono hk.size); clear hb8)
    | (go_at_call 8; (with_reducible refine (awake15_any _).mono ?_); rintro e w4 ⟨rfl, hb8⟩; replace hk := hk.trans (hb8.mono hk.size)))
   all_goals go_ret
   all_goals exact ⟨rfl, hk⟩
 ·go_enter Try.func4, Try.ntmps4
  try simp only [List.append]
  go_wp2_with (first
   | go_skip
   | (with_reducible refine wpList_box rfl 25 _ rfl G rfl ?_; intro B W1 hN1 hB hk; replace hX := hX.next hk)
   | (with_reducible refine wpList_loadb (by first | kernel_rfl | with_unfolding_all rfl) 25 _ rfl B rfl G hB _ Try.underlying25 (by kernel_rfl) hzw ?_)
   | (go_at_call 7; (with_reducible refine ((few0 _ hk).no hfw).mono ?_); rintro e w3 ⟨rfl, hb8⟩; replace hB := hB.next hb8; replace hX := hX.next hb8; replace hk := hk.trans (hb8.mono hk.size); clear hb8)
   | (go_at_call 8; (with_reducible refine (awake15_any _).mono ?_); rintro e w4 ⟨rfl, hb8⟩; replace hk := hk.trans (hb8.mono hk.size)))
  all_goals go_ret
  all_goals exact ⟨rfl, hk⟩

theorem lifted (os : Os) (started : os.Started) (H : Type) (enc : TypeId × Value → H) :
  ReturnsInHanded {} Try.checked os 4 .any (Rows.sweepJustSpec.pre6 enc Try.prog Try.f4 Rows.sweepJustRow.domain false) (Rows.sweepJustSpec.post enc Try.prog Try.f4 false true false false) := by
 refine returnsInHanded_of_change (C := Try.checked) own started (by kernel_rfl) Try.func4
  (ChangeSpec.witness6 (enc := enc) (C := Try.checked) false ⟨#[], #[.agg #[.int .i64 0, .int .u64 0, .int .u64 0, .slice none 0 0], .int .u64 0, .int .u64 0], []⟩ 8 (by kernel_rfl) (by kernel_rfl) (by kernel_rfl) (by kernel_rfl)) ?_
 intro W base args ds gs before hval0 hW hcnd _
 have hval : ∀ (j : Nat) t v, Try.f4.params[j]? = some t → args[j]? = some v → Value.okWide Try.prog W .any base t v := hval0
 have hW' := hW
 obtain ⟨p, q, hA0, hV, rfl, hfz, hnd⟩ := hW
 have hA : DataW.TrodAll enc Try.prog W 0 (fun _ => true) true Try.f4.params.toList args.toList ds p := hA0
 rw [Try.params4] at hA hval
 obtain ⟨v0, vs0, d0, ds0, p0, q0, hargs, rfl, rfl, h0, r0⟩ := trodAll_cons hA
 obtain ⟨v1, vs1, d1, ds1, p1, q1, rfl, rfl, rfl, h1, r1⟩ := trodAll_cons r0
 obtain ⟨v2, vs2, d2, ds2, p2, q2, rfl, rfl, rfl, h2, r2⟩ := trodAll_cons r1
 obtain ⟨rfl, rfl, rfl⟩ := trodAll_nil r2
 obtain rfl : args = #[v0, v1, v2] := by cases args; simp_all
 obtain ⟨rfl, rfl⟩ := trodVars_none hV
 obtain ⟨t0, ke0, ro0, ao0, n0, cap0, X0, rfl, l0⟩ := worldW_of_trod (hval 0 25 v0 rfl rfl) h0
 have k0 := h0
 have lt0 : ∀ x ∈ p0, x.block < W.heap.size := by obtain ⟨m, hm⟩ := k0; exact DataW.trod_lt m _ _ _ hm
 obtain ⟨a1, rfl, rfl, rfl, w1⟩ := open_int Try.underlying22 (hval 1 22 v1 rfl rfl) h1
 obtain ⟨a2, rfl, rfl, rfl, w2⟩ := open_int Try.underlying22 (hval 2 22 v2 rfl rfl) h2
 clear hA0 hval0
 refine (walk t0 ke0 ro0 ao0 n0 cap0 X0 a1 a2 W l0 w1 w2).mono fun e W' ⟨he, bel⟩ => ?_
 subst he
 exact ⟨_, rfl, _, _, _, [], _, [], hW', trodAll_mk1 (shut_bool Try.underlying4 _), (trodAll_cons_mk (Below.trod laidOut (by kernel_rfl) (of_decide_eq_true (by kernel_rfl)) k0 bel lt0) (trodAll_cons_mk (shut_int Try.underlying22 w1) (trodAll_cons_mk (shut_int Try.underlying22 w2) trodAll_mk0))), rfl, bel.frame _, fun h => by cases h⟩

theorem over : Rows.sweepJustRow.holds Try.pinned (OpenSpec.ofChange Rows.sweepJustSpec) :=
 OpenClaim.holds_of_wide 4 Try.f4 rfl rfl rfl rfl rfl rfl rfl ⟨rfl, rfl, rfl, rfl, rfl⟩ rfl rfl rfl rfl rfl (by kernel_rfl) Try.func4 (by kernel_rfl)
  (of_decide_eq_true (by kernel_rfl)) (by unfold Func.isWrapper; first | (rw [if_pos (by decide +kernel)]; kernel_rfl) | (rw [if_neg (by decide +kernel)]; exact ⟨rfl, rfl⟩))
  (fun os started H enc _ => lifted os started H enc)

end sweepJust
theorem sweepJust_holds : Rows.SweepJustSaid :=
 sweepJust.over
#print axioms sweepJust_holds
end Go.Proofs.Ytcmcakandbpjfaa
