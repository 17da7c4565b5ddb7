/-
 PROVED HERE: of a whole world there are no more objects than the root has pages, no object uses more than its quota, all that use pages by themselves use no more than the root's quota, and from each thing one comes up to the root (TreeAll), over the landed code. No condition.
-/
import Derived.Test.YtnhjfjhbmekamaaGreatRows
import Derived.WalkKit
import Derived.ProofKit
import Derived.OpenShut
import Derived.Below
import Derived.ShutString
import Derived.Deep.QuietTactic
import Derived.Test.YtnhjfjhbmekamaaGreatZ19
import Derived.Test.YtnhjfjhbmekamaaGreatZ41
namespace Go.Proofs.YtnhjfjhbmekamaaGreat
set_option maxRecDepth 100000
set_option maxHeartbeats 8000000
namespace treeAll
open Go.ChangeShapes Go.WideShapes Go.ChangeAt Go.RowKit
open Go.ChangeMaps (open_string shut_string)
set_option linter.unusedVariables false

theorem own : ownKnob Tryz.prog.godebug = none := by kernel_rfl

theorem walk (t0 : Int) (ke0 : Nat) (ro0 : Int) (ao0 : Option Addr) (n0 cap0 : Nat) (X0 : List Ob) (w : World) (l0 : Obs w ao0 n0 cap0 X0 ∧ ∀ x ∈ X0, WdO x) :
  Calls Tryz.prog 6 #[.agg #[.int .i64 t0, .int .u64 (ke0 : Int), .int .u64 ro0, .slice ao0 n0 cap0]] w fun e w' => e = .returned (.bool true) ∧ Below w.heap.size w w' := by
 have hmx : Tryz.prog.follows .mixedOrders = true := by kernel_rfl
 obtain ⟨l0, hw0⟩ := l0
 have hn : Hid (X0.length = n0) := l0.1
 have hnc := l0.2.1
 have hcm := l0.2.2.1.1
 have c2 : (#[.int .i64 t0, .int .u64 (ke0 : Int), .int .u64 ro0, .slice ao0 n0 cap0] : Array Value)[2]? = some (.int .u64 ro0) := rfl
 have c3 : (#[.int .i64 t0, .int .u64 (ke0 : Int), .int .u64 ro0, .slice ao0 n0 cap0] : Array Value)[3]? = some (.slice ao0 n0 cap0) := rfl
 have hzw : (Tryz.prog.info? 25).map (·.size) = some (#[.int .i64 t0, .int .u64 (ke0 : Int), .int .u64 ro0, .slice ao0 n0 cap0] : Array Value).size := by kernel_rfl
 have few0 := fun (W : World) (hk : Below w.heap.size w W) => few14_any (t := t0) (ke := (ke0 : Int)) (ro := ro0) (obs_next l0 hk)
 by_cases hfw : few14P X0
 ·have fit0 := fun (W : World) (hk : Below w.heap.size w W) => rtfit_w (t := t0) (key := ke0) (ro := ro0) (obs_next l0 hk) (fun q => few_smalls hfw q) hw0
  cases hft : fitD t0 ke0 ro0 X0 with
  | false =>
   simp only [hft] at fit0
   obtain ⟨G, hG⟩ : ∃ G : Array Value, G = #[.int .i64 t0, .int .u64 (ke0 : Int), .int .u64 ro0, .slice ao0 n0 cap0] := ⟨_, rfl⟩
   simp only [← hG] at few0 fit0
   rw [← hG] at c2 c3 hzw
   rw [← hG]
   clear hG
   go_enter Tryz.func6, Tryz.ntmps6
   try simp only [List.append]
   go_wp2_with (first
    | go_skip
    | (with_reducible refine wpList_box rfl 25 _ rfl G rfl ?_; intro B W1 hN1 hB hk)
    | (with_reducible refine wpList_loadb (by first | kernel_rfl | with_unfolding_all rfl) 25 _ rfl B rfl G hB _ Tryz.underlying25 (by kernel_rfl) hzw ?_)
    | (go_at_call 8; (with_reducible refine ((few0 _ hk).yes hfw).mono ?_); rintro e w2 ⟨rfl, hb8⟩; replace hB := hB.next hb8; replace hk := hk.trans (hb8.mono hk.size); clear hb8)
    | (go_at_call 11; (with_reducible refine (fit0 _ hk).mono ?_); rintro e w3 ⟨rfl, hb8⟩; replace hB := hB.next hb8; replace hk := hk.trans (hb8.mono hk.size); clear hb8)
    | (go_at_call 9; (with_reducible refine (awake14_any _).mono ?_); rintro e w4 ⟨rfl, hb8⟩; replace hk := hk.trans (hb8.mono hk.size)))
   go_ret
   exact ⟨rfl, hk⟩
  | true =>
   have hT := tre_of hft
   have hsm : Smalls X0 := few_smalls hfw (show fitW ⟨t0, ke0, ro0, X0⟩ = true by unfold fitD at hft; simp only [Bool.and_eq_true] at hft; exact hft.1.1)
   have hn16 : n0 ≤ 16 := by rw [← hn.out]; exact hfw.1
   have hq : ∀ x ∈ X0, 0 ≤ x.quota ∧ x.quota ≤ 4096 := fun x hx => (sound_q (hT.snd x hx)).1
   obtain ⟨r, hrf, hrk, hrq⟩ := hT.rot
   have hri := fnd_id hrf
   have hfO : fO X0 ro0 = r := by unfold fO; rw [hrf]; rfl
   have hqr : qOf X0 ro0 = r.quota := by unfold qOf; rw [hrf]
   have hlq : Hid (¬ r.quota < (n0 : Int)) := by refine (?_ : ¬ r.quota < (n0 : Int)); have := tre_len hT; rw [hqr, hn.out] at this; omega
   have hpq : Hid (sumO X0 pagN ≤ r.quota) := by have := tre_pag hT; rw [hqr] at this; exact this
   obtain ⟨Cf, hF⟩ := l0.fam
   have fd0 := fun {W : World} (hk : Below w.heap.size w W) => rfind_at (t := t0) (ke := (ke0 : Int)) (ro := ro0) (i := ro0) l0 hk
   rw [hrf, hfO] at fd0
   have rm0 := fun {W : World} {C : Array Value} (hk : Below w.heap.size w W) (hC : ObD (LtN W) W C r) => room_w (t := t0) (ke := (ke0 : Int)) (ro := ro0) (hF.next hk) hT.srt (by omega) hq hC (hsm r hri.2) (hq r hri.2)
   have hrm : Hid (¬ r.quota - (pagO r + (r.links.map (qOf X0)).sum) < 0) := by refine (?_ : ¬ r.quota - (pagO r + (r.links.map (qOf X0)).sum) < 0); have := use_all hT hri.2; omega
   have us0 := fun {W : World} {C : Array Value} {o : Ob} (hk : Below w.heap.size w W) (ho : o ∈ X0) (hC : ObD (LtN W) W C o) => uses_w (t := t0) (ke := (ke0 : Int)) (ro := ro0) (hF.next hk) hT.srt (by omega) hq hC (hsm o ho)
   have ab0 := fun {W : World} (o : Ob) (hk : Below w.heap.size w W) (ho : o ∈ X0) => tabove_v (t := t0) (ke := (ke0 : Int)) (ro := ro0) (i := o.id) (hF.next hk) hT.srt (by omega) (fun x hx => (hsm x hx).c5)
   simp only [hft] at fit0
   obtain ⟨G, hG⟩ : ∃ G : Array Value, G = #[.int .i64 t0, .int .u64 (ke0 : Int), .int .u64 ro0, .slice ao0 n0 cap0] := ⟨_, rfl⟩
   simp only [← hG] at few0 fit0 fd0 rm0 us0 ab0
   rw [← hG] at c2 c3 hzw
   rw [← hG]
   clear hG hft hqr hfO hrf
   generalize r.quota - (pagO r + (r.links.map (qOf X0)).sum) = rm at rm0 hrm
   go_enter Tryz.func6, Tryz.ntmps6
   try simp only [List.append]
   go_wp2_with (first
    | go_skip
    | (with_reducible refine wpList_box rfl 25 _ rfl G rfl ?_; intro B W1 hN1 hB hk)
    | (with_reducible refine wpList_loadb (by first | kernel_rfl | with_unfolding_all rfl) 25 _ rfl B rfl G hB _ Tryz.underlying25 (by kernel_rfl) hzw ?_)
    | (go_at_call 8; (with_reducible refine ((few0 _ hk).yes hfw).mono ?_); rintro e w2 ⟨rfl, hb8⟩; replace hB := hB.next hb8; replace hk := hk.trans (hb8.mono hk.size); clear hb8)
    | (go_at_call 11; (with_reducible refine (fit0 _ hk).mono ?_); rintro e w3 ⟨rfl, hb8⟩; replace hB := hB.next hb8; replace hk := hk.trans (hb8.mono hk.size); clear hb8)
    | (with_reducible refine wpList_load1 (by first | kernel_rfl | with_unfolding_all rfl) _ _ rfl B _ rfl _ _ hB _ c2 Tryz.isAgg22 ?_)
    | (with_reducible refine wpList_load1 (by first | kernel_rfl | with_unfolding_all rfl) _ _ rfl B _ rfl _ _ hB _ c3 Tryz.isAgg23 ?_)
    | (go_at_call 32; (with_reducible refine (fd0 hk).mono ?_); rintro e w5 ⟨C3, rfl, o3, hb8⟩; replace hB := hB.next hb8; replace hk := hk.trans (hb8.mono hk.size); clear hb8; have hz3 := o3.size; have q3 := o3.quota)
    | ((with_reducible refine wpList_alloc rfl 43 rfl zC zero40 ?_); intro R W6 hN6 hRa hk6)
    | ((with_reducible refine wpList_store_blk rfl _ _ _ rfl R rfl C3 rfl zC hRa (size40C hz3) (zC_size.trans hz3.symm) o3.one ?_); intro V6 hR q6; have hb8 : Below w5.heap.size w5 V6 := q6.below w5.heap.size w5 (by have := hN6.out; omega) hk6; replace o3 := ob_lt o3 hk hb8; replace hB := hB.next hb8; replace hk := hk.trans (hb8.mono hk.size); clear hb8; clear hN6 hRa hk6 q6)
    | (with_reducible refine wpList_load1 (by first | kernel_rfl | with_unfolding_all rfl) _ _ rfl R _ rfl _ _ hR _ q3 Tryz.isAgg3 ?_)
    | (with_reducible refine wpList_loadb (by first | kernel_rfl | with_unfolding_all rfl) 43 _ rfl R rfl C3 hR _ Tryz.underlying43 (by kernel_rfl) (size40C hz3) ?_)
    | ((with_reducible refine wpList_test (by first | kernel_rfl | with_unfolding_all rfl) .gtr 3 _ _ _ rfl (.int .i64 (n0 : Int)) _ rfl rfl (tgt_int _ _ _ _ _ _) ?_ ?_) <;> first | (intro e1; exfalso; have h1 := e1.out; have h2 := hlq.out; omega) | intro e1)
    | (go_at_call 16; (with_reducible refine (rm0 hk (ob_up o3 hk)).mono ?_); rintro e w7 ⟨rfl, hb8⟩; replace hB := hB.next hb8; replace hR := hR.next hb8; replace hk := hk.trans (hb8.mono hk.size); clear hb8)
    | ((with_reducible refine wpList_test (by first | kernel_rfl | with_unfolding_all rfl) .lss 3 _ _ _ rfl (.int .i64 rm) _ rfl rfl (tlt_int _ _ _ _ _ _) ?_ ?_) <;> first | (intro e2; exfalso; have h1 := e2.out; have h2 := hrm.out; omega) | intro e2))
   try clear e1
   try clear e2
   clear o3
   go_loopw [5, 44] (fun v j wr => ∃ k : Nat, k ≤ n0 ∧ j = .int .i64 k ∧ v = .int .i64 (sumO (X0.take k) pagN) ∧ Blk wr B G 25 ∧ Blk wr R C3 43 ∧ Below w.heap.size w wr) (fun _ j _ => n0 - (intOf j).toNat)
   case atStart => exact ⟨0, Nat.zero_le _, rfl, rfl, hB, hR, hk⟩
   case round =>
    clear hB hR hk
    obtain ⟨k, hkn1, rfl, rfl, hB, hR, hk⟩ := hrel
    by_cases hkn : k < n0
    ·have hkX : k < X0.length := by rw [hn.out]; exact hkn
     have hom := oat_mem hkX
     have hbd := sumO_bd (X0.take k) pagN fun x hx => ⟨(pagN_le (hsm x (List.mem_of_mem_take hx))).1, by have := pag_quota (hT.snd x (List.mem_of_mem_take hx)); have := (hq x (List.mem_of_mem_take hx)).2; omega⟩
     have hpo : 0 ≤ pagN (oat X0 k) ∧ pagN (oat X0 k) ≤ 4096 := ⟨(pagN_le (hsm _ hom)).1, by have := pag_quota (hT.snd _ hom); have := (hq _ hom).2; omega⟩
     have hwr : IntKind.i64.wrap (sumO (X0.take k) pagN + pagN (oat X0 k)) = sumO (X0.take k) pagN + pagN (oat X0 k) := by rw [IntKind.wrap_i64]; have : (X0.take k).length ≤ 16 := (by rw [List.length_take]; omega); omega
     have hst := sumO_take (f := pagN) hkX
     have huq := use_all hT hom
     have hwy := up_way hT hom
     have hnil := up_nil hT hom
     have hlst := up_last hT hom
     have hwl : (wayL X0 (oat X0 k).id).length ≤ n0 := by have := way_le hT hom; rw [hn.out] at this; omega
     replace us0 := fun {W : World} {C : Array Value} (hk : Below w.heap.size w W) (hC : ObD (LtN W) W C (oat X0 k)) => us0 hk hom hC
     replace ab0 := fun {W : World} (hk : Below w.heap.size w W) => ab0 (W := W) (oat X0 k) hk hom
     simp only [hwy] at ab0
     have pg0 := fun {W : World} {C : Array Value} (hC : ObD (LtN W) W C (oat X0 k)) => rpages_any hC (hsm _ hom)
     obtain ⟨b, off, C, rfl, hbb, hC, hr⟩ := obs_at l0 hkn
     have hkn' : (k : Int) < n0 := by omega
     have hz := hC.size
     have h1c := hC.one
     have i0 := hC.id
     have i3 := hC.quota
     have huq' : Hid (¬ (oat X0 k).quota < pagO (oat X0 k) + ((oat X0 k).links.map (qOf X0)).sum) := by refine (?_ : ¬ (oat X0 k).quota < _); omega
     have hr2 := range_block hr (hk.block b hbb)
     generalize pagO (oat X0 k) + ((oat X0 k).links.map (qOf X0)).sum = us at us0 huq'
     generalize wayL X0 (oat X0 k).id = L at ab0 hnil hlst hwl
     generalize sumO (X0.take k) pagN = s0 at hst hwr ⊢
     generalize pagN (oat X0 k) = pk at hst hwr pg0
     clear hwy huq hbd hpo
     go_wp2_with (first
      | (with_reducible refine wpList_loadm (by kernel_rfl) 43 _ rfl b _ rfl C hr2 _ Tryz.underlying43 (by kernel_rfl) (size40C hz) ?_)
      | ((with_reducible refine wpList_alloc rfl 43 rfl zC zero40 ?_); intro P W8 hN8 hPa hk8)
      | ((with_reducible refine wpList_store_blk rfl _ _ _ rfl P rfl C rfl zC hPa (size40C hz) (zC_size.trans hz.symm) h1c ?_); intro V8 hP q8; have hb8 : Below wr.heap.size wr V8 := q8.below wr.heap.size wr (by have := hN8.out; omega) hk8; replace hB := hB.next hb8; replace hR := hR.next hb8; replace hk := hk.trans (hb8.mono hk.size); clear hb8; clear hN8 hPa hk8 q8))
     refine PgM.region_out (S := fun W => Below V8.heap.size V8 W) hmx ((Below.refl _ _).drew) (fun hS => ?_)
     generalize V8.drew = v9 at hS ⊢
     have huq2 : Hid (¬ (oat X0 k).quota < us) := by refine (?_ : ¬ (oat X0 k).quota < us); have := huq'.out; omega
     refine wpAnyH_sym (by kernel_rfl) (fun _ _ _ _ _ h => h) hS [(0, some (.agg G)), (1, some (.agg C)), (3, none), (4, some (.int .i64 (oat X0 k).quota))] (l' := #[true, true, false, true, true, false]) (a' := { tmps := #[.agg G, .pointer (some ⟨B, 0, none⟩), u2, .pointer (some ⟨R, 0, none⟩), .bool true, .int .i64 s0, undef, .pointer (some ⟨P, 0, none⟩), u8, .agg G, .bool true, .bool false, .bool false, .agg G, .bool true, .bool false, .bool false, undef, .tuple #[.agg C3, .bool true], .agg G, .pointer (some ⟨B, 2, none⟩), .int .u64 ro0, .tuple #[.agg C3, .bool true], .agg C3, .bool true, .bool true, .bool false, .bool false, .pointer (some ⟨B, 3, none⟩), .slice (some ⟨b, off, none⟩) n0 cap0, .int .i64 n0, .pointer (some ⟨R, 3, none⟩), .int .i64 r.quota, .bool false, .bool false, .bool false, .agg G, .agg C3, .int .i64 rm, .bool false, .bool false, .pointer (some ⟨B, 3, none⟩), .slice (some ⟨b, off, none⟩) n0 cap0, .int .i64 n0, .int .i64 k, .bool true, .pointer (some ⟨b, off + k * 51, none⟩), .agg C, .agg G, .agg C, u50, .pointer (some ⟨P, 3, none⟩), .int .i64 (oat X0 k).quota, u53, u54, u55, u56, u57, u58, u59, u60, u61, u62, u63, u64, u65, u66, u67, u68, u69, u70, u71, u72, u73, u74, u75, u76, u77, u78, u79, u80, u81, u82, u83, u84, u85, u86, u87, u88, u89, u90, u91, u92, u93, u94, u95, undef, undef, undef, undef, undef, undef, undef], defers := [] }) (obs := [.load 25 B 0 (.agg G), .load 43 P 0 (.agg C), .load 3 P 3 (.int .i64 (oat X0 k).quota)]) (n := 2) (by kernel_rfl) (by kernel_rfl) ⟨ob_loadb (fun _ h => hB.next h) Tryz.underlying25 (by kernel_rfl) hzw, ob_loadb (fun _ h => hP.next h) Tryz.underlying43 (by kernel_rfl) (size40C hz), ob_load1 (fun _ h => hP.next h) i3 Tryz.isAgg3, trivial⟩ ?_
     refine wpAnyH_callL (i := 2) (fuel := 1) (f := 14) (vs := [.agg G, .agg C]) (d := some 50) (by kernel_rfl) (by kernel_rfl) (by kernel_rfl) Tryz.call14 (us0 (hk.trans (hS.mono hk.size)) (hC.next (hk.trans (hS.mono hk.size)))) ?_
     rintro e v10 ⟨rfl, hb10⟩
     have hS10 : Below V8.heap.size V8 v10 := hS.trans (hb10.mono hS.size)
     refine ⟨_, rfl, hS10, ?_⟩
     refine wpAnyH_sym (by kernel_rfl) (fun _ _ _ _ _ h => h) hS10 [(5, some (.bool false))] (l' := #[true, true, true, true, true, true]) (a' := { tmps := #[.agg G, .pointer (some ⟨B, 0, none⟩), u2, .pointer (some ⟨R, 0, none⟩), .bool true, .int .i64 s0, undef, .pointer (some ⟨P, 0, none⟩), u8, .agg G, .bool true, .bool false, .bool false, .agg G, .bool true, .bool false, .bool false, undef, .tuple #[.agg C3, .bool true], .agg G, .pointer (some ⟨B, 2, none⟩), .int .u64 ro0, .tuple #[.agg C3, .bool true], .agg C3, .bool true, .bool true, .bool false, .bool false, .pointer (some ⟨B, 3, none⟩), .slice (some ⟨b, off, none⟩) n0 cap0, .int .i64 n0, .pointer (some ⟨R, 3, none⟩), .int .i64 r.quota, .bool false, .bool false, .bool false, .agg G, .agg C3, .int .i64 rm, .bool false, .bool false, .pointer (some ⟨B, 3, none⟩), .slice (some ⟨b, off, none⟩) n0 cap0, .int .i64 n0, .int .i64 k, .bool true, .pointer (some ⟨b, off + k * 51, none⟩), .agg C, .agg G, .agg C, .int .i64 us, .pointer (some ⟨P, 3, none⟩), .int .i64 (oat X0 k).quota, .bool false, u54, u55, u56, u57, u58, u59, u60, u61, u62, u63, u64, u65, u66, u67, u68, u69, u70, u71, u72, u73, u74, u75, u76, u77, u78, u79, u80, u81, u82, u83, u84, u85, u86, u87, u88, u89, u90, u91, u92, u93, u94, u95, undef, undef, undef, undef, undef, undef, undef], defers := [] }) (obs := [.test .gtr 3 (.tmp 50) (.tmp 52) (.int .i64 us) (.int .i64 (oat X0 k).quota) (.bool false)]) (n := 0) (by kernel_rfl) (by kernel_rfl) ⟨ob_no (fun _ => tgt_int _ _ _ _ _ _) huq2, trivial⟩ ?_
     refine wpAnyH_done (by kernel_rfl) ?_ _
     replace hB := hB.next hS10
     replace hR := hR.next hS10
     replace hP := hP.next hS10
     replace hk := hk.trans (hS10.mono hk.size)
     clear hS10 hS hb10
     go_wp2_with (first
      | (with_reducible refine wpList_loadb (by kernel_rfl) 25 _ rfl B rfl G hB _ Tryz.underlying25 (by kernel_rfl) hzw ?_)
      | (with_reducible refine wpList_load1 (by kernel_rfl) _ _ rfl P _ rfl _ _ hP _ i0 Tryz.isAgg22 ?_)
      | (go_at_call 21; (with_reducible refine (ab0 hk).mono ?_); rintro e w11 ⟨V, rfl, hown, hb8⟩; replace hB := hB.next hb8; replace hR := hR.next hb8; replace hP := hP.next hb8; replace hk := hk.trans (hb8.mono hk.size); clear hb8; obtain ⟨al, cl, rfl, hct⟩ := own_ct hown))
     have hkd := (Below.refl w11.heap.size w11).drew
     refine PgM.region_out (S := fun W => Below w11.heap.size w11 W) hmx hkd (fun hS => ?_)
     have hct2 := hct.laterK fun b hb => hkd.block b hb.2
     clear hkd hown
     generalize w11.drew = v12 at hS hct2 ⊢
     have qt : Hid (¬ ¬ true = true) := fun q => q rfl
     have qf : Hid (¬ ¬ false = false) := fun q => q rfl
     have qr : Hid (¬ ¬ ro0 = ro0) := fun q => q rfl
     have q9 : Hid (¬ (n0 : Int) < (L.length : Int)) := by refine (?_ : ¬ (n0 : Int) < (L.length : Int)); omega
     by_cases q1 : (oat X0 k).id = ro0
     ·replace q1 : Hid ((oat X0 k).id = ro0) := q1
      have hL0 : L = [] := hnil.2 q1.out
      have q2i : Hid ((L.length : Int) = 0) := by show _ = _; rw [hL0]; rfl
      have q2p : Hid (¬ (0 : Int) < (L.length : Int)) := by refine (?_ : ¬ (0 : Int) < (L.length : Int)); have := q2i.out; omega
      refine wpAnyH_sym (by kernel_rfl) (fun _ _ _ _ _ h => h) hS [(0, none), (1, some (.int .i64 L.length)), (2, some (.bool true)), (3, none), (4, some (.int .u64 (oat X0 k).id)), (5, none), (6, some (.int .u64 ro0)), (7, some (.bool true)), (8, some (.bool false)), (9, none), (10, none), (11, some (.int .i64 L.length)), (12, some (.bool false)), (13, none), (14, none), (15, none), (16, none), (17, none), (18, none), (19, none), (20, none), (21, none), (22, none), (23, none), (24, none), (25, none), (26, none), (27, some (.int .i64 L.length)), (28, none), (29, some (.slice (some ⟨b, off, none⟩) n0 cap0)), (30, some (.int .i64 n0)), (31, some (.bool false)), (32, none)] (l' := #[true, true, true, true, true, true, true, true, true, true, true, true, true, true, true, true, true, true, true, true, true, true, true, true, true, true, true, true, true, true, true, true, true]) (a' := { tmps := #[.agg G, .pointer (some ⟨B, 0, none⟩), u2, .pointer (some ⟨R, 0, none⟩), .bool true, .int .i64 s0, undef, .pointer (some ⟨P, 0, none⟩), .slice al L.length cl, .agg G, .bool true, .bool false, .bool false, .agg G, .bool true, .bool false, .bool false, undef, .tuple #[.agg C3, .bool true], .agg G, .pointer (some ⟨B, 2, none⟩), .int .u64 ro0, .tuple #[.agg C3, .bool true], .agg C3, .bool true, .bool true, .bool false, .bool false, .pointer (some ⟨B, 3, none⟩), .slice (some ⟨b, off, none⟩) n0 cap0, .int .i64 n0, .pointer (some ⟨R, 3, none⟩), .int .i64 r.quota, .bool false, .bool false, .bool false, .agg G, .agg C3, .int .i64 rm, .bool false, .bool false, .pointer (some ⟨B, 3, none⟩), .slice (some ⟨b, off, none⟩) n0 cap0, .int .i64 n0, .int .i64 k, .bool true, .pointer (some ⟨b, off + k * 51, none⟩), .agg C, .agg G, .agg C, .int .i64 us, .pointer (some ⟨P, 3, none⟩), .int .i64 (oat X0 k).quota, .bool false, .agg G, .pointer (some ⟨P, 0, none⟩), .int .u64 (oat X0 k).id, .slice al L.length cl, .slice al L.length cl, .int .i64 L.length, .bool true, .pointer (some ⟨P, 0, none⟩), .int .u64 (oat X0 k).id, .pointer (some ⟨B, 2, none⟩), .int .u64 ro0, .bool true, .bool false, .bool false, .slice al L.length cl, .int .i64 L.length, .bool false, .bool false, undef, undef, undef, undef, undef, undef, undef, undef, undef, .bool false, .bool false, .bool false, .slice al L.length cl, .int .i64 L.length, .pointer (some ⟨B, 3, none⟩), .slice (some ⟨b, off, none⟩) n0 cap0, .int .i64 n0, .bool false, .bool false, u91, u92, u93, u94, u95, undef, undef, undef, undef, undef, undef, undef], defers := [] }) (obs := [.ln 28 3 (.slice al L.length cl) (.int .i64 L.length), .test .eql 3 (.tmp 59) (.const (.int .i64 0)) (.int .i64 L.length) (.int .i64 0) (.bool true), .load 22 P 0 (.int .u64 (oat X0 k).id), .load 22 B 2 (.int .u64 ro0), .test .eql 22 (.tmp 62) (.tmp 64) (.int .u64 (oat X0 k).id) (.int .u64 ro0) (.bool true), .test .neq 4 (.tmp 60) (.tmp 65) (.bool true) (.bool true) (.bool false), .ln 28 3 (.slice al L.length cl) (.int .i64 L.length), .test .gtr 3 (.tmp 69) (.const (.int .i64 0)) (.int .i64 L.length) (.int .i64 0) (.bool false), .ln 28 3 (.slice al L.length cl) (.int .i64 L.length), .load 23 B 3 (.slice (some ⟨b, off, none⟩) n0 cap0), .ln 23 3 (.slice (some ⟨b, off, none⟩) n0 cap0) (.int .i64 n0), .test .gtr 3 (.tmp 85) (.tmp 88) (.int .i64 L.length) (.int .i64 n0) (.bool false)]) (n := 0) (by kernel_rfl) (by kernel_rfl) ⟨lnw_at, ob_yes (fun _ => eqg_int _ _ _ _ _ _) q2i, ob_load1 (fun _ h => hP.next h) i0 Tryz.isAgg22, ob_load1 (fun _ h => hB.next h) c2 Tryz.isAgg22, ob_yes (fun _ => eqg_int _ _ _ _ _ _) q1, ob_no (fun _ => neg_bool _ _ _ _) qt, lnw_at, ob_no (fun _ => tgt_int _ _ _ _ _ _) q2p, lnw_at, ob_load1 (fun _ h => hB.next h) c3 Tryz.isAgg23, ob_ln, ob_no (fun _ => tgt_int _ _ _ _ _ _) q9, trivial⟩ ?_
      refine wpAnyH_done (by kernel_rfl) ?_ _
      replace hB := hB.next hS
      replace hR := hR.next hS
      replace hP := hP.next hS
      replace hk := hk.trans (hS.mono hk.size)
      go_wp2_with (first
       | (with_reducible refine wpList_loadb (by kernel_rfl) 43 _ rfl P rfl C hP _ Tryz.underlying43 (by kernel_rfl) (size40C hz) ?_)
       | (go_at_call 34; (with_reducible refine (pg0 (hC.next hk)).mono ?_); rintro e w14 ⟨rfl, hb8⟩; replace hB := hB.next hb8; replace hR := hR.next hb8; replace hk := hk.trans (hb8.mono hk.size); clear hb8))
      go_roundw
      case rel => exact ⟨k + 1, by omega, by go_num, by rw [hst], hB, hR, hk⟩
      case measure => simp [intOf]; omega
     ·replace q1 : Hid (¬ (oat X0 k).id = ro0) := q1
      have hL0 : L ≠ [] := fun e => q1.out (hnil.1 e)
      have hlp : 0 < L.length := List.length_pos_iff.2 hL0
      have q2i : Hid (¬ (L.length : Int) = 0) := by refine (?_ : ¬ (L.length : Int) = 0); omega
      have q2p : Hid ((0 : Int) < (L.length : Int)) := by refine (?_ : (0 : Int) < (L.length : Int)); omega
      obtain ⟨m, hm⟩ : ∃ m, Hid (L.length = m + 1) := ⟨L.length - 1, by show _ = _; omega⟩
      have hm2 : m < L.length := by have := hm.out; omega
      have hms : IntKind.i64.wrap ((L.length : Int) - 1) = (m : Int) := by rw [IntKind.wrap_i64]; have := hm.out; omega
      obtain ⟨bl, ol, rfl, hbl0, hcl⟩ := ct_at hct hm2
      have hbl := hbl0.2
      have hlz : L.getD m 0 = ro0 := by have := hlst hL0; rw [last_getD, hm.out] at this; exact this
      rw [hlz] at hcl
      refine wpAnyH_sym (by kernel_rfl) (fun _ _ _ _ _ h => h) hS [(0, none), (1, some (.int .i64 L.length)), (2, some (.bool false)), (3, none), (4, some (.int .u64 (oat X0 k).id)), (5, none), (6, some (.int .u64 ro0)), (7, some (.bool false)), (8, some (.bool false)), (9, none), (10, none), (11, some (.int .i64 L.length)), (12, some (.bool true)), (13, none), (14, none), (15, none), (16, some (.int .i64 L.length)), (17, some (.int .i64 m)), (18, some (.pointer (some ⟨bl, ol + m, none⟩))), (19, some (.int .u64 ro0)), (20, none), (21, some (.int .u64 ro0)), (22, some (.bool false)), (23, none), (24, none), (25, none), (26, none), (27, some (.int .i64 L.length)), (28, none), (29, some (.slice (some ⟨b, off, none⟩) n0 cap0)), (30, some (.int .i64 n0)), (31, some (.bool false)), (32, none)] (l' := #[true, true, true, true, true, true, true, true, true, true, true, true, true, true, true, true, true, true, true, true, true, true, true, true, true, true, true, true, true, true, true, true, true]) (a' := { tmps := #[.agg G, .pointer (some ⟨B, 0, none⟩), u2, .pointer (some ⟨R, 0, none⟩), .bool true, .int .i64 s0, undef, .pointer (some ⟨P, 0, none⟩), .slice (some ⟨bl, ol, none⟩) L.length cl, .agg G, .bool true, .bool false, .bool false, .agg G, .bool true, .bool false, .bool false, undef, .tuple #[.agg C3, .bool true], .agg G, .pointer (some ⟨B, 2, none⟩), .int .u64 ro0, .tuple #[.agg C3, .bool true], .agg C3, .bool true, .bool true, .bool false, .bool false, .pointer (some ⟨B, 3, none⟩), .slice (some ⟨b, off, none⟩) n0 cap0, .int .i64 n0, .pointer (some ⟨R, 3, none⟩), .int .i64 r.quota, .bool false, .bool false, .bool false, .agg G, .agg C3, .int .i64 rm, .bool false, .bool false, .pointer (some ⟨B, 3, none⟩), .slice (some ⟨b, off, none⟩) n0 cap0, .int .i64 n0, .int .i64 k, .bool true, .pointer (some ⟨b, off + k * 51, none⟩), .agg C, .agg G, .agg C, .int .i64 us, .pointer (some ⟨P, 3, none⟩), .int .i64 (oat X0 k).quota, .bool false, .agg G, .pointer (some ⟨P, 0, none⟩), .int .u64 (oat X0 k).id, .slice (some ⟨bl, ol, none⟩) L.length cl, .slice (some ⟨bl, ol, none⟩) L.length cl, .int .i64 L.length, .bool false, .pointer (some ⟨P, 0, none⟩), .int .u64 (oat X0 k).id, .pointer (some ⟨B, 2, none⟩), .int .u64 ro0, .bool false, .bool false, .bool false, .slice (some ⟨bl, ol, none⟩) L.length cl, .int .i64 L.length, .bool true, .bool true, .slice (some ⟨bl, ol, none⟩) L.length cl, .slice (some ⟨bl, ol, none⟩) L.length cl, .int .i64 L.length, .int .i64 m, .pointer (some ⟨bl, ol + m, none⟩), .int .u64 ro0, .pointer (some ⟨B, 2, none⟩), .int .u64 ro0, .bool false, .bool false, .bool false, .bool false, .slice (some ⟨bl, ol, none⟩) L.length cl, .int .i64 L.length, .pointer (some ⟨B, 3, none⟩), .slice (some ⟨b, off, none⟩) n0 cap0, .int .i64 n0, .bool false, .bool false, u91, u92, u93, u94, u95, undef, undef, undef, undef, undef, undef, undef], defers := [] }) (obs := [.ln 28 3 (.slice (some ⟨bl, ol, none⟩) L.length cl) (.int .i64 L.length), .test .eql 3 (.tmp 59) (.const (.int .i64 0)) (.int .i64 L.length) (.int .i64 0) (.bool false), .load 22 P 0 (.int .u64 (oat X0 k).id), .load 22 B 2 (.int .u64 ro0), .test .eql 22 (.tmp 62) (.tmp 64) (.int .u64 (oat X0 k).id) (.int .u64 ro0) (.bool false), .test .neq 4 (.tmp 60) (.tmp 65) (.bool false) (.bool false) (.bool false), .ln 28 3 (.slice (some ⟨bl, ol, none⟩) L.length cl) (.int .i64 L.length), .test .gtr 3 (.tmp 69) (.const (.int .i64 0)) (.int .i64 L.length) (.int .i64 0) (.bool true), .ln 28 3 (.slice (some ⟨bl, ol, none⟩) L.length cl) (.int .i64 L.length), .test .sub 3 (.tmp 74) (.const (.int .i64 1)) (.int .i64 L.length) (.int .i64 1) (.int .i64 m), .ia 28 (.slice (some ⟨bl, ol, none⟩) L.length cl) (.int .i64 m) (.pointer (some ⟨bl, ol + m, none⟩)), .load 22 bl (ol + m) (.int .u64 ro0), .load 22 B 2 (.int .u64 ro0), .test .neq 22 (.tmp 77) (.tmp 79) (.int .u64 ro0) (.int .u64 ro0) (.bool false), .ln 28 3 (.slice (some ⟨bl, ol, none⟩) L.length cl) (.int .i64 L.length), .load 23 B 3 (.slice (some ⟨b, off, none⟩) n0 cap0), .ln 23 3 (.slice (some ⟨b, off, none⟩) n0 cap0) (.int .i64 n0), .test .gtr 3 (.tmp 85) (.tmp 88) (.int .i64 L.length) (.int .i64 n0) (.bool false)]) (n := 0) (by kernel_rfl) (by kernel_rfl) ⟨lnw_at, ob_no (fun _ => eqg_int _ _ _ _ _ _) q2i, ob_load1 (fun _ h => hP.next h) i0 Tryz.isAgg22, ob_load1 (fun _ h => hB.next h) c2 Tryz.isAgg22, ob_no (fun _ => eqg_int _ _ _ _ _ _) q1, ob_no (fun _ => neg_bool _ _ _ _) qf, lnw_at, ob_yes (fun _ => tgt_int _ _ _ _ _ _) q2p, lnw_at, sub_at hm hms, iaw_at hm2, ob_word (fun _ h => (World.cell?_of_block (w := w11) (a := ⟨bl, ol + m, none⟩) (h.block bl hbl)).trans hcl) Tryz.isAgg22, ob_load1 (fun _ h => hB.next h) c2 Tryz.isAgg22, ob_no (fun _ => neg_int _ _ _ _ _ _) qr, lnw_at, ob_load1 (fun _ h => hB.next h) c3 Tryz.isAgg23, ob_ln, ob_no (fun _ => tgt_int _ _ _ _ _ _) q9, trivial⟩ ?_
      refine wpAnyH_done (by kernel_rfl) ?_ _
      replace hB := hB.next hS
      replace hR := hR.next hS
      replace hP := hP.next hS
      replace hk := hk.trans (hS.mono hk.size)
      go_wp2_with (first
       | (with_reducible refine wpList_loadb (by kernel_rfl) 43 _ rfl P rfl C hP _ Tryz.underlying43 (by kernel_rfl) (size40C hz) ?_)
       | (go_at_call 34; (with_reducible refine (pg0 (hC.next hk)).mono ?_); rintro e w14 ⟨rfl, hb8⟩; replace hB := hB.next hb8; replace hR := hR.next hb8; replace hk := hk.trans (hb8.mono hk.size); clear hb8))
      go_roundw
      case rel => exact ⟨k + 1, by omega, by go_num, by rw [hst], hB, hR, hk⟩
      case measure => simp [intOf]; omega
    ·obtain rfl : k = n0 := by omega
     have htk : X0.take k = X0 := by rw [← hn.out]; exact List.take_length
     rw [htk]
     generalize sumO X0 pagN = sF at hpq
     go_wp2_with (first
      | (with_reducible refine wpList_load1 (by first | kernel_rfl | with_unfolding_all rfl) _ _ rfl R _ rfl _ _ hR _ q3 Tryz.isAgg3 ?_)
      | ((with_reducible refine wpList_test (by first | kernel_rfl | with_unfolding_all rfl) .leq 3 _ _ _ rfl _ _ rfl rfl (tle_int _ _ _ _ _ _) ?_ ?_) <;> first | (intro e3; exfalso; have h1 := e3.out; have h2 := hpq.out; omega) | intro e3)
      | (go_at_call 9; (with_reducible refine (awake14_any _).mono ?_); rintro e w4 ⟨rfl, hb8⟩; replace hk := hk.trans (hb8.mono hk.size)))
     go_ret
     exact ⟨rfl, hk⟩
 ·obtain ⟨G, hG⟩ : ∃ G : Array Value, G = #[.int .i64 t0, .int .u64 (ke0 : Int), .int .u64 ro0, .slice ao0 n0 cap0] := ⟨_, rfl⟩
  simp only [← hG] at few0
  rw [← hG] at c2 c3 hzw
  rw [← hG]
  clear hG
  go_enter Tryz.func6, Tryz.ntmps6
  try simp only [List.append]
  go_wp2_with (first
   | go_skip
   | (with_reducible refine wpList_box rfl 25 _ rfl G rfl ?_; intro B W1 hN1 hB hk)
   | (with_reducible refine wpList_loadb (by first | kernel_rfl | with_unfolding_all rfl) 25 _ rfl B rfl G hB _ Tryz.underlying25 (by kernel_rfl) hzw ?_)
   | (go_at_call 8; (with_reducible refine ((few0 _ hk).no hfw).mono ?_); rintro e w2 ⟨rfl, hb8⟩; replace hB := hB.next hb8; replace hk := hk.trans (hb8.mono hk.size); clear hb8)
   | (go_at_call 9; (with_reducible refine (awake14_any _).mono ?_); rintro e w4 ⟨rfl, hb8⟩; replace hk := hk.trans (hb8.mono hk.size)))
  go_ret
  exact ⟨rfl, hk⟩

theorem lifted (os : Os) (started : os.Started) (H : Type) (enc : TypeId × Value → H) :
  ReturnsInHanded {} Tryz.checked os 6 .any (Rows.treeAllSpec.pre6 enc Tryz.prog Tryz.f6 Rows.treeAllRow.domain false) (Rows.treeAllSpec.post enc Tryz.prog Tryz.f6 false true false false) := by
 refine returnsInHanded_of_change (C := Tryz.checked) own started (by kernel_rfl) Tryz.func6
  (ChangeSpec.witness6 (enc := enc) (C := Tryz.checked) false ⟨#[], #[.agg #[.int .i64 0, .int .u64 0, .int .u64 0, .slice none 0 0]], []⟩ 8 (by kernel_rfl) (by kernel_rfl) (by kernel_rfl) (by kernel_rfl)) ?_
 intro W base args ds gs before hval0 hW hcnd _
 have hval : ∀ (j : Nat) t v, Tryz.f6.params[j]? = some t → args[j]? = some v → Value.okWide Tryz.prog W .any base t v := hval0
 have hW' := hW
 obtain ⟨p, q, hA0, hV, rfl, hfz, hnd⟩ := hW
 have hA : DataW.TrodAll enc Tryz.prog W 0 (fun _ => true) true Tryz.f6.params.toList args.toList ds p := hA0
 rw [Tryz.params6] at hA hval
 obtain ⟨v0, vs0, d0, ds0, p0, q0, hargs, rfl, rfl, h0, r0⟩ := trodAll_cons hA
 obtain ⟨rfl, rfl, rfl⟩ := trodAll_nil r0
 obtain rfl : args = #[v0] := by cases args; simp_all
 obtain ⟨rfl, rfl⟩ := trodVars_none hV
 obtain ⟨t0, ke0, ro0, ao0, n0, cap0, X0, rfl, l0⟩ := worldW_of_trod (hval 0 25 v0 rfl rfl) h0
 have k0 := h0
 have lt0 : ∀ x ∈ p0, x.block < W.heap.size := by obtain ⟨m, hm⟩ := k0; exact DataW.trod_lt m _ _ _ hm
 clear hA0 hval0
 refine (walk t0 ke0 ro0 ao0 n0 cap0 X0 W l0).mono fun e W' ⟨he, bel⟩ => ?_
 subst he
 exact ⟨_, rfl, _, _, _, [], _, [], hW', trodAll_mk1 (shut_bool Tryz.underlying4 _), (trodAll_cons_mk (Below.trod laidOut (by kernel_rfl) (of_decide_eq_true (by kernel_rfl)) k0 bel lt0) trodAll_mk0), rfl, bel.frame _, fun h => by cases h⟩

theorem over : Rows.treeAllRow.holds Tryz.pinned (OpenSpec.ofChange Rows.treeAllSpec) :=
 OpenClaim.holds_of_wide 6 Tryz.f6 rfl rfl rfl rfl rfl rfl rfl ⟨rfl, rfl, rfl, rfl, rfl⟩ rfl rfl rfl rfl rfl (by kernel_rfl) Tryz.func6 (by kernel_rfl)
  (of_decide_eq_true (by kernel_rfl)) (by unfold Func.isWrapper; first | (rw [if_pos (by decide +kernel)]; kernel_rfl) | (rw [if_neg (by decide +kernel)]; exact ⟨rfl, rfl⟩))
  (fun os started H enc _ => lifted os started H enc)

end treeAll
theorem treeAll_holds : Rows.TreeAllSaid :=
 treeAll.over
#print axioms treeAll_holds
end Go.Proofs.YtnhjfjhbmekamaaGreat
