/-
 PROVED HERE: what the document's Put returns when it is called, and where that lies in memory (a contract over this transla. What is asked stands at each.
-/
import Derived.Test.YtiiaohejldchdaaGreatZ23
namespace Go.Proofs.YtiiaohejldchdaaGreat
set_option maxRecDepth 100000
set_option maxHeartbeats 8000000
open Go.RowKit Go.Shelf
set_option linter.unusedVariables false
attribute [local go_sem] Oper.semAt_some

theorem rput_d {D0 : Nat → Prop} {w : World} {t ke ro : Int} {ao : Option Addr} {n cap : Nat} {X : List Ob} {C : Array Value} {x : Ob} (hD : ∀ b, D0 b → b < w.heap.size) (h : ObsD (LtN w) D0 w ao n cap X) (hs : Srt X) (hn16 : n < 1024) (hx : ObD D0 w C x) : Calls Tryz.prog 32 #[.agg #[.int .i64 t, .int .u64 ke, .int .u64 ro, .slice ao n cap], .agg C] w fun e w' => ∃ ao2 n2 cap2, e = .returned (.agg #[.int .i64 t, .int .u64 ke, .int .u64 ro, .slice ao2 n2 cap2]) ∧ ObsD (New w w') D0 w' ao2 n2 cap2 (puR X x) ∧ Below w.heap.size w w' := by
 have hmx : Tryz.prog.follows .mixedOrders = true := by kernel_rfl
 have hn : Hid (X.length = n) := h.1
 have hnc := h.2.1
 have hcm := h.2.2.1.1
 have ga1 := Tryz.isAgg22
 have ga3 := Tryz.isAgg23
 have d0 := hx.id
 have hz := hx.size
 have hrp : Hid (rpu (stps x X) x = puR X x) := rpu_eq hs x
 have hln : Hid ((puR X x).length ≤ n + 1) := by have := puR_len X x; rw [hn.out] at this; exact this
 clear hs
 have c3 : (#[.int .i64 t, .int .u64 ke, .int .u64 ro, .slice ao n cap] : Array Value)[3]? = some (.slice ao n cap) := rfl
 have hz2 : ∀ v, (Tryz.prog.info? 25).map (·.size) = some (#[.int .i64 t, .int .u64 ke, .int .u64 ro, v] : Array Value).size := fun _ => size43
 have hs2 : ∀ v, zW.size = (#[.int .i64 t, .int .u64 ke, .int .u64 ro, v] : Array Value).size := fun _ => rfl
 have h12 : ∀ ao n cap, (#[.int .i64 t, .int .u64 ke, .int .u64 ro, .slice ao n cap] : Array Value).all (·.oneCell') = true := fun _ _ _ => by kernel_rfl
 have cS : ∀ v, (#[.int .i64 t, .int .u64 ke, .int .u64 ro, .slice ao n cap] : Array Value).setIfInBounds 3 v = #[.int .i64 t, .int .u64 ke, .int .u64 ro, v] := fun v => rfl
 have hzG4 : (#[.int .i64 t, .int .u64 ke, .int .u64 ro, .slice ao n cap] : Array Value).size = 4 := rfl
 obtain ⟨G, hG⟩ : ∃ G : Array Value, G = #[.int .i64 t, .int .u64 ke, .int .u64 ro, .slice ao n cap] := ⟨_, rfl⟩
 rw [← hG] at c3 cS hzG4
 rw [← hG]
 clear hG
 go_enter Tryz.func32, Tryz.ntmps32
 go_wp2_with (first
  | (with_reducible refine wpList_box rfl _ _ rfl G rfl ?_; intro B W hB hb hk)
  | (with_reducible refine wpList_box rfl _ _ rfl C rfl ?_; intro B2 W2 hB2 hb2 hk2; replace hb := hb.next hk2; replace hk := hk.trans (hk2.mono hk.size))
  | ((with_reducible refine wpList_alloc rfl _ rfl zW zero43 ?_); intro R W0 hB1 hRA hk1; have hbA := hb.next hk1; have hb2A := hb2.next hk1; replace hk := hk.trans (hk1.mono hk.size)))
 have hne : B ≠ R := by have := hB.out; have := hB1.out; have := hB2.out; omega
 have hRl : Hid (w.heap.size ≤ R ∧ w.heap.size ≤ B) := by have := hB.out; have := hB1.out; have := hB2.out; refine (⟨?_, ?_⟩ : _ ∧ _) <;> omega
 have hBR0 : Hid (B < W0.heap.size ∧ R < W0.heap.size) := ⟨hbA.lt, hRA.lt⟩
 clear hB hB1 hB2 hk1 hk2 hb hb2
 go_loopw [5, 6, 7] (fun v vd j wr => ∃ (k : Nat) (cs : List Value) (A : List Ob) (d : Bool), k ≤ n ∧ j = .int .i64 k ∧ vd = .bool d ∧ Hid (stps x (X.take k) = (A, d)) ∧ wr.ownsRow W0.heap.size 43 51 v A.length cs ∧ RowO D0 wr A cs ∧ Below W0.heap.size W0 wr) (fun _ _ j _ => n - (intOf j).toNat)
 case atStart => exact ⟨0, [], [], false, Nat.zero_le _, rfl, rfl, rfl, World.ownsRow_nil _ _ _ _, rfl, Below.refl _ _⟩
 case round =>
  obtain ⟨k, cs, A, d, hkn1, rfl, rfl, hA, hown, hro, hb0⟩ := hrel
  have hbw := hk.trans (hb0.mono hk.size)
  have hb := hbA.next hb0
  have hb2 := hb2A.next hb0
  have hR := hRA.next hb0
  have hAl : A.length ≤ 2 * k := by have := stps_len x (X.take k) ([], false); rw [show (X.take k).foldl (stp x) ([], false) = stps x (X.take k) from rfl, hA.out] at this; simp at this; omega
  by_cases hkn : k < n
  ·obtain ⟨b, off, C', rfl, hbw0, hC', hrw⟩ := obs_atD h hkn
   have hkX : k < X.length := by rw [hn.out]; exact hkn
   have hr := range_block hrw (hbw.block b hbw0)
   have hbb : b < wr.heap.size := Nat.lt_of_lt_of_le hbw0 hbw.size
   replace hC' := hC'.laterK (w' := wr) fun b hb => hbw.block b (hD b hb)
   have hkn' : (k : Int) < n := by omega
   have hz' := hC'.size
   by_cases hne1 : (oat X k).id = x.id
   ·have hne : Hid (¬ ¬ (oat X k).id = x.id) := fun q => q hne1
    have hge1 : x.id ≤ (oat X k).id := by omega
    have hge : Hid (x.id ≤ (oat X k).id) := hge1
    clear hne1
    cases d with
    | true =>
     go_wp2_with (first
      | (with_reducible refine wpList_load1 (by kernel_rfl) _ _ rfl B _ rfl _ _ hb _ c3 ga3 ?_))
     refine PgM.region_out (S := fun W => Blk W B G 25 ∧ Blk W B2 C 43 ∧ W.rangeAt b (off + k * 51) C'.toList) hmx ⟨hb.next (Below.refl _ _).drew, hb2.next (Below.refl _ _).drew, range_block hr ((Below.refl _ wr).drew.block b hbb)⟩ (fun hS => ?_)
     have hkd := (Below.refl wr.heap.size wr).drew
     replace hown := own_next hown hkd
     replace hb0 := hb0.trans (hkd.mono hb0.size)
     replace hbb := Nat.lt_of_lt_of_le hbb hkd.size
     generalize wr.drew = W1 at hS hown hb0 hbb ⊢
     clear hkd hb hb2 hr
     refine wpAnyH_sym (by kernel_rfl) (fun _ _ _ _ _ h => h) hS [(0, none), (1, none), (2, none), (3, none), (4, none), (5, none), (6, none), (7, none), (8, none), (9, none), (10, none), (11, none), (12, none)] (l' := #[true, true, true, true, true, true, true, true, true, true, true, true, true]) (a' := { tmps := #[.agg G, .agg C, .pointer (some ⟨B, 0, none⟩), .pointer (some ⟨B2, 0, none⟩), .pointer (some ⟨R, 0, none⟩), u5, .bool true, .int .i64 k, .int .i64 k, .pointer (some ⟨B, 3, none⟩), .slice (some ⟨b, off, none⟩) n cap, .int .i64 n, .bool true, u13, u14, .bool true, .bool false, .bool false, undef, undef, undef, undef, undef, undef, undef, undef, undef, .bool false, u28, u29, u30, u31, u32, u33, u34, u35, u36, u37, u38, u39, u40, u41, u42, u43, u44, u45, u46, u47, u48, undef, undef, undef, undef, undef, undef, undef, undef, undef, undef, undef, undef, undef], defers := [] }) (obs := []) (n := 0) (by kernel_rfl) (by kernel_rfl) trivial ?_
     refine wpAnyH_done (by kernel_rfl) ?_ _
     obtain ⟨hb, hb2, hr⟩ := hS
     go_wp2
     refine PgM.region_out (S := fun W => Blk W B G 25 ∧ Blk W B2 C 43 ∧ W.rangeAt b (off + k * 51) C'.toList) hmx ⟨hb.next (Below.refl _ _).drew, hb2.next (Below.refl _ _).drew, range_block hr ((Below.refl _ W1).drew.block b hbb)⟩ (fun hS => ?_)
     have hkd := (Below.refl W1.heap.size W1).drew
     replace hown := own_next hown hkd
     replace hb0 := hb0.trans (hkd.mono hb0.size)
     replace hbb := Nat.lt_of_lt_of_le hbb hkd.size
     generalize W1.drew = W4 at hS hown hb0 hbb ⊢
     clear hkd hb hb2 hr
     refine wpAnyH_sym (by kernel_rfl) (fun _ _ _ _ _ h => h) hS [(0, none), (1, some (.slice (some ⟨b, off, none⟩) n cap)), (2, none), (3, some (.pointer (some ⟨b, off + k * 51, none⟩))), (4, none), (5, some (.int .u64 (oat X k).id)), (6, none), (7, some (.int .u64 x.id)), (8, some (.bool false))] (l' := #[true, true, true, true, true, true, true, true, true]) (a' := { tmps := #[.agg G, .agg C, .pointer (some ⟨B, 0, none⟩), .pointer (some ⟨B2, 0, none⟩), .pointer (some ⟨R, 0, none⟩), u5, .bool true, .int .i64 k, .int .i64 k, .pointer (some ⟨B, 3, none⟩), .slice (some ⟨b, off, none⟩) n cap, .int .i64 n, .bool true, u13, u14, .bool true, .bool false, .bool false, undef, undef, undef, undef, undef, undef, undef, undef, undef, .bool false, u28, u29, u30, u31, .pointer (some ⟨B, 3, none⟩), .slice (some ⟨b, off, none⟩) n cap, .int .i64 k, .pointer (some ⟨b, off + k * 51, none⟩), .pointer (some ⟨b, off + k * 51 + 0, none⟩), .int .u64 (oat X k).id, .pointer (some ⟨B2, 0, none⟩), .int .u64 x.id, .bool false, u41, u42, u43, u44, u45, u46, u47, u48, undef, undef, undef, undef, undef, undef, undef, undef, undef, undef, undef, undef, undef], defers := [] }) (obs := [.load 23 B 3 (.slice (some ⟨b, off, none⟩) n cap), .ia 23 (.slice (some ⟨b, off, none⟩) n cap) (.int .i64 k) (.pointer (some ⟨b, off + k * 51, none⟩)), .load 22 b (off + k * 51 + 0) (.int .u64 (oat X k).id), .load 22 B2 0 (.int .u64 x.id), .test .neq 22 (.tmp 37) (.tmp 39) (.int .u64 (oat X k).id) (.int .u64 x.id) (.bool false)]) (n := 0) (by kernel_rfl) (by kernel_rfl) ⟨ob_load1 (fun _ h => h.1) c3 Tryz.isAgg23, ia_at hkn, ob_cell (j := 0) (fun _ h => h.2.2) hC'.id Tryz.isAgg22, ob_load1 (fun _ h => h.2.1) d0 Tryz.isAgg22, ob_no (fun _ => neg_int _ _ _ _ _ _) hne, trivial⟩ ?_
     refine wpAnyH_done (by kernel_rfl) ?_ _
     obtain ⟨hb, hb2, hr⟩ := hS
     go_wp2
     go_roundw
     case rel =>
      have hne1 := Classical.not_not.1 hne.out
      have hst : stps x (X.take (k + 1)) = (A, true) := by rw [stps_succ hkX, hA.out]; unfold stp; simp [hne1]
      have hbw2 := hk.trans (hb0.mono hk.size)
      refine ⟨k + 1, cs, A, true, by omega, by go_num, rfl, hst, ?_, ?_, hb0⟩
      ·simpa [List.length_append] using hown
      ·exact (hro.laterK fun b hb => (hbw2.block b (hD b hb)).trans (hbw.block b (hD b hb)).symm)
     case measure => simp [intOf]; omega
    | false =>
     go_wp2_with (first
      | (with_reducible refine wpList_load1 (by kernel_rfl) _ _ rfl B _ rfl _ _ hb _ c3 ga3 ?_))
     refine PgM.region_out (S := fun W => Blk W B G 25 ∧ Blk W B2 C 43 ∧ W.rangeAt b (off + k * 51) C'.toList) hmx ⟨hb.next (Below.refl _ _).drew, hb2.next (Below.refl _ _).drew, range_block hr ((Below.refl _ wr).drew.block b hbb)⟩ (fun hS => ?_)
     have hkd := (Below.refl wr.heap.size wr).drew
     replace hown := own_next hown hkd
     replace hb0 := hb0.trans (hkd.mono hb0.size)
     replace hbb := Nat.lt_of_lt_of_le hbb hkd.size
     generalize wr.drew = W1 at hS hown hb0 hbb ⊢
     clear hkd hb hb2 hr
     refine wpAnyH_sym (by kernel_rfl) (fun _ _ _ _ _ h => h) hS [(0, none), (1, none), (2, none), (3, none), (4, some (.slice (some ⟨b, off, none⟩) n cap)), (5, none), (6, some (.pointer (some ⟨b, off + k * 51, none⟩))), (7, none), (8, some (.int .u64 (oat X k).id)), (9, none), (10, some (.int .u64 x.id)), (11, some (.bool true)), (12, none)] (l' := #[true, true, true, true, true, true, true, true, true, true, true, true, true]) (a' := { tmps := #[.agg G, .agg C, .pointer (some ⟨B, 0, none⟩), .pointer (some ⟨B2, 0, none⟩), .pointer (some ⟨R, 0, none⟩), u5, .bool false, .int .i64 k, .int .i64 k, .pointer (some ⟨B, 3, none⟩), .slice (some ⟨b, off, none⟩) n cap, .int .i64 n, .bool true, u13, u14, .bool false, .bool true, .bool true, .pointer (some ⟨B, 3, none⟩), .slice (some ⟨b, off, none⟩) n cap, .int .i64 k, .pointer (some ⟨b, off + k * 51, none⟩), .pointer (some ⟨b, off + k * 51 + 0, none⟩), .int .u64 (oat X k).id, .pointer (some ⟨B2, 0, none⟩), .int .u64 x.id, .bool true, .bool true, u28, u29, u30, u31, u32, u33, u34, u35, u36, u37, u38, u39, u40, u41, u42, u43, u44, u45, u46, u47, u48, undef, undef, undef, undef, undef, undef, undef, undef, undef, undef, undef, undef, undef], defers := [] }) (obs := [.load 23 B 3 (.slice (some ⟨b, off, none⟩) n cap), .ia 23 (.slice (some ⟨b, off, none⟩) n cap) (.int .i64 k) (.pointer (some ⟨b, off + k * 51, none⟩)), .load 22 b (off + k * 51 + 0) (.int .u64 (oat X k).id), .load 22 B2 0 (.int .u64 x.id), .test .geq 22 (.tmp 23) (.tmp 25) (.int .u64 (oat X k).id) (.int .u64 x.id) (.bool true)]) (n := 0) (by kernel_rfl) (by kernel_rfl) ⟨ob_load1 (fun _ h => h.1) c3 Tryz.isAgg23, ia_at hkn, ob_cell (j := 0) (fun _ h => h.2.2) hC'.id Tryz.isAgg22, ob_load1 (fun _ h => h.2.1) d0 Tryz.isAgg22, ob_yes (fun _ => tge_int _ _ _ _ _ _) hge, trivial⟩ ?_
     refine wpAnyH_done (by kernel_rfl) ?_ _
     obtain ⟨hb, hb2, hr⟩ := hS
     go_wp2_with (first
      | (with_reducible refine wpList_load_blk rfl _ _ rfl B2 rfl _ hb2 _ Tryz.underlying43 rfl (size40C hz) ?_)
      | ((with_reducible refine wpList_bs1 rfl _ rfl C rfl hz ?_); intro Bq W2 hBq hbq hk2; replace hown := own_next hown hk2; replace hb0 := hb0.trans (hk2.mono hb0.size))
      | (at_builtin; refine wpList_append_row infoO Tryz.underlying23 zC_size (by omega) rfl _ _ rfl W0.heap.size _ _ cs rfl hown _ _ _ _ C.toList rfl (row_one hbq hz) (obC_one hx) (by unfold maxLen; omega) (by omega) hb0.size ?_; intro v1 W3 hown3 hgrow; replace hb0 := hb0.grown hgrow hb0.size (own_ge hown); replace hown := hown3; clear hown3))
     replace hb := hbA.next hb0
     replace hb2 := hb2A.next hb0
     replace hr : W3.rangeAt b (off + k * 51) C'.toList := range_block hrw ((hk.trans (hb0.mono hk.size)).block b hbw0)
     replace hbb : b < W3.heap.size := Nat.lt_of_lt_of_le hbw0 (hk.trans (hb0.mono hk.size)).size
     clear hgrow hbq hBq hk2
     refine PgM.region_out (S := fun W => Blk W B G 25 ∧ Blk W B2 C 43 ∧ W.rangeAt b (off + k * 51) C'.toList) hmx ⟨hb.next (Below.refl _ _).drew, hb2.next (Below.refl _ _).drew, range_block hr ((Below.refl _ W3).drew.block b hbb)⟩ (fun hS => ?_)
     have hkd := (Below.refl W3.heap.size W3).drew
     replace hown := own_next hown hkd
     replace hb0 := hb0.trans (hkd.mono hb0.size)
     replace hbb := Nat.lt_of_lt_of_le hbb hkd.size
     generalize W3.drew = W4 at hS hown hb0 hbb ⊢
     clear hkd hb hb2 hr
     refine wpAnyH_sym (by kernel_rfl) (fun _ _ _ _ _ h => h) hS [(0, none), (1, some (.slice (some ⟨b, off, none⟩) n cap)), (2, none), (3, some (.pointer (some ⟨b, off + k * 51, none⟩))), (4, none), (5, some (.int .u64 (oat X k).id)), (6, none), (7, some (.int .u64 x.id)), (8, some (.bool false))] (l' := #[true, true, true, true, true, true, true, true, true]) (a' := { tmps := #[.agg G, .agg C, .pointer (some ⟨B, 0, none⟩), .pointer (some ⟨B2, 0, none⟩), .pointer (some ⟨R, 0, none⟩), v1, .bool true, .int .i64 k, .int .i64 k, .pointer (some ⟨B, 3, none⟩), .slice (some ⟨b, off, none⟩) n cap, .int .i64 n, .bool true, u13, u14, .bool false, .bool true, .bool true, .pointer (some ⟨B, 3, none⟩), .slice (some ⟨b, off, none⟩) n cap, .int .i64 k, .pointer (some ⟨b, off + k * 51, none⟩), .pointer (some ⟨b, off + k * 51 + 0, none⟩), .int .u64 (oat X k).id, .pointer (some ⟨B2, 0, none⟩), .int .u64 x.id, .bool true, .bool true, u5, .agg C, .slice (some ⟨Bq, 0, none⟩) 1 1, v1, .pointer (some ⟨B, 3, none⟩), .slice (some ⟨b, off, none⟩) n cap, .int .i64 k, .pointer (some ⟨b, off + k * 51, none⟩), .pointer (some ⟨b, off + k * 51 + 0, none⟩), .int .u64 (oat X k).id, .pointer (some ⟨B2, 0, none⟩), .int .u64 x.id, .bool false, u41, u42, u43, u44, u45, u46, u47, u48, undef, undef, undef, undef, undef, undef, undef, undef, undef, undef, undef, undef, undef], defers := [] }) (obs := [.load 23 B 3 (.slice (some ⟨b, off, none⟩) n cap), .ia 23 (.slice (some ⟨b, off, none⟩) n cap) (.int .i64 k) (.pointer (some ⟨b, off + k * 51, none⟩)), .load 22 b (off + k * 51 + 0) (.int .u64 (oat X k).id), .load 22 B2 0 (.int .u64 x.id), .test .neq 22 (.tmp 37) (.tmp 39) (.int .u64 (oat X k).id) (.int .u64 x.id) (.bool false)]) (n := 0) (by kernel_rfl) (by kernel_rfl) ⟨ob_load1 (fun _ h => h.1) c3 Tryz.isAgg23, ia_at hkn, ob_cell (j := 0) (fun _ h => h.2.2) hC'.id Tryz.isAgg22, ob_load1 (fun _ h => h.2.1) d0 Tryz.isAgg22, ob_no (fun _ => neg_int _ _ _ _ _ _) hne, trivial⟩ ?_
     refine wpAnyH_done (by kernel_rfl) ?_ _
     obtain ⟨hb, hb2, hr⟩ := hS
     go_wp2
     go_roundw
     case rel =>
      have hne1 := Classical.not_not.1 hne.out
      have hst : stps x (X.take (k + 1)) = (A ++ [x], true) := by rw [stps_succ hkX, hA.out]; unfold stp; simp [hne1]
      have hbw2 := hk.trans (hb0.mono hk.size)
      refine ⟨k + 1, cs ++ C.toList, A ++ [x], true, by omega, by go_num, rfl, hst, ?_, ?_, hb0⟩
      ·simpa [List.length_append] using hown
      ·exact (RowO.app (hro.laterK fun b hb => (hbw2.block b (hD b hb)).trans (hbw.block b (hD b hb)).symm) (RowO.single (hx.laterK fun b hb => hbw2.block b (hD b hb))))
     case measure => simp [intOf]; omega
   ·have hne : Hid (¬ (oat X k).id = x.id) := hne1
    clear hne1
    cases d with
    | true =>
     go_wp2_with (first
      | (with_reducible refine wpList_load1 (by kernel_rfl) _ _ rfl B _ rfl _ _ hb _ c3 ga3 ?_))
     refine PgM.region_out (S := fun W => Blk W B G 25 ∧ Blk W B2 C 43 ∧ W.rangeAt b (off + k * 51) C'.toList) hmx ⟨hb.next (Below.refl _ _).drew, hb2.next (Below.refl _ _).drew, range_block hr ((Below.refl _ wr).drew.block b hbb)⟩ (fun hS => ?_)
     have hkd := (Below.refl wr.heap.size wr).drew
     replace hown := own_next hown hkd
     replace hb0 := hb0.trans (hkd.mono hb0.size)
     replace hbb := Nat.lt_of_lt_of_le hbb hkd.size
     generalize wr.drew = W1 at hS hown hb0 hbb ⊢
     clear hkd hb hb2 hr
     refine wpAnyH_sym (by kernel_rfl) (fun _ _ _ _ _ h => h) hS [(0, none), (1, none), (2, none), (3, none), (4, none), (5, none), (6, none), (7, none), (8, none), (9, none), (10, none), (11, none), (12, none)] (l' := #[true, true, true, true, true, true, true, true, true, true, true, true, true]) (a' := { tmps := #[.agg G, .agg C, .pointer (some ⟨B, 0, none⟩), .pointer (some ⟨B2, 0, none⟩), .pointer (some ⟨R, 0, none⟩), u5, .bool true, .int .i64 k, .int .i64 k, .pointer (some ⟨B, 3, none⟩), .slice (some ⟨b, off, none⟩) n cap, .int .i64 n, .bool true, u13, u14, .bool true, .bool false, .bool false, undef, undef, undef, undef, undef, undef, undef, undef, undef, .bool false, u28, u29, u30, u31, u32, u33, u34, u35, u36, u37, u38, u39, u40, u41, u42, u43, u44, u45, u46, u47, u48, undef, undef, undef, undef, undef, undef, undef, undef, undef, undef, undef, undef, undef], defers := [] }) (obs := []) (n := 0) (by kernel_rfl) (by kernel_rfl) trivial ?_
     refine wpAnyH_done (by kernel_rfl) ?_ _
     obtain ⟨hb, hb2, hr⟩ := hS
     go_wp2
     refine PgM.region_out (S := fun W => Blk W B G 25 ∧ Blk W B2 C 43 ∧ W.rangeAt b (off + k * 51) C'.toList) hmx ⟨hb.next (Below.refl _ _).drew, hb2.next (Below.refl _ _).drew, range_block hr ((Below.refl _ W1).drew.block b hbb)⟩ (fun hS => ?_)
     have hkd := (Below.refl W1.heap.size W1).drew
     replace hown := own_next hown hkd
     replace hb0 := hb0.trans (hkd.mono hb0.size)
     replace hbb := Nat.lt_of_lt_of_le hbb hkd.size
     generalize W1.drew = W4 at hS hown hb0 hbb ⊢
     clear hkd hb hb2 hr
     refine wpAnyH_sym (by kernel_rfl) (fun _ _ _ _ _ h => h) hS [(0, none), (1, some (.slice (some ⟨b, off, none⟩) n cap)), (2, none), (3, some (.pointer (some ⟨b, off + k * 51, none⟩))), (4, none), (5, some (.int .u64 (oat X k).id)), (6, none), (7, some (.int .u64 x.id)), (8, some (.bool true))] (l' := #[true, true, true, true, true, true, true, true, true]) (a' := { tmps := #[.agg G, .agg C, .pointer (some ⟨B, 0, none⟩), .pointer (some ⟨B2, 0, none⟩), .pointer (some ⟨R, 0, none⟩), u5, .bool true, .int .i64 k, .int .i64 k, .pointer (some ⟨B, 3, none⟩), .slice (some ⟨b, off, none⟩) n cap, .int .i64 n, .bool true, u13, u14, .bool true, .bool false, .bool false, undef, undef, undef, undef, undef, undef, undef, undef, undef, .bool false, u28, u29, u30, u31, .pointer (some ⟨B, 3, none⟩), .slice (some ⟨b, off, none⟩) n cap, .int .i64 k, .pointer (some ⟨b, off + k * 51, none⟩), .pointer (some ⟨b, off + k * 51 + 0, none⟩), .int .u64 (oat X k).id, .pointer (some ⟨B2, 0, none⟩), .int .u64 x.id, .bool true, u41, u42, u43, u44, u45, u46, u47, u48, undef, undef, undef, undef, undef, undef, undef, undef, undef, undef, undef, undef, undef], defers := [] }) (obs := [.load 23 B 3 (.slice (some ⟨b, off, none⟩) n cap), .ia 23 (.slice (some ⟨b, off, none⟩) n cap) (.int .i64 k) (.pointer (some ⟨b, off + k * 51, none⟩)), .load 22 b (off + k * 51 + 0) (.int .u64 (oat X k).id), .load 22 B2 0 (.int .u64 x.id), .test .neq 22 (.tmp 37) (.tmp 39) (.int .u64 (oat X k).id) (.int .u64 x.id) (.bool true)]) (n := 0) (by kernel_rfl) (by kernel_rfl) ⟨ob_load1 (fun _ h => h.1) c3 Tryz.isAgg23, ia_at hkn, ob_cell (j := 0) (fun _ h => h.2.2) hC'.id Tryz.isAgg22, ob_load1 (fun _ h => h.2.1) d0 Tryz.isAgg22, ob_yes (fun _ => neg_int _ _ _ _ _ _) hne, trivial⟩ ?_
     refine wpAnyH_done (by kernel_rfl) ?_ _
     obtain ⟨hb, hb2, hr⟩ := hS
     go_wp2_with (first
      | (with_reducible refine wpList_load1 (by kernel_rfl) _ _ rfl B _ rfl _ _ hb _ c3 ga3 ?_)
      | (with_reducible refine wpList_loadm (by kernel_rfl) 43 _ rfl b _ rfl C' hr _ Tryz.underlying43 (by kernel_rfl) (size40C hz') ?_)
      | ((with_reducible refine wpList_bs1 rfl _ rfl C' rfl hz' ?_); intro Bp W5 hBp hbp hk5; replace hown := own_next hown hk5; replace hb0 := hb0.trans (hk5.mono hb0.size))
      | (at_builtin; refine wpList_append_row infoO Tryz.underlying23 zC_size (by omega) rfl _ _ rfl W0.heap.size _ _ _ rfl hown _ _ _ _ C'.toList rfl (row_one hbp hz') (obC_one hC') (by unfold maxLen; omega) (by omega) hb0.size ?_; intro v2 W6 hown6 hgrow; replace hb0 := hb0.grown hgrow hb0.size (own_ge hown); replace hown := hown6; clear hown6))
     go_roundw
     case rel =>
      have hne1 := hne.out
      have hst : stps x (X.take (k + 1)) = (A ++ [oat X k], true) := by rw [stps_succ hkX, hA.out]; unfold stp; simp [hne1]
      have hbw2 := hk.trans (hb0.mono hk.size)
      refine ⟨k + 1, cs ++ C'.toList, A ++ [oat X k], true, by omega, by go_num, rfl, hst, ?_, ?_, hb0⟩
      ·simpa [List.length_append] using hown
      ·exact (RowO.app (hro.laterK fun b hb => (hbw2.block b (hD b hb)).trans (hbw.block b (hD b hb)).symm) (RowO.single (hC'.laterK fun b hb => (hbw2.block b (hD b hb)).trans (hbw.block b (hD b hb)).symm)))
     case measure => simp [intOf]; omega
    | false =>
     by_cases hge1 : x.id ≤ (oat X k).id
     ·have hge : Hid (x.id ≤ (oat X k).id) := hge1
      go_wp2_with (first
       | (with_reducible refine wpList_load1 (by kernel_rfl) _ _ rfl B _ rfl _ _ hb _ c3 ga3 ?_))
      refine PgM.region_out (S := fun W => Blk W B G 25 ∧ Blk W B2 C 43 ∧ W.rangeAt b (off + k * 51) C'.toList) hmx ⟨hb.next (Below.refl _ _).drew, hb2.next (Below.refl _ _).drew, range_block hr ((Below.refl _ wr).drew.block b hbb)⟩ (fun hS => ?_)
      have hkd := (Below.refl wr.heap.size wr).drew
      replace hown := own_next hown hkd
      replace hb0 := hb0.trans (hkd.mono hb0.size)
      replace hbb := Nat.lt_of_lt_of_le hbb hkd.size
      generalize wr.drew = W1 at hS hown hb0 hbb ⊢
      clear hkd hb hb2 hr
      refine wpAnyH_sym (by kernel_rfl) (fun _ _ _ _ _ h => h) hS [(0, none), (1, none), (2, none), (3, none), (4, some (.slice (some ⟨b, off, none⟩) n cap)), (5, none), (6, some (.pointer (some ⟨b, off + k * 51, none⟩))), (7, none), (8, some (.int .u64 (oat X k).id)), (9, none), (10, some (.int .u64 x.id)), (11, some (.bool true)), (12, none)] (l' := #[true, true, true, true, true, true, true, true, true, true, true, true, true]) (a' := { tmps := #[.agg G, .agg C, .pointer (some ⟨B, 0, none⟩), .pointer (some ⟨B2, 0, none⟩), .pointer (some ⟨R, 0, none⟩), u5, .bool false, .int .i64 k, .int .i64 k, .pointer (some ⟨B, 3, none⟩), .slice (some ⟨b, off, none⟩) n cap, .int .i64 n, .bool true, u13, u14, .bool false, .bool true, .bool true, .pointer (some ⟨B, 3, none⟩), .slice (some ⟨b, off, none⟩) n cap, .int .i64 k, .pointer (some ⟨b, off + k * 51, none⟩), .pointer (some ⟨b, off + k * 51 + 0, none⟩), .int .u64 (oat X k).id, .pointer (some ⟨B2, 0, none⟩), .int .u64 x.id, .bool true, .bool true, u28, u29, u30, u31, u32, u33, u34, u35, u36, u37, u38, u39, u40, u41, u42, u43, u44, u45, u46, u47, u48, undef, undef, undef, undef, undef, undef, undef, undef, undef, undef, undef, undef, undef], defers := [] }) (obs := [.load 23 B 3 (.slice (some ⟨b, off, none⟩) n cap), .ia 23 (.slice (some ⟨b, off, none⟩) n cap) (.int .i64 k) (.pointer (some ⟨b, off + k * 51, none⟩)), .load 22 b (off + k * 51 + 0) (.int .u64 (oat X k).id), .load 22 B2 0 (.int .u64 x.id), .test .geq 22 (.tmp 23) (.tmp 25) (.int .u64 (oat X k).id) (.int .u64 x.id) (.bool true)]) (n := 0) (by kernel_rfl) (by kernel_rfl) ⟨ob_load1 (fun _ h => h.1) c3 Tryz.isAgg23, ia_at hkn, ob_cell (j := 0) (fun _ h => h.2.2) hC'.id Tryz.isAgg22, ob_load1 (fun _ h => h.2.1) d0 Tryz.isAgg22, ob_yes (fun _ => tge_int _ _ _ _ _ _) hge, trivial⟩ ?_
      refine wpAnyH_done (by kernel_rfl) ?_ _
      obtain ⟨hb, hb2, hr⟩ := hS
      go_wp2_with (first
       | (with_reducible refine wpList_load_blk rfl _ _ rfl B2 rfl _ hb2 _ Tryz.underlying43 rfl (size40C hz) ?_)
       | ((with_reducible refine wpList_bs1 rfl _ rfl C rfl hz ?_); intro Bq W2 hBq hbq hk2; replace hown := own_next hown hk2; replace hb0 := hb0.trans (hk2.mono hb0.size))
       | (at_builtin; refine wpList_append_row infoO Tryz.underlying23 zC_size (by omega) rfl _ _ rfl W0.heap.size _ _ cs rfl hown _ _ _ _ C.toList rfl (row_one hbq hz) (obC_one hx) (by unfold maxLen; omega) (by omega) hb0.size ?_; intro v1 W3 hown3 hgrow; replace hb0 := hb0.grown hgrow hb0.size (own_ge hown); replace hown := hown3; clear hown3))
      replace hb := hbA.next hb0
      replace hb2 := hb2A.next hb0
      replace hr : W3.rangeAt b (off + k * 51) C'.toList := range_block hrw ((hk.trans (hb0.mono hk.size)).block b hbw0)
      replace hbb : b < W3.heap.size := Nat.lt_of_lt_of_le hbw0 (hk.trans (hb0.mono hk.size)).size
      clear hgrow hbq hBq hk2
      refine PgM.region_out (S := fun W => Blk W B G 25 ∧ Blk W B2 C 43 ∧ W.rangeAt b (off + k * 51) C'.toList) hmx ⟨hb.next (Below.refl _ _).drew, hb2.next (Below.refl _ _).drew, range_block hr ((Below.refl _ W3).drew.block b hbb)⟩ (fun hS => ?_)
      have hkd := (Below.refl W3.heap.size W3).drew
      replace hown := own_next hown hkd
      replace hb0 := hb0.trans (hkd.mono hb0.size)
      replace hbb := Nat.lt_of_lt_of_le hbb hkd.size
      generalize W3.drew = W4 at hS hown hb0 hbb ⊢
      clear hkd hb hb2 hr
      refine wpAnyH_sym (by kernel_rfl) (fun _ _ _ _ _ h => h) hS [(0, none), (1, some (.slice (some ⟨b, off, none⟩) n cap)), (2, none), (3, some (.pointer (some ⟨b, off + k * 51, none⟩))), (4, none), (5, some (.int .u64 (oat X k).id)), (6, none), (7, some (.int .u64 x.id)), (8, some (.bool true))] (l' := #[true, true, true, true, true, true, true, true, true]) (a' := { tmps := #[.agg G, .agg C, .pointer (some ⟨B, 0, none⟩), .pointer (some ⟨B2, 0, none⟩), .pointer (some ⟨R, 0, none⟩), v1, .bool true, .int .i64 k, .int .i64 k, .pointer (some ⟨B, 3, none⟩), .slice (some ⟨b, off, none⟩) n cap, .int .i64 n, .bool true, u13, u14, .bool false, .bool true, .bool true, .pointer (some ⟨B, 3, none⟩), .slice (some ⟨b, off, none⟩) n cap, .int .i64 k, .pointer (some ⟨b, off + k * 51, none⟩), .pointer (some ⟨b, off + k * 51 + 0, none⟩), .int .u64 (oat X k).id, .pointer (some ⟨B2, 0, none⟩), .int .u64 x.id, .bool true, .bool true, u5, .agg C, .slice (some ⟨Bq, 0, none⟩) 1 1, v1, .pointer (some ⟨B, 3, none⟩), .slice (some ⟨b, off, none⟩) n cap, .int .i64 k, .pointer (some ⟨b, off + k * 51, none⟩), .pointer (some ⟨b, off + k * 51 + 0, none⟩), .int .u64 (oat X k).id, .pointer (some ⟨B2, 0, none⟩), .int .u64 x.id, .bool true, u41, u42, u43, u44, u45, u46, u47, u48, undef, undef, undef, undef, undef, undef, undef, undef, undef, undef, undef, undef, undef], defers := [] }) (obs := [.load 23 B 3 (.slice (some ⟨b, off, none⟩) n cap), .ia 23 (.slice (some ⟨b, off, none⟩) n cap) (.int .i64 k) (.pointer (some ⟨b, off + k * 51, none⟩)), .load 22 b (off + k * 51 + 0) (.int .u64 (oat X k).id), .load 22 B2 0 (.int .u64 x.id), .test .neq 22 (.tmp 37) (.tmp 39) (.int .u64 (oat X k).id) (.int .u64 x.id) (.bool true)]) (n := 0) (by kernel_rfl) (by kernel_rfl) ⟨ob_load1 (fun _ h => h.1) c3 Tryz.isAgg23, ia_at hkn, ob_cell (j := 0) (fun _ h => h.2.2) hC'.id Tryz.isAgg22, ob_load1 (fun _ h => h.2.1) d0 Tryz.isAgg22, ob_yes (fun _ => neg_int _ _ _ _ _ _) hne, trivial⟩ ?_
      refine wpAnyH_done (by kernel_rfl) ?_ _
      obtain ⟨hb, hb2, hr⟩ := hS
      go_wp2_with (first
       | (with_reducible refine wpList_load1 (by kernel_rfl) _ _ rfl B _ rfl _ _ hb _ c3 ga3 ?_)
       | (with_reducible refine wpList_loadm (by kernel_rfl) 43 _ rfl b _ rfl C' hr _ Tryz.underlying43 (by kernel_rfl) (size40C hz') ?_)
       | ((with_reducible refine wpList_bs1 rfl _ rfl C' rfl hz' ?_); intro Bp W5 hBp hbp hk5; replace hown := own_next hown hk5; replace hb0 := hb0.trans (hk5.mono hb0.size))
       | (at_builtin; refine wpList_append_row infoO Tryz.underlying23 zC_size (by omega) rfl _ _ rfl W0.heap.size _ _ _ rfl hown _ _ _ _ C'.toList rfl (row_one hbp hz') (obC_one hC') (by unfold maxLen; omega) (by omega) hb0.size ?_; intro v2 W6 hown6 hgrow; replace hb0 := hb0.grown hgrow hb0.size (own_ge hown); replace hown := hown6; clear hown6))
      go_roundw
      case rel =>
       have hne1 := hne.out
       have hst : stps x (X.take (k + 1)) = (A ++ [x] ++ [oat X k], true) := by rw [stps_succ hkX, hA.out]; unfold stp; simp [hge1, hne1]
       have hbw2 := hk.trans (hb0.mono hk.size)
       refine ⟨k + 1, cs ++ C.toList ++ C'.toList, A ++ [x] ++ [oat X k], true, by omega, by go_num, rfl, hst, ?_, ?_, hb0⟩
       ·simpa [List.length_append] using hown
       ·exact (RowO.app (RowO.app (hro.laterK fun b hb => (hbw2.block b (hD b hb)).trans (hbw.block b (hD b hb)).symm) (RowO.single (hx.laterK fun b hb => hbw2.block b (hD b hb)))) (RowO.single (hC'.laterK fun b hb => (hbw2.block b (hD b hb)).trans (hbw.block b (hD b hb)).symm)))
      case measure => simp [intOf]; omega
     ·have hge : Hid (¬ x.id ≤ (oat X k).id) := hge1
      go_wp2_with (first
       | (with_reducible refine wpList_load1 (by kernel_rfl) _ _ rfl B _ rfl _ _ hb _ c3 ga3 ?_))
      refine PgM.region_out (S := fun W => Blk W B G 25 ∧ Blk W B2 C 43 ∧ W.rangeAt b (off + k * 51) C'.toList) hmx ⟨hb.next (Below.refl _ _).drew, hb2.next (Below.refl _ _).drew, range_block hr ((Below.refl _ wr).drew.block b hbb)⟩ (fun hS => ?_)
      have hkd := (Below.refl wr.heap.size wr).drew
      replace hown := own_next hown hkd
      replace hb0 := hb0.trans (hkd.mono hb0.size)
      replace hbb := Nat.lt_of_lt_of_le hbb hkd.size
      generalize wr.drew = W1 at hS hown hb0 hbb ⊢
      clear hkd hb hb2 hr
      refine wpAnyH_sym (by kernel_rfl) (fun _ _ _ _ _ h => h) hS [(0, none), (1, none), (2, none), (3, none), (4, some (.slice (some ⟨b, off, none⟩) n cap)), (5, none), (6, some (.pointer (some ⟨b, off + k * 51, none⟩))), (7, none), (8, some (.int .u64 (oat X k).id)), (9, none), (10, some (.int .u64 x.id)), (11, some (.bool false)), (12, none)] (l' := #[true, true, true, true, true, true, true, true, true, true, true, true, true]) (a' := { tmps := #[.agg G, .agg C, .pointer (some ⟨B, 0, none⟩), .pointer (some ⟨B2, 0, none⟩), .pointer (some ⟨R, 0, none⟩), u5, .bool false, .int .i64 k, .int .i64 k, .pointer (some ⟨B, 3, none⟩), .slice (some ⟨b, off, none⟩) n cap, .int .i64 n, .bool true, u13, u14, .bool false, .bool true, .bool true, .pointer (some ⟨B, 3, none⟩), .slice (some ⟨b, off, none⟩) n cap, .int .i64 k, .pointer (some ⟨b, off + k * 51, none⟩), .pointer (some ⟨b, off + k * 51 + 0, none⟩), .int .u64 (oat X k).id, .pointer (some ⟨B2, 0, none⟩), .int .u64 x.id, .bool false, .bool false, u28, u29, u30, u31, u32, u33, u34, u35, u36, u37, u38, u39, u40, u41, u42, u43, u44, u45, u46, u47, u48, undef, undef, undef, undef, undef, undef, undef, undef, undef, undef, undef, undef, undef], defers := [] }) (obs := [.load 23 B 3 (.slice (some ⟨b, off, none⟩) n cap), .ia 23 (.slice (some ⟨b, off, none⟩) n cap) (.int .i64 k) (.pointer (some ⟨b, off + k * 51, none⟩)), .load 22 b (off + k * 51 + 0) (.int .u64 (oat X k).id), .load 22 B2 0 (.int .u64 x.id), .test .geq 22 (.tmp 23) (.tmp 25) (.int .u64 (oat X k).id) (.int .u64 x.id) (.bool false)]) (n := 0) (by kernel_rfl) (by kernel_rfl) ⟨ob_load1 (fun _ h => h.1) c3 Tryz.isAgg23, ia_at hkn, ob_cell (j := 0) (fun _ h => h.2.2) hC'.id Tryz.isAgg22, ob_load1 (fun _ h => h.2.1) d0 Tryz.isAgg22, ob_no (fun _ => tge_int _ _ _ _ _ _) (by refine (?_ : ¬ x.id ≤ (oat X k).id); have := hge.out; omega), trivial⟩ ?_
      refine wpAnyH_done (by kernel_rfl) ?_ _
      obtain ⟨hb, hb2, hr⟩ := hS
      go_wp2
      refine PgM.region_out (S := fun W => Blk W B G 25 ∧ Blk W B2 C 43 ∧ W.rangeAt b (off + k * 51) C'.toList) hmx ⟨hb.next (Below.refl _ _).drew, hb2.next (Below.refl _ _).drew, range_block hr ((Below.refl _ W1).drew.block b hbb)⟩ (fun hS => ?_)
      have hkd := (Below.refl W1.heap.size W1).drew
      replace hown := own_next hown hkd
      replace hb0 := hb0.trans (hkd.mono hb0.size)
      replace hbb := Nat.lt_of_lt_of_le hbb hkd.size
      generalize W1.drew = W4 at hS hown hb0 hbb ⊢
      clear hkd hb hb2 hr
      refine wpAnyH_sym (by kernel_rfl) (fun _ _ _ _ _ h => h) hS [(0, none), (1, some (.slice (some ⟨b, off, none⟩) n cap)), (2, none), (3, some (.pointer (some ⟨b, off + k * 51, none⟩))), (4, none), (5, some (.int .u64 (oat X k).id)), (6, none), (7, some (.int .u64 x.id)), (8, some (.bool true))] (l' := #[true, true, true, true, true, true, true, true, true]) (a' := { tmps := #[.agg G, .agg C, .pointer (some ⟨B, 0, none⟩), .pointer (some ⟨B2, 0, none⟩), .pointer (some ⟨R, 0, none⟩), u5, .bool false, .int .i64 k, .int .i64 k, .pointer (some ⟨B, 3, none⟩), .slice (some ⟨b, off, none⟩) n cap, .int .i64 n, .bool true, u13, u14, .bool false, .bool true, .bool true, .pointer (some ⟨B, 3, none⟩), .slice (some ⟨b, off, none⟩) n cap, .int .i64 k, .pointer (some ⟨b, off + k * 51, none⟩), .pointer (some ⟨b, off + k * 51 + 0, none⟩), .int .u64 (oat X k).id, .pointer (some ⟨B2, 0, none⟩), .int .u64 x.id, .bool false, .bool false, u28, u29, u30, u31, .pointer (some ⟨B, 3, none⟩), .slice (some ⟨b, off, none⟩) n cap, .int .i64 k, .pointer (some ⟨b, off + k * 51, none⟩), .pointer (some ⟨b, off + k * 51 + 0, none⟩), .int .u64 (oat X k).id, .pointer (some ⟨B2, 0, none⟩), .int .u64 x.id, .bool true, u41, u42, u43, u44, u45, u46, u47, u48, undef, undef, undef, undef, undef, undef, undef, undef, undef, undef, undef, undef, undef], defers := [] }) (obs := [.load 23 B 3 (.slice (some ⟨b, off, none⟩) n cap), .ia 23 (.slice (some ⟨b, off, none⟩) n cap) (.int .i64 k) (.pointer (some ⟨b, off + k * 51, none⟩)), .load 22 b (off + k * 51 + 0) (.int .u64 (oat X k).id), .load 22 B2 0 (.int .u64 x.id), .test .neq 22 (.tmp 37) (.tmp 39) (.int .u64 (oat X k).id) (.int .u64 x.id) (.bool true)]) (n := 0) (by kernel_rfl) (by kernel_rfl) ⟨ob_load1 (fun _ h => h.1) c3 Tryz.isAgg23, ia_at hkn, ob_cell (j := 0) (fun _ h => h.2.2) hC'.id Tryz.isAgg22, ob_load1 (fun _ h => h.2.1) d0 Tryz.isAgg22, ob_yes (fun _ => neg_int _ _ _ _ _ _) hne, trivial⟩ ?_
      refine wpAnyH_done (by kernel_rfl) ?_ _
      obtain ⟨hb, hb2, hr⟩ := hS
      go_wp2_with (first
       | (with_reducible refine wpList_load1 (by kernel_rfl) _ _ rfl B _ rfl _ _ hb _ c3 ga3 ?_)
       | (with_reducible refine wpList_loadm (by kernel_rfl) 43 _ rfl b _ rfl C' hr _ Tryz.underlying43 (by kernel_rfl) (size40C hz') ?_)
       | ((with_reducible refine wpList_bs1 rfl _ rfl C' rfl hz' ?_); intro Bp W5 hBp hbp hk5; replace hown := own_next hown hk5; replace hb0 := hb0.trans (hk5.mono hb0.size))
       | (at_builtin; refine wpList_append_row infoO Tryz.underlying23 zC_size (by omega) rfl _ _ rfl W0.heap.size _ _ _ rfl hown _ _ _ _ C'.toList rfl (row_one hbp hz') (obC_one hC') (by unfold maxLen; omega) (by omega) hb0.size ?_; intro v2 W6 hown6 hgrow; replace hb0 := hb0.grown hgrow hb0.size (own_ge hown); replace hown := hown6; clear hown6))
      go_roundw
      case rel =>
       have hne1 := hne.out
       have hst : stps x (X.take (k + 1)) = (A ++ [oat X k], false) := by rw [stps_succ hkX, hA.out]; unfold stp; simp [hge1, hne1]
       have hbw2 := hk.trans (hb0.mono hk.size)
       refine ⟨k + 1, cs ++ C'.toList, A ++ [oat X k], false, by omega, by go_num, rfl, hst, ?_, ?_, hb0⟩
       ·simpa [List.length_append] using hown
       ·exact (RowO.app (hro.laterK fun b hb => (hbw2.block b (hD b hb)).trans (hbw.block b (hD b hb)).symm) (RowO.single (hC'.laterK fun b hb => (hbw2.block b (hD b hb)).trans (hbw.block b (hD b hb)).symm)))
      case measure => simp [intOf]; omega
  ·obtain rfl : k = n := by omega
   have ht : X.take k = X := by rw [← hn.out]; exact List.take_length
   rw [ht] at hA
   cases d with
   | true =>
    have hput : Hid (A = puR X x) := by show _ = _; rw [← hrp.out, hA.out]; rfl
    have hAl2 : A.length ≤ k + 1 := by rw [hput.out]; exact hln.out
    obtain ⟨ao2, cap2, rfl, hrc⟩ := RowC.of_owns hown
    go_wp2_with (first
     | (with_reducible refine wpList_load1 (by kernel_rfl) _ _ rfl B _ rfl _ _ hb _ c3 ga3 ?_)
     | ((with_reducible refine wpList_test (by kernel_rfl) .gtr _ _ _ _ rfl _ _ rfl rfl (tgt_int _ _ _ _ _ _) ?_ ?_) <;> first | (intro hq2; exfalso; have h9 := hq2.out; omega) | (intro hq2))
     | ((with_reducible refine wpList_store_cell rfl _ _ _ rfl B 3 rfl (.slice ao2 (A.length) cap2) rfl rfl G _ hb (by kernel_rfl) (by rw [hzG4]; omega) rfl ?_); intro W7 hb7 o7; rw [cS] at hb7; have hR7 := hR.other o7 hne.symm)
     | (with_reducible refine wpList_load_blk rfl _ _ rfl B rfl _ hb7 _ Tryz.underlying25 rfl (hz2 _) ?_)
     | ((with_reducible refine wpList_store_blk rfl _ _ _ rfl R rfl _ rfl zW hR7 (hz2 _) (hs2 _) (h12 _ _ _) ?_); intro W8 hR8 o8))
    refine bodyPost_ret (v := .agg _) (res43 Tryz.results32 rfl hR8 rfl) rfl ?_
    have hbw2 := hk.trans (hb0.mono hk.size)
    have hRo := hRl.out
    have hBR := hBR0.out
    have hlt := hb0.size
    have hws := hbw2.size
    refine ⟨ao2, (A.length), cap2, rfl, ?_, o8.below _ _ hRo.1 (o7.below _ _ hRo.2 hbw2)⟩
    rw [← hput.out]
    have hob := hrc.obs (hro.laterK fun b hb => (hbw2.block b (hD b hb)).trans (hbw.block b (hD b hb)).symm)
    refine (hob.laterK (w' := W8) (fun b hb => (o8.block b (by have := hD b hb; omega)).trans (o7.block b (by have := hD b hb; omega))) (fun b hb => (o8.block b (by have := hb.1; omega)).trans (o7.block b (by have := hb.1; omega)))).wide (fun b hb => ?_) (fun b hb => ?_)
    ·exact hb
    ·exact ⟨by have := hb.1; have := hk.size; omega, by rw [o8.size, o7.size]; exact hb.2⟩
   | false =>
    have hput : Hid (A ++ [x] = puR X x) := by show _ = _; rw [← hrp.out, hA.out]; rfl
    have hAl2 : A.length ≤ k := by have := hln.out; rw [← hput.out, List.length_append] at this; simp at this; exact this
    go_wp2_with (first
     | (with_reducible refine wpList_load1 (by kernel_rfl) _ _ rfl B _ rfl _ _ hb _ c3 ga3 ?_)
     | (with_reducible refine wpList_load_blk rfl _ _ rfl B2 rfl _ hb2 _ Tryz.underlying43 rfl (size40C hz) ?_)
     | ((with_reducible refine wpList_bs1 rfl _ rfl C rfl hz ?_); intro Bq W2 hBq hbq hk2; replace hown := own_next hown hk2; replace hb0 := hb0.trans (hk2.mono hb0.size))
     | (at_builtin; refine wpList_append_row infoO Tryz.underlying23 zC_size (by omega) rfl _ _ rfl W0.heap.size _ _ cs rfl hown _ _ _ _ C.toList rfl (row_one hbq hz) (obC_one hx) (by unfold maxLen; omega) (by omega) hb0.size ?_; intro v1 W3 hown3 hgrow; replace hb0 := hb0.grown hgrow hb0.size (own_ge hown); obtain ⟨ao2, cap2, rfl, hrc⟩ := RowC.of_owns hown3; replace hb := hbA.next hb0; replace hR := hRA.next hb0)
     | ((with_reducible refine wpList_test (by kernel_rfl) .gtr _ _ _ _ rfl _ _ rfl rfl (tgt_int _ _ _ _ _ _) ?_ ?_) <;> first | (intro hq2; exfalso; have h9 := hq2.out; omega) | (intro hq2))
     | ((with_reducible refine wpList_store_cell rfl _ _ _ rfl B 3 rfl (.slice ao2 (A.length + 1) cap2) rfl rfl G _ hb (by kernel_rfl) (by rw [hzG4]; omega) rfl ?_); intro W7 hb7 o7; rw [cS] at hb7; have hR7 := hR.other o7 hne.symm)
     | (with_reducible refine wpList_load_blk rfl _ _ rfl B rfl _ hb7 _ Tryz.underlying25 rfl (hz2 _) ?_)
     | ((with_reducible refine wpList_store_blk rfl _ _ _ rfl R rfl _ rfl zW hR7 (hz2 _) (hs2 _) (h12 _ _ _) ?_); intro W8 hR8 o8))
    refine bodyPost_ret (v := .agg _) (res43 Tryz.results32 rfl hR8 rfl) rfl ?_
    have hbw2 := hk.trans (hb0.mono hk.size)
    have hRo := hRl.out
    have hBR := hBR0.out
    have hlt := hb0.size
    have hws := hbw2.size
    refine ⟨ao2, (A.length + 1), cap2, rfl, ?_, o8.below _ _ hRo.1 (o7.below _ _ hRo.2 hbw2)⟩
    rw [← hput.out]
    have hob := hrc.obs (RowO.app (hro.laterK fun b hb => (hbw2.block b (hD b hb)).trans (hbw.block b (hD b hb)).symm) (RowO.single (hx.laterK fun b hb => hbw2.block b (hD b hb))))
    refine (hob.laterK (w' := W8) (fun b hb => (o8.block b (by have := hD b hb; omega)).trans (o7.block b (by have := hD b hb; omega))) (fun b hb => (o8.block b (by have := hb.1; omega)).trans (o7.block b (by have := hb.1; omega)))).wide (fun b hb => ?_) (fun b hb => ?_)
    ·exact hb
    ·exact ⟨by have := hb.1; have := hk.size; omega, by rw [o8.size, o7.size]; exact hb.2⟩
end Go.Proofs.YtiiaohejldchdaaGreat
