/-
 PROVED HERE: what reach.Look, See, Change and Dir return when they are called (contracts over this translation); what the l. What is asked stands at each.
-/
import Derived.Deep.DeepCutAuto
import Derived.Deep.OwnRows
import Derived.Test.YtblklhgojdbfeaaGreatY16
import Derived.Test.YtblklhgojdbfeaaGreatY38
namespace Go.Proofs.YtblklhgojdbfeaaGreat
set_option maxRecDepth 100000
set_option maxHeartbeats 8000000
open Go.RowKit Go.Shelf
set_option linter.unusedVariables false
attribute [local go_sem] Oper.semAt_some

section
variable {P : Program} {ops : Array Oper} {rest : List Oper} {op : Oper} {a : Act} {Q : Exit → Act → World → Prop} {w : World}
theorem wpList_box1 (hgd : op.guard = none) (ty : TypeId) (x : Operand) (ho : op.op = .box ty x) (v : Value) (hx : a.eval x = v) (hv : v.cells = #[v])
  (h : ∀ B W, Hid (w.heap.size = B ∧ W.heap.size = B + 1) → Blk W B #[v] ty → Below w.heap.size w W → wpList P ops Q rest (a.put op.dst (.pointer (some ⟨B, 0, none⟩))) W) : wpList P ops Q (op :: rest) a w :=
 wpList_plain hgd fun K hK => by
  unfold Oper.wp execOp
  simp only [ho, hx, Instr.box, newVar, newRow, newObj, Sem.run_bind, hv]
  exact hK _ _ (h _ _ ⟨rfl, by simp⟩ (Blk.new w #[v] ty) ((Below.refl _ w).alloc (Nat.le_refl _) _))
end
theorem zeroF (w : World) : (zeroValue 67).run Tryz.prog w = .ok (.agg zF) w := by kernel_rfl
theorem look1_ok {w : World} {F : Array Value} {L : Lb} {X : List Ob} {B Q : Nat} {G : Array Value} {c i : Int} (h : Fw w F L X) (hB : Blk w B F 67) (hQ : Blk w Q G 32) (g0 : G[0]? = some (.int .u64 c)) (g1 : G[1]? = some (.int .u64 i)) (gz : G.size = 2) (hE : lokE X L c i = 0) : Calls Tryz.prog 25 #[.pointer (some ⟨B, 0, none⟩), .pointer (some ⟨Q, 0, none⟩)] w (Tel (lokE X L c i) (fO X i) w) := by
 have hmf : ∀ (fn : Fn) (first cap : Array Value) (w : World), (Instr.makeFunc fn first cap).run Tryz.prog w = .ok (.func fn first cap) w := fun _ _ _ _ => rfl
 have hz : F.size = 55 := by obtain ⟨⟨_, _, _, _, _, _, _, _, _, hF, _⟩, _, _⟩ := h; exact hF.size
 have hzr : (Tryz.prog.info? 32).map (·.size) = some G.size := by rw [gz]; kernel_rfl
 have hin := fun (W : World) (hk : Below w.heap.size w W) => look_v (h.next hk) g0 g1
 have HE : Hid (lokE X L c i = 0) := hE
 clear hE
 generalize lokE X L c i = ek at hin HE ⊢
 go_enter Tryz.func25, Tryz.ntmps25
 go_wp2_with (first
  | ((with_reducible refine wpList_alloc rfl _ rfl zC zero40 ?_); intro R W2 hN2 hR hk; replace hB := hB.next hk; replace hQ := hQ.next hk; skip)
  | (with_reducible refine wpList_loadb (by kernel_rfl) 67 _ rfl B rfl F hB _ Tryz.underlying67 (by kernel_rfl) (sizeF hz) ?_)
  | (with_reducible refine wpList_loadb (by kernel_rfl) 32 _ rfl Q rfl G hQ _ Tryz.underlying32 (by kernel_rfl) hzr ?_)
  | (go_at_call 26; (with_reducible refine (hin _ hk).mono ?_); rintro e w3 hT; obtain ⟨CF, rfl, oF, hb3⟩ := hT.got HE.out; clear hT; replace hR := hR.next hb3; have hk3 := hk.trans (hb3.mono hk.size); have zF := oF.size)
  | ((with_reducible refine wpList_store_blk rfl _ _ _ rfl R rfl CF rfl zC hR (size40C zF) (zC_size.trans zF.symm) oF.one ?_); intro V5 hR5 q5))
 obtain ⟨o9, b9⟩ := ret_v hk3 hk.size oF ⟨by have := hN2.out; omega, by have := hN2.out; omega⟩ q5
 exact bodyPost_ret (v := .agg CF) (res40 Tryz.results25 rfl hR5 zF) rfl (Tel.told HE.out o9 b9)
theorem look1_no {w : World} {F : Array Value} {L : Lb} {X : List Ob} {B Q : Nat} {G : Array Value} {c i : Int} (h : Fw w F L X) (hB : Blk w B F 67) (hQ : Blk w Q G 32) (g0 : G[0]? = some (.int .u64 c)) (g1 : G[1]? = some (.int .u64 i)) (gz : G.size = 2) (hE : lokE X L c i ≠ 0) : Calls Tryz.prog 25 #[.pointer (some ⟨B, 0, none⟩), .pointer (some ⟨Q, 0, none⟩)] w (Tel (lokE X L c i) (fO X i) w) := by
 have hmf : ∀ (fn : Fn) (first cap : Array Value) (w : World), (Instr.makeFunc fn first cap).run Tryz.prog w = .ok (.func fn first cap) w := fun _ _ _ _ => rfl
 have hz : F.size = 55 := by obtain ⟨⟨_, _, _, _, _, _, _, _, _, hF, _⟩, _, _⟩ := h; exact hF.size
 have hzr : (Tryz.prog.info? 32).map (·.size) = some G.size := by rw [gz]; kernel_rfl
 have hin := fun (W : World) (hk : Below w.heap.size w W) => look_v (h.next hk) g0 g1
 have HE : Hid (lokE X L c i ≠ 0) := hE
 clear hE
 generalize lokE X L c i = ek at hin HE ⊢
 go_enter Tryz.func25, Tryz.ntmps25
 go_wp2_with (first
  | ((with_reducible refine wpList_alloc rfl _ rfl zC zero40 ?_); intro R W2 hN2 hR hk; replace hB := hB.next hk; replace hQ := hQ.next hk; skip)
  | (with_reducible refine wpList_loadb (by kernel_rfl) 67 _ rfl B rfl F hB _ Tryz.underlying67 (by kernel_rfl) (sizeF hz) ?_)
  | (with_reducible refine wpList_loadb (by kernel_rfl) 32 _ rfl Q rfl G hQ _ Tryz.underlying32 (by kernel_rfl) hzr ?_)
  | (go_at_call 26; (with_reducible refine (hin _ hk).mono ?_); rintro e w3 hT; obtain ⟨rfl, hb3⟩ := hT.lost HE.out))
 exact ⟨rfl, Tel.threw rfl HE.out (hk.trans (hb3.mono hk.size))⟩
theorem look1_v {w : World} {F : Array Value} {L : Lb} {X : List Ob} {B Q : Nat} {G : Array Value} {c i : Int} (h : Fw w F L X) (hB : Blk w B F 67) (hQ : Blk w Q G 32) (g0 : G[0]? = some (.int .u64 c)) (g1 : G[1]? = some (.int .u64 i)) (gz : G.size = 2) : Calls Tryz.prog 25 #[.pointer (some ⟨B, 0, none⟩), .pointer (some ⟨Q, 0, none⟩)] w (Tel (lokE X L c i) (fO X i) w) := by
 by_cases hE : lokE X L c i = 0
 ·exact look1_ok h hB hQ g0 g1 gz hE
 ·exact look1_no h hB hQ g0 g1 gz hE
theorem look1_enters : ∀ args w, (callFunc 25 args).run Tryz.prog w = .ok (.enter 25 args) w := enters_of Tryz.func25 (by kernel_rfl) rfl
theorem look_face {w : World} {t ke ro : Int} {ao : Option Addr} {n cap : Nat} {X : List Ob} {C : Array Value} {x : Ob} {G : Array Value} {c i : Int} (h : Obs w ao n cap X) (hs : Srt X) (hn : n ≤ 4096) (hsm : Smalls X) (hC : ObD (LtN w) w C x) (hl : x.label.length < 1048576) (g0 : G[0]? = some (.int .u64 c)) (g1 : G[1]? = some (.int .u64 i)) (gz : G.size = 2) : Calls Tryz.prog 8 #[.agg #[.int .i64 t, .int .u64 ke, .int .u64 ro, .slice ao n cap], .agg C, .agg G] w fun e w' => ∃ C', e = .returned (.tuple #[.agg C', .int .i64 (lokE X x.label c i)]) ∧ ObD (New w w') w' C' (resO (lokE X x.label c i) (fO X i)) ∧ Below w.heap.size w w' := by
 have hmf : ∀ (fn : Fn) (first cap : Array Value) (w : World), (Instr.makeFunc fn first cap).run Tryz.prog w = .ok (.func fn first cap) w := fun _ _ _ _ => rfl
 obtain ⟨F, hbt, f1, f2, f3⟩ := built_f (C := C) (G := #[.int .i64 t, .int .u64 ke, .int .u64 ro, .slice ao n cap]) hC.size rfl
 obtain ⟨a2, n2, c2, e2, l2⟩ := hC.label
 have hF := fd_of rfl f1 f2 f3 e2 hC.one
 have hFw := fun (W : World) (hk : Below w.heap.size w W) => (⟨⟨t, ke, ro, ao, n, cap, a2, n2, c2, hF, obs_next h hk, LabD.lab' l2 hk, by have := l2.1; omega, hn⟩, hs, hsm⟩ : Fw W F x.label X)
 have ho := hF.one
 have hz := hC.size
 have hzg : (Tryz.prog.info? 25).map (·.size) = some (#[.int .i64 t, .int .u64 ke, .int .u64 ro, .slice ao n cap] : Array Value).size := by kernel_rfl
 obtain ⟨D, hD⟩ : ∃ D : Array Value, D = #[.int .i64 t, .int .u64 ke, .int .u64 ro, .slice ao n cap] := ⟨_, rfl⟩
 rw [← hD] at hbt hzg
 rw [← hD]
 have hzf : zF.size = F.size := zF_size.trans f1.symm
 clear hD f2 f3 hF h hs hsm l2 e2
 have hzr : (Tryz.prog.info? 32).map (·.size) = some G.size := by rw [gz]; kernel_rfl
 have hca := fun (W : World) (B Q : Nat) (hB : Blk W B F 67) (hQ : Blk W Q G 32) (hk : Below w.heap.size w W) => caught_v 25 #[.pointer (some ⟨B, 0, none⟩), .pointer (some ⟨Q, 0, none⟩)] look1_enters (w := W) (fun V hb => look1_v (hFw V (hk.trans (hb.mono hk.size))) (hB.next hb) (hQ.next hb) g0 g1 gz)
 generalize lokE X x.label c i = ek at hca ⊢
 go_enter Tryz.func8, Tryz.ntmps8
 go_wp2_with (first
  | (with_reducible refine wpList_box rfl 25 _ rfl D rfl ?_; intro B W1 hN1 hB hk)
  | (with_reducible refine wpList_box rfl 43 _ rfl C rfl ?_; intro T W3 hN3 hT hk3; replace hB := hB.next hk3; replace hk := hk.trans (hk3.mono hk.size); clear hk3)
  | (with_reducible refine wpList_box rfl 32 _ rfl G rfl ?_; intro Q VQ hNQ hQ hkQ; replace hB := hB.next hkQ; replace hT := hT.next hkQ; replace hk := hk.trans (hkQ.mono hk.size); clear hkQ)
  | ((with_reducible refine wpList_alloc rfl 43 rfl zC zero40 ?_); intro R W2 hN2 hR hk2; replace hB := hB.next hk2; replace hT := hT.next hk2; replace hQ := hQ.next hk2; replace hk := hk.trans (hk2.mono hk.size); clear hk2)
  | (with_reducible refine wpList_loadb (by kernel_rfl) 43 _ rfl T rfl C hT _ Tryz.underlying43 (by kernel_rfl) (size40C hz) ?_)
  | (with_reducible refine wpList_loadb (by kernel_rfl) 25 _ rfl B rfl D hB _ Tryz.underlying25 (by kernel_rfl) hzg ?_)
  | ((with_reducible refine wpList_build rfl 67 [(0, _), (1, _)] rfl F ?hf ?_); (case hf => exact hbt))
  | ((with_reducible refine wpList_alloc rfl 67 rfl zF zeroF ?_); intro P W6 hN6 hP hk6; have hw6 := hk6; clear hw6; replace hB := hB.next hk6; replace hT := hT.next hk6; replace hQ := hQ.next hk6; replace hR := hR.next hk6; replace hk := hk.trans (hk6.mono hk.size); clear hk6)
  | ((with_reducible refine wpList_store_blk rfl _ _ _ rfl P rfl F rfl zF hP (sizeF f1) hzf ho ?_); intro V4 hP4 q4; have l0 := hN1.out; have l1 := hN3.out; have lQ := hNQ.out; have l2 := hN2.out; have l6 := hN6.out; replace hQ := hQ.other q4 (by omega); replace hR := hR.other q4 (by omega); replace hk := q4.below _ _ (by omega) hk)
  | (go_at_call 24; (with_reducible refine (hca _ _ _ hP4 hQ hk).mono ?_); rintro e w5 ⟨CF, rfl, oF, hb5⟩; have zF := oF.size; replace hR := hR.next hb5; have hk5 := hk.trans (hb5.mono hk.size))
  | ((with_reducible refine wpList_store_blk rfl _ _ _ rfl R rfl CF rfl zC hR (size40C zF) (zC_size.trans zF.symm) oF.one ?_); intro V5 hR5 q5))
 have e4 := q4.size
 obtain ⟨o9, b9⟩ := ret_v hk5 hk.size oF ⟨by omega, by omega⟩ q5
 exact bodyPost_ret (v := .tuple #[.agg CF, .int .i64 ek]) (res40b Tryz.results8 rfl rfl hR5 zF) rfl ⟨CF, rfl, o9, b9⟩
theorem see1_ok {w : World} {F : Array Value} {L : Lb} {X : List Ob} {B Q K : Nat} {G : Array Value} {c i kd : Int} (h : Fw w F L X) (hB : Blk w B F 67) (hQ : Blk w Q G 32) (hK : Blk w K #[.int .i64 kd] 3) (g0 : G[0]? = some (.int .u64 c)) (g1 : G[1]? = some (.int .u64 i)) (gz : G.size = 2) (hE : allE X L c i kd (seeB L) = 0) : Calls Tryz.prog 28 #[.pointer (some ⟨B, 0, none⟩), .pointer (some ⟨Q, 0, none⟩), .pointer (some ⟨K, 0, none⟩)] w (Tel (allE X L c i kd (seeB L)) (fO X i) w) := by
 have hmf : ∀ (fn : Fn) (first cap : Array Value) (w : World), (Instr.makeFunc fn first cap).run Tryz.prog w = .ok (.func fn first cap) w := fun _ _ _ _ => rfl
 have hz : F.size = 55 := by obtain ⟨⟨_, _, _, _, _, _, _, _, _, hF, _⟩, _, _⟩ := h; exact hF.size
 have hzr : (Tryz.prog.info? 32).map (·.size) = some G.size := by rw [gz]; kernel_rfl
 have hin := fun (W : World) (hk : Below w.heap.size w W) => as_v (kd := kd) (h.next hk) g0 g1 gz
 have HE : Hid (allE X L c i kd (seeB L) = 0) := hE
 clear hE
 generalize allE X L c i kd (seeB L) = ek at hin HE ⊢
 go_enter Tryz.func28, Tryz.ntmps28
 go_wp2_with (first
  | ((with_reducible refine wpList_alloc rfl _ rfl zC zero40 ?_); intro R W2 hN2 hR hk; replace hB := hB.next hk; replace hQ := hQ.next hk; replace hK := hK.next hk; skip)
  | (with_reducible refine wpList_loadb (by kernel_rfl) 67 _ rfl B rfl F hB _ Tryz.underlying67 (by kernel_rfl) (sizeF hz) ?_)
  | (with_reducible refine wpList_loadb (by kernel_rfl) 32 _ rfl Q rfl G hQ _ Tryz.underlying32 (by kernel_rfl) hzr ?_)
  | (with_reducible refine wpList_load1 (by kernel_rfl) _ _ rfl K _ rfl _ _ hK (.int .i64 kd) rfl Tryz.isAgg3 ?_)
  | (go_at_call 29; (with_reducible refine (hin _ hk).mono ?_); rintro e w3 hT; obtain ⟨CF, rfl, oF, hb3⟩ := hT.got HE.out; clear hT; replace hR := hR.next hb3; have hk3 := hk.trans (hb3.mono hk.size); have zF := oF.size)
  | ((with_reducible refine wpList_store_blk rfl _ _ _ rfl R rfl CF rfl zC hR (size40C zF) (zC_size.trans zF.symm) oF.one ?_); intro V5 hR5 q5))
 obtain ⟨o9, b9⟩ := ret_v hk3 hk.size oF ⟨by have := hN2.out; omega, by have := hN2.out; omega⟩ q5
 exact bodyPost_ret (v := .agg CF) (res40 Tryz.results28 rfl hR5 zF) rfl (Tel.told HE.out o9 b9)
theorem see1_no {w : World} {F : Array Value} {L : Lb} {X : List Ob} {B Q K : Nat} {G : Array Value} {c i kd : Int} (h : Fw w F L X) (hB : Blk w B F 67) (hQ : Blk w Q G 32) (hK : Blk w K #[.int .i64 kd] 3) (g0 : G[0]? = some (.int .u64 c)) (g1 : G[1]? = some (.int .u64 i)) (gz : G.size = 2) (hE : allE X L c i kd (seeB L) ≠ 0) : Calls Tryz.prog 28 #[.pointer (some ⟨B, 0, none⟩), .pointer (some ⟨Q, 0, none⟩), .pointer (some ⟨K, 0, none⟩)] w (Tel (allE X L c i kd (seeB L)) (fO X i) w) := by
 have hmf : ∀ (fn : Fn) (first cap : Array Value) (w : World), (Instr.makeFunc fn first cap).run Tryz.prog w = .ok (.func fn first cap) w := fun _ _ _ _ => rfl
 have hz : F.size = 55 := by obtain ⟨⟨_, _, _, _, _, _, _, _, _, hF, _⟩, _, _⟩ := h; exact hF.size
 have hzr : (Tryz.prog.info? 32).map (·.size) = some G.size := by rw [gz]; kernel_rfl
 have hin := fun (W : World) (hk : Below w.heap.size w W) => as_v (kd := kd) (h.next hk) g0 g1 gz
 have HE : Hid (allE X L c i kd (seeB L) ≠ 0) := hE
 clear hE
 generalize allE X L c i kd (seeB L) = ek at hin HE ⊢
 go_enter Tryz.func28, Tryz.ntmps28
 go_wp2_with (first
  | ((with_reducible refine wpList_alloc rfl _ rfl zC zero40 ?_); intro R W2 hN2 hR hk; replace hB := hB.next hk; replace hQ := hQ.next hk; replace hK := hK.next hk; skip)
  | (with_reducible refine wpList_loadb (by kernel_rfl) 67 _ rfl B rfl F hB _ Tryz.underlying67 (by kernel_rfl) (sizeF hz) ?_)
  | (with_reducible refine wpList_loadb (by kernel_rfl) 32 _ rfl Q rfl G hQ _ Tryz.underlying32 (by kernel_rfl) hzr ?_)
  | (with_reducible refine wpList_load1 (by kernel_rfl) _ _ rfl K _ rfl _ _ hK (.int .i64 kd) rfl Tryz.isAgg3 ?_)
  | (go_at_call 29; (with_reducible refine (hin _ hk).mono ?_); rintro e w3 hT; obtain ⟨rfl, hb3⟩ := hT.lost HE.out))
 exact ⟨rfl, Tel.threw rfl HE.out (hk.trans (hb3.mono hk.size))⟩
theorem see1_v {w : World} {F : Array Value} {L : Lb} {X : List Ob} {B Q K : Nat} {G : Array Value} {c i kd : Int} (h : Fw w F L X) (hB : Blk w B F 67) (hQ : Blk w Q G 32) (hK : Blk w K #[.int .i64 kd] 3) (g0 : G[0]? = some (.int .u64 c)) (g1 : G[1]? = some (.int .u64 i)) (gz : G.size = 2) : Calls Tryz.prog 28 #[.pointer (some ⟨B, 0, none⟩), .pointer (some ⟨Q, 0, none⟩), .pointer (some ⟨K, 0, none⟩)] w (Tel (allE X L c i kd (seeB L)) (fO X i) w) := by
 by_cases hE : allE X L c i kd (seeB L) = 0
 ·exact see1_ok h hB hQ hK g0 g1 gz hE
 ·exact see1_no h hB hQ hK g0 g1 gz hE
theorem see1_enters : ∀ args w, (callFunc 28 args).run Tryz.prog w = .ok (.enter 28 args) w := enters_of Tryz.func28 (by kernel_rfl) rfl
theorem see_face {w : World} {t ke ro : Int} {ao : Option Addr} {n cap : Nat} {X : List Ob} {C : Array Value} {x : Ob} {G : Array Value} {c i kd : Int} (h : Obs w ao n cap X) (hs : Srt X) (hn : n ≤ 4096) (hsm : Smalls X) (hC : ObD (LtN w) w C x) (hl : x.label.length < 1048576) (g0 : G[0]? = some (.int .u64 c)) (g1 : G[1]? = some (.int .u64 i)) (gz : G.size = 2) : Calls Tryz.prog 10 #[.agg #[.int .i64 t, .int .u64 ke, .int .u64 ro, .slice ao n cap], .agg C, .agg G, .int .i64 kd] w fun e w' => ∃ C', e = .returned (.tuple #[.agg C', .int .i64 (allE X x.label c i kd (seeB x.label))]) ∧ ObD (New w w') w' C' (resO (allE X x.label c i kd (seeB x.label)) (fO X i)) ∧ Below w.heap.size w w' := by
 have hmf : ∀ (fn : Fn) (first cap : Array Value) (w : World), (Instr.makeFunc fn first cap).run Tryz.prog w = .ok (.func fn first cap) w := fun _ _ _ _ => rfl
 obtain ⟨F, hbt, f1, f2, f3⟩ := built_f (C := C) (G := #[.int .i64 t, .int .u64 ke, .int .u64 ro, .slice ao n cap]) hC.size rfl
 obtain ⟨a2, n2, c2, e2, l2⟩ := hC.label
 have hF := fd_of rfl f1 f2 f3 e2 hC.one
 have hFw := fun (W : World) (hk : Below w.heap.size w W) => (⟨⟨t, ke, ro, ao, n, cap, a2, n2, c2, hF, obs_next h hk, LabD.lab' l2 hk, by have := l2.1; omega, hn⟩, hs, hsm⟩ : Fw W F x.label X)
 have ho := hF.one
 have hz := hC.size
 have hzg : (Tryz.prog.info? 25).map (·.size) = some (#[.int .i64 t, .int .u64 ke, .int .u64 ro, .slice ao n cap] : Array Value).size := by kernel_rfl
 obtain ⟨D, hD⟩ : ∃ D : Array Value, D = #[.int .i64 t, .int .u64 ke, .int .u64 ro, .slice ao n cap] := ⟨_, rfl⟩
 rw [← hD] at hbt hzg
 rw [← hD]
 have hzf : zF.size = F.size := zF_size.trans f1.symm
 clear hD f2 f3 hF h hs hsm l2 e2
 have hzr : (Tryz.prog.info? 32).map (·.size) = some G.size := by rw [gz]; kernel_rfl
 have hca := fun (W : World) (B Q K : Nat) (hB : Blk W B F 67) (hQ : Blk W Q G 32) (hK : Blk W K #[.int .i64 kd] 3) (hk : Below w.heap.size w W) => caught_v 28 #[.pointer (some ⟨B, 0, none⟩), .pointer (some ⟨Q, 0, none⟩), .pointer (some ⟨K, 0, none⟩)] see1_enters (w := W) (fun V hb => see1_v (hFw V (hk.trans (hb.mono hk.size))) (hB.next hb) (hQ.next hb) (hK.next hb) g0 g1 gz)
 have hcK : (.int .i64 kd : Value).cells = #[.int .i64 kd] := rfl
 generalize allE X x.label c i kd (seeB x.label) = ek at hca ⊢
 go_enter Tryz.func10, Tryz.ntmps10
 go_wp2_with (first
  | (with_reducible refine wpList_box rfl 25 _ rfl D rfl ?_; intro B W1 hN1 hB hk)
  | (with_reducible refine wpList_box rfl 43 _ rfl C rfl ?_; intro T W3 hN3 hT hk3; replace hB := hB.next hk3; replace hk := hk.trans (hk3.mono hk.size); clear hk3)
  | (with_reducible refine wpList_box rfl 32 _ rfl G rfl ?_; intro Q VQ hNQ hQ hkQ; replace hB := hB.next hkQ; replace hT := hT.next hkQ; replace hk := hk.trans (hkQ.mono hk.size); clear hkQ)
  | (with_reducible refine wpList_box1 rfl 3 _ rfl (.int .i64 kd) rfl hcK ?_; intro K VK hNK hK hkK; replace hB := hB.next hkK; replace hT := hT.next hkK; replace hQ := hQ.next hkK; replace hk := hk.trans (hkK.mono hk.size); clear hkK)
  | ((with_reducible refine wpList_alloc rfl 43 rfl zC zero40 ?_); intro R W2 hN2 hR hk2; replace hB := hB.next hk2; replace hT := hT.next hk2; replace hQ := hQ.next hk2; replace hK := hK.next hk2; replace hk := hk.trans (hk2.mono hk.size); clear hk2)
  | (with_reducible refine wpList_loadb (by kernel_rfl) 43 _ rfl T rfl C hT _ Tryz.underlying43 (by kernel_rfl) (size40C hz) ?_)
  | (with_reducible refine wpList_loadb (by kernel_rfl) 25 _ rfl B rfl D hB _ Tryz.underlying25 (by kernel_rfl) hzg ?_)
  | ((with_reducible refine wpList_build rfl 67 [(0, _), (1, _)] rfl F ?hf ?_); (case hf => exact hbt))
  | ((with_reducible refine wpList_alloc rfl 67 rfl zF zeroF ?_); intro P W6 hN6 hP hk6; have hw6 := hk6; clear hw6; replace hB := hB.next hk6; replace hT := hT.next hk6; replace hQ := hQ.next hk6; replace hK := hK.next hk6; replace hR := hR.next hk6; replace hk := hk.trans (hk6.mono hk.size); clear hk6)
  | ((with_reducible refine wpList_store_blk rfl _ _ _ rfl P rfl F rfl zF hP (sizeF f1) hzf ho ?_); intro V4 hP4 q4; have l0 := hN1.out; have l1 := hN3.out; have lQ := hNQ.out; have lK := hNK.out; have l2 := hN2.out; have l6 := hN6.out; replace hQ := hQ.other q4 (by omega); replace hK := hK.other q4 (by omega); replace hR := hR.other q4 (by omega); replace hk := q4.below _ _ (by omega) hk)
  | (go_at_call 24; (with_reducible refine (hca _ _ _ _ hP4 hQ hK hk).mono ?_); rintro e w5 ⟨CF, rfl, oF, hb5⟩; have zF := oF.size; replace hR := hR.next hb5; have hk5 := hk.trans (hb5.mono hk.size))
  | ((with_reducible refine wpList_store_blk rfl _ _ _ rfl R rfl CF rfl zC hR (size40C zF) (zC_size.trans zF.symm) oF.one ?_); intro V5 hR5 q5))
 have e4 := q4.size
 obtain ⟨o9, b9⟩ := ret_v hk5 hk.size oF ⟨by omega, by omega⟩ q5
 exact bodyPost_ret (v := .tuple #[.agg CF, .int .i64 ek]) (res40b Tryz.results10 rfl rfl hR5 zF) rfl ⟨CF, rfl, o9, b9⟩
theorem change1_ok {w : World} {F : Array Value} {L : Lb} {X : List Ob} {B Q K : Nat} {G : Array Value} {c i kd : Int} (h : Fw w F L X) (hB : Blk w B F 67) (hQ : Blk w Q G 32) (hK : Blk w K #[.int .i64 kd] 3) (g0 : G[0]? = some (.int .u64 c)) (g1 : G[1]? = some (.int .u64 i)) (gz : G.size = 2) (hE : allE X L c i kd (chgB L) = 0) : Calls Tryz.prog 32 #[.pointer (some ⟨B, 0, none⟩), .pointer (some ⟨Q, 0, none⟩), .pointer (some ⟨K, 0, none⟩)] w (Tel (allE X L c i kd (chgB L)) (fO X i) w) := by
 have hmf : ∀ (fn : Fn) (first cap : Array Value) (w : World), (Instr.makeFunc fn first cap).run Tryz.prog w = .ok (.func fn first cap) w := fun _ _ _ _ => rfl
 have hz : F.size = 55 := by obtain ⟨⟨_, _, _, _, _, _, _, _, _, hF, _⟩, _, _⟩ := h; exact hF.size
 have hzr : (Tryz.prog.info? 32).map (·.size) = some G.size := by rw [gz]; kernel_rfl
 have hin := fun (W : World) (hk : Below w.heap.size w W) => ac_v (kd := kd) (h.next hk) g0 g1 gz
 have HE : Hid (allE X L c i kd (chgB L) = 0) := hE
 clear hE
 generalize allE X L c i kd (chgB L) = ek at hin HE ⊢
 go_enter Tryz.func32, Tryz.ntmps32
 go_wp2_with (first
  | ((with_reducible refine wpList_alloc rfl _ rfl zC zero40 ?_); intro R W2 hN2 hR hk; replace hB := hB.next hk; replace hQ := hQ.next hk; replace hK := hK.next hk; skip)
  | (with_reducible refine wpList_loadb (by kernel_rfl) 67 _ rfl B rfl F hB _ Tryz.underlying67 (by kernel_rfl) (sizeF hz) ?_)
  | (with_reducible refine wpList_loadb (by kernel_rfl) 32 _ rfl Q rfl G hQ _ Tryz.underlying32 (by kernel_rfl) hzr ?_)
  | (with_reducible refine wpList_load1 (by kernel_rfl) _ _ rfl K _ rfl _ _ hK (.int .i64 kd) rfl Tryz.isAgg3 ?_)
  | (go_at_call 29; (with_reducible refine (hin _ hk).mono ?_); rintro e w3 hT; obtain ⟨CF, rfl, oF, hb3⟩ := hT.got HE.out; clear hT; replace hR := hR.next hb3; have hk3 := hk.trans (hb3.mono hk.size); have zF := oF.size)
  | ((with_reducible refine wpList_store_blk rfl _ _ _ rfl R rfl CF rfl zC hR (size40C zF) (zC_size.trans zF.symm) oF.one ?_); intro V5 hR5 q5))
 obtain ⟨o9, b9⟩ := ret_v hk3 hk.size oF ⟨by have := hN2.out; omega, by have := hN2.out; omega⟩ q5
 exact bodyPost_ret (v := .agg CF) (res40 Tryz.results32 rfl hR5 zF) rfl (Tel.told HE.out o9 b9)
theorem change1_no {w : World} {F : Array Value} {L : Lb} {X : List Ob} {B Q K : Nat} {G : Array Value} {c i kd : Int} (h : Fw w F L X) (hB : Blk w B F 67) (hQ : Blk w Q G 32) (hK : Blk w K #[.int .i64 kd] 3) (g0 : G[0]? = some (.int .u64 c)) (g1 : G[1]? = some (.int .u64 i)) (gz : G.size = 2) (hE : allE X L c i kd (chgB L) ≠ 0) : Calls Tryz.prog 32 #[.pointer (some ⟨B, 0, none⟩), .pointer (some ⟨Q, 0, none⟩), .pointer (some ⟨K, 0, none⟩)] w (Tel (allE X L c i kd (chgB L)) (fO X i) w) := by
 have hmf : ∀ (fn : Fn) (first cap : Array Value) (w : World), (Instr.makeFunc fn first cap).run Tryz.prog w = .ok (.func fn first cap) w := fun _ _ _ _ => rfl
 have hz : F.size = 55 := by obtain ⟨⟨_, _, _, _, _, _, _, _, _, hF, _⟩, _, _⟩ := h; exact hF.size
 have hzr : (Tryz.prog.info? 32).map (·.size) = some G.size := by rw [gz]; kernel_rfl
 have hin := fun (W : World) (hk : Below w.heap.size w W) => ac_v (kd := kd) (h.next hk) g0 g1 gz
 have HE : Hid (allE X L c i kd (chgB L) ≠ 0) := hE
 clear hE
 generalize allE X L c i kd (chgB L) = ek at hin HE ⊢
 go_enter Tryz.func32, Tryz.ntmps32
 go_wp2_with (first
  | ((with_reducible refine wpList_alloc rfl _ rfl zC zero40 ?_); intro R W2 hN2 hR hk; replace hB := hB.next hk; replace hQ := hQ.next hk; replace hK := hK.next hk; skip)
  | (with_reducible refine wpList_loadb (by kernel_rfl) 67 _ rfl B rfl F hB _ Tryz.underlying67 (by kernel_rfl) (sizeF hz) ?_)
  | (with_reducible refine wpList_loadb (by kernel_rfl) 32 _ rfl Q rfl G hQ _ Tryz.underlying32 (by kernel_rfl) hzr ?_)
  | (with_reducible refine wpList_load1 (by kernel_rfl) _ _ rfl K _ rfl _ _ hK (.int .i64 kd) rfl Tryz.isAgg3 ?_)
  | (go_at_call 29; (with_reducible refine (hin _ hk).mono ?_); rintro e w3 hT; obtain ⟨rfl, hb3⟩ := hT.lost HE.out))
 exact ⟨rfl, Tel.threw rfl HE.out (hk.trans (hb3.mono hk.size))⟩
theorem change1_v {w : World} {F : Array Value} {L : Lb} {X : List Ob} {B Q K : Nat} {G : Array Value} {c i kd : Int} (h : Fw w F L X) (hB : Blk w B F 67) (hQ : Blk w Q G 32) (hK : Blk w K #[.int .i64 kd] 3) (g0 : G[0]? = some (.int .u64 c)) (g1 : G[1]? = some (.int .u64 i)) (gz : G.size = 2) : Calls Tryz.prog 32 #[.pointer (some ⟨B, 0, none⟩), .pointer (some ⟨Q, 0, none⟩), .pointer (some ⟨K, 0, none⟩)] w (Tel (allE X L c i kd (chgB L)) (fO X i) w) := by
 by_cases hE : allE X L c i kd (chgB L) = 0
 ·exact change1_ok h hB hQ hK g0 g1 gz hE
 ·exact change1_no h hB hQ hK g0 g1 gz hE
theorem change1_enters : ∀ args w, (callFunc 32 args).run Tryz.prog w = .ok (.enter 32 args) w := enters_of Tryz.func32 (by kernel_rfl) rfl
theorem change_face {w : World} {t ke ro : Int} {ao : Option Addr} {n cap : Nat} {X : List Ob} {C : Array Value} {x : Ob} {G : Array Value} {c i kd : Int} (h : Obs w ao n cap X) (hs : Srt X) (hn : n ≤ 4096) (hsm : Smalls X) (hC : ObD (LtN w) w C x) (hl : x.label.length < 1048576) (g0 : G[0]? = some (.int .u64 c)) (g1 : G[1]? = some (.int .u64 i)) (gz : G.size = 2) : Calls Tryz.prog 12 #[.agg #[.int .i64 t, .int .u64 ke, .int .u64 ro, .slice ao n cap], .agg C, .agg G, .int .i64 kd] w fun e w' => ∃ C', e = .returned (.tuple #[.agg C', .int .i64 (allE X x.label c i kd (chgB x.label))]) ∧ ObD (New w w') w' C' (resO (allE X x.label c i kd (chgB x.label)) (fO X i)) ∧ Below w.heap.size w w' := by
 have hmf : ∀ (fn : Fn) (first cap : Array Value) (w : World), (Instr.makeFunc fn first cap).run Tryz.prog w = .ok (.func fn first cap) w := fun _ _ _ _ => rfl
 obtain ⟨F, hbt, f1, f2, f3⟩ := built_f (C := C) (G := #[.int .i64 t, .int .u64 ke, .int .u64 ro, .slice ao n cap]) hC.size rfl
 obtain ⟨a2, n2, c2, e2, l2⟩ := hC.label
 have hF := fd_of rfl f1 f2 f3 e2 hC.one
 have hFw := fun (W : World) (hk : Below w.heap.size w W) => (⟨⟨t, ke, ro, ao, n, cap, a2, n2, c2, hF, obs_next h hk, LabD.lab' l2 hk, by have := l2.1; omega, hn⟩, hs, hsm⟩ : Fw W F x.label X)
 have ho := hF.one
 have hz := hC.size
 have hzg : (Tryz.prog.info? 25).map (·.size) = some (#[.int .i64 t, .int .u64 ke, .int .u64 ro, .slice ao n cap] : Array Value).size := by kernel_rfl
 obtain ⟨D, hD⟩ : ∃ D : Array Value, D = #[.int .i64 t, .int .u64 ke, .int .u64 ro, .slice ao n cap] := ⟨_, rfl⟩
 rw [← hD] at hbt hzg
 rw [← hD]
 have hzf : zF.size = F.size := zF_size.trans f1.symm
 clear hD f2 f3 hF h hs hsm l2 e2
 have hzr : (Tryz.prog.info? 32).map (·.size) = some G.size := by rw [gz]; kernel_rfl
 have hca := fun (W : World) (B Q K : Nat) (hB : Blk W B F 67) (hQ : Blk W Q G 32) (hK : Blk W K #[.int .i64 kd] 3) (hk : Below w.heap.size w W) => caught_v 32 #[.pointer (some ⟨B, 0, none⟩), .pointer (some ⟨Q, 0, none⟩), .pointer (some ⟨K, 0, none⟩)] change1_enters (w := W) (fun V hb => change1_v (hFw V (hk.trans (hb.mono hk.size))) (hB.next hb) (hQ.next hb) (hK.next hb) g0 g1 gz)
 have hcK : (.int .i64 kd : Value).cells = #[.int .i64 kd] := rfl
 generalize allE X x.label c i kd (chgB x.label) = ek at hca ⊢
 go_enter Tryz.func12, Tryz.ntmps12
 go_wp2_with (first
  | (with_reducible refine wpList_box rfl 25 _ rfl D rfl ?_; intro B W1 hN1 hB hk)
  | (with_reducible refine wpList_box rfl 43 _ rfl C rfl ?_; intro T W3 hN3 hT hk3; replace hB := hB.next hk3; replace hk := hk.trans (hk3.mono hk.size); clear hk3)
  | (with_reducible refine wpList_box rfl 32 _ rfl G rfl ?_; intro Q VQ hNQ hQ hkQ; replace hB := hB.next hkQ; replace hT := hT.next hkQ; replace hk := hk.trans (hkQ.mono hk.size); clear hkQ)
  | (with_reducible refine wpList_box1 rfl 3 _ rfl (.int .i64 kd) rfl hcK ?_; intro K VK hNK hK hkK; replace hB := hB.next hkK; replace hT := hT.next hkK; replace hQ := hQ.next hkK; replace hk := hk.trans (hkK.mono hk.size); clear hkK)
  | ((with_reducible refine wpList_alloc rfl 43 rfl zC zero40 ?_); intro R W2 hN2 hR hk2; replace hB := hB.next hk2; replace hT := hT.next hk2; replace hQ := hQ.next hk2; replace hK := hK.next hk2; replace hk := hk.trans (hk2.mono hk.size); clear hk2)
  | (with_reducible refine wpList_loadb (by kernel_rfl) 43 _ rfl T rfl C hT _ Tryz.underlying43 (by kernel_rfl) (size40C hz) ?_)
  | (with_reducible refine wpList_loadb (by kernel_rfl) 25 _ rfl B rfl D hB _ Tryz.underlying25 (by kernel_rfl) hzg ?_)
  | ((with_reducible refine wpList_build rfl 67 [(0, _), (1, _)] rfl F ?hf ?_); (case hf => exact hbt))
  | ((with_reducible refine wpList_alloc rfl 67 rfl zF zeroF ?_); intro P W6 hN6 hP hk6; have hw6 := hk6; clear hw6; replace hB := hB.next hk6; replace hT := hT.next hk6; replace hQ := hQ.next hk6; replace hK := hK.next hk6; replace hR := hR.next hk6; replace hk := hk.trans (hk6.mono hk.size); clear hk6)
  | ((with_reducible refine wpList_store_blk rfl _ _ _ rfl P rfl F rfl zF hP (sizeF f1) hzf ho ?_); intro V4 hP4 q4; have l0 := hN1.out; have l1 := hN3.out; have lQ := hNQ.out; have lK := hNK.out; have l2 := hN2.out; have l6 := hN6.out; replace hQ := hQ.other q4 (by omega); replace hK := hK.other q4 (by omega); replace hR := hR.other q4 (by omega); replace hk := q4.below _ _ (by omega) hk)
  | (go_at_call 24; (with_reducible refine (hca _ _ _ _ hP4 hQ hK hk).mono ?_); rintro e w5 ⟨CF, rfl, oF, hb5⟩; have zF := oF.size; replace hR := hR.next hb5; have hk5 := hk.trans (hb5.mono hk.size))
  | ((with_reducible refine wpList_store_blk rfl _ _ _ rfl R rfl CF rfl zC hR (size40C zF) (zC_size.trans zF.symm) oF.one ?_); intro V5 hR5 q5))
 have e4 := q4.size
 obtain ⟨o9, b9⟩ := ret_v hk5 hk.size oF ⟨by omega, by omega⟩ q5
 exact bodyPost_ret (v := .tuple #[.agg CF, .int .i64 ek]) (res40b Tryz.results12 rfl rfl hR5 zF) rfl ⟨CF, rfl, o9, b9⟩
theorem dir1_ok {w : World} {F : Array Value} {L : Lb} {X : List Ob} {B Q K : Nat} {i : Int} {wr : Bool} (h : Fw w F L X) (hB : Blk w B F 67) (hQ : Blk w Q #[.int .u64 i] 22) (hK : Blk w K #[.bool wr] 4)  (hE : dirE X L i wr = 0) : Calls Tryz.prog 35 #[.pointer (some ⟨B, 0, none⟩), .pointer (some ⟨Q, 0, none⟩), .pointer (some ⟨K, 0, none⟩)] w (Tel (dirE X L i wr) (fO X i) w) := by
 have hmf : ∀ (fn : Fn) (first cap : Array Value) (w : World), (Instr.makeFunc fn first cap).run Tryz.prog w = .ok (.func fn first cap) w := fun _ _ _ _ => rfl
 have hz : F.size = 55 := by obtain ⟨⟨_, _, _, _, _, _, _, _, _, hF, _⟩, _, _⟩ := h; exact hF.size
 have hin := fun (W : World) (hk : Below w.heap.size w W) => dir_v (i := i) (wr := wr) (h.next hk)
 have HE : Hid (dirE X L i wr = 0) := hE
 clear hE
 generalize dirE X L i wr = ek at hin HE ⊢
 go_enter Tryz.func35, Tryz.ntmps35
 go_wp2_with (first
  | ((with_reducible refine wpList_alloc rfl _ rfl zC zero40 ?_); intro R W2 hN2 hR hk; replace hB := hB.next hk; replace hQ := hQ.next hk; replace hK := hK.next hk; skip)
  | (with_reducible refine wpList_loadb (by kernel_rfl) 67 _ rfl B rfl F hB _ Tryz.underlying67 (by kernel_rfl) (sizeF hz) ?_)
  | (with_reducible refine wpList_load1 (by kernel_rfl) _ _ rfl Q _ rfl _ _ hQ (.int .u64 i) rfl Tryz.isAgg22 ?_)
  | (with_reducible refine wpList_load1 (by kernel_rfl) _ _ rfl K _ rfl _ _ hK (.bool wr) rfl Tryz.isAgg4 ?_)
  | (go_at_call 36; (with_reducible refine (hin _ hk).mono ?_); rintro e w3 hT; obtain ⟨CF, rfl, oF, hb3⟩ := hT.got HE.out; clear hT; replace hR := hR.next hb3; have hk3 := hk.trans (hb3.mono hk.size); have zF := oF.size)
  | ((with_reducible refine wpList_store_blk rfl _ _ _ rfl R rfl CF rfl zC hR (size40C zF) (zC_size.trans zF.symm) oF.one ?_); intro V5 hR5 q5))
 obtain ⟨o9, b9⟩ := ret_v hk3 hk.size oF ⟨by have := hN2.out; omega, by have := hN2.out; omega⟩ q5
 exact bodyPost_ret (v := .agg CF) (res40 Tryz.results35 rfl hR5 zF) rfl (Tel.told HE.out o9 b9)
theorem dir1_no {w : World} {F : Array Value} {L : Lb} {X : List Ob} {B Q K : Nat} {i : Int} {wr : Bool} (h : Fw w F L X) (hB : Blk w B F 67) (hQ : Blk w Q #[.int .u64 i] 22) (hK : Blk w K #[.bool wr] 4)  (hE : dirE X L i wr ≠ 0) : Calls Tryz.prog 35 #[.pointer (some ⟨B, 0, none⟩), .pointer (some ⟨Q, 0, none⟩), .pointer (some ⟨K, 0, none⟩)] w (Tel (dirE X L i wr) (fO X i) w) := by
 have hmf : ∀ (fn : Fn) (first cap : Array Value) (w : World), (Instr.makeFunc fn first cap).run Tryz.prog w = .ok (.func fn first cap) w := fun _ _ _ _ => rfl
 have hz : F.size = 55 := by obtain ⟨⟨_, _, _, _, _, _, _, _, _, hF, _⟩, _, _⟩ := h; exact hF.size
 have hin := fun (W : World) (hk : Below w.heap.size w W) => dir_v (i := i) (wr := wr) (h.next hk)
 have HE : Hid (dirE X L i wr ≠ 0) := hE
 clear hE
 generalize dirE X L i wr = ek at hin HE ⊢
 go_enter Tryz.func35, Tryz.ntmps35
 go_wp2_with (first
  | ((with_reducible refine wpList_alloc rfl _ rfl zC zero40 ?_); intro R W2 hN2 hR hk; replace hB := hB.next hk; replace hQ := hQ.next hk; replace hK := hK.next hk; skip)
  | (with_reducible refine wpList_loadb (by kernel_rfl) 67 _ rfl B rfl F hB _ Tryz.underlying67 (by kernel_rfl) (sizeF hz) ?_)
  | (with_reducible refine wpList_load1 (by kernel_rfl) _ _ rfl Q _ rfl _ _ hQ (.int .u64 i) rfl Tryz.isAgg22 ?_)
  | (with_reducible refine wpList_load1 (by kernel_rfl) _ _ rfl K _ rfl _ _ hK (.bool wr) rfl Tryz.isAgg4 ?_)
  | (go_at_call 36; (with_reducible refine (hin _ hk).mono ?_); rintro e w3 hT; obtain ⟨rfl, hb3⟩ := hT.lost HE.out))
 exact ⟨rfl, Tel.threw rfl HE.out (hk.trans (hb3.mono hk.size))⟩
theorem dir1_v {w : World} {F : Array Value} {L : Lb} {X : List Ob} {B Q K : Nat} {i : Int} {wr : Bool} (h : Fw w F L X) (hB : Blk w B F 67) (hQ : Blk w Q #[.int .u64 i] 22) (hK : Blk w K #[.bool wr] 4)  : Calls Tryz.prog 35 #[.pointer (some ⟨B, 0, none⟩), .pointer (some ⟨Q, 0, none⟩), .pointer (some ⟨K, 0, none⟩)] w (Tel (dirE X L i wr) (fO X i) w) := by
 by_cases hE : dirE X L i wr = 0
 ·exact dir1_ok h hB hQ hK  hE
 ·exact dir1_no h hB hQ hK  hE
theorem dir1_enters : ∀ args w, (callFunc 35 args).run Tryz.prog w = .ok (.enter 35 args) w := enters_of Tryz.func35 (by kernel_rfl) rfl
theorem dir_face {w : World} {t ke ro : Int} {ao : Option Addr} {n cap : Nat} {X : List Ob} {C : Array Value} {x : Ob} {i : Int} {wr : Bool} (h : Obs w ao n cap X) (hs : Srt X) (hn : n ≤ 4096) (hsm : Smalls X) (hC : ObD (LtN w) w C x) (hl : x.label.length < 1048576)  : Calls Tryz.prog 14 #[.agg #[.int .i64 t, .int .u64 ke, .int .u64 ro, .slice ao n cap], .agg C, .int .u64 i, .bool wr] w fun e w' => ∃ C', e = .returned (.tuple #[.agg C', .int .i64 (dirE X x.label i wr)]) ∧ ObD (New w w') w' C' (resO (dirE X x.label i wr) (fO X i)) ∧ Below w.heap.size w w' := by
 have hmf : ∀ (fn : Fn) (first cap : Array Value) (w : World), (Instr.makeFunc fn first cap).run Tryz.prog w = .ok (.func fn first cap) w := fun _ _ _ _ => rfl
 obtain ⟨F, hbt, f1, f2, f3⟩ := built_f (C := C) (G := #[.int .i64 t, .int .u64 ke, .int .u64 ro, .slice ao n cap]) hC.size rfl
 obtain ⟨a2, n2, c2, e2, l2⟩ := hC.label
 have hF := fd_of rfl f1 f2 f3 e2 hC.one
 have hFw := fun (W : World) (hk : Below w.heap.size w W) => (⟨⟨t, ke, ro, ao, n, cap, a2, n2, c2, hF, obs_next h hk, LabD.lab' l2 hk, by have := l2.1; omega, hn⟩, hs, hsm⟩ : Fw W F x.label X)
 have ho := hF.one
 have hz := hC.size
 have hzg : (Tryz.prog.info? 25).map (·.size) = some (#[.int .i64 t, .int .u64 ke, .int .u64 ro, .slice ao n cap] : Array Value).size := by kernel_rfl
 obtain ⟨D, hD⟩ : ∃ D : Array Value, D = #[.int .i64 t, .int .u64 ke, .int .u64 ro, .slice ao n cap] := ⟨_, rfl⟩
 rw [← hD] at hbt hzg
 rw [← hD]
 have hzf : zF.size = F.size := zF_size.trans f1.symm
 clear hD f2 f3 hF h hs hsm l2 e2
 have hca := fun (W : World) (B Q K : Nat) (hB : Blk W B F 67) (hQ : Blk W Q #[.int .u64 i] 22) (hK : Blk W K #[.bool wr] 4) (hk : Below w.heap.size w W) => caught_v 35 #[.pointer (some ⟨B, 0, none⟩), .pointer (some ⟨Q, 0, none⟩), .pointer (some ⟨K, 0, none⟩)] dir1_enters (w := W) (fun V hb => dir1_v (hFw V (hk.trans (hb.mono hk.size))) (hB.next hb) (hQ.next hb) (hK.next hb) )
 have hcQ : (.int .u64 i : Value).cells = #[.int .u64 i] := rfl
 have hcK : (.bool wr : Value).cells = #[.bool wr] := rfl
 generalize dirE X x.label i wr = ek at hca ⊢
 go_enter Tryz.func14, Tryz.ntmps14
 go_wp2_with (first
  | (with_reducible refine wpList_box rfl 25 _ rfl D rfl ?_; intro B W1 hN1 hB hk)
  | (with_reducible refine wpList_box rfl 43 _ rfl C rfl ?_; intro T W3 hN3 hT hk3; replace hB := hB.next hk3; replace hk := hk.trans (hk3.mono hk.size); clear hk3)
  | (with_reducible refine wpList_box1 rfl 22 _ rfl (.int .u64 i) rfl hcQ ?_; intro Q VQ hNQ hQ hkQ; replace hB := hB.next hkQ; replace hT := hT.next hkQ; replace hk := hk.trans (hkQ.mono hk.size); clear hkQ)
  | (with_reducible refine wpList_box1 rfl 4 _ rfl (.bool wr) rfl hcK ?_; intro K VK hNK hK hkK; replace hB := hB.next hkK; replace hT := hT.next hkK; replace hQ := hQ.next hkK; replace hk := hk.trans (hkK.mono hk.size); clear hkK)
  | ((with_reducible refine wpList_alloc rfl 43 rfl zC zero40 ?_); intro R W2 hN2 hR hk2; replace hB := hB.next hk2; replace hT := hT.next hk2; replace hQ := hQ.next hk2; replace hK := hK.next hk2; replace hk := hk.trans (hk2.mono hk.size); clear hk2)
  | (with_reducible refine wpList_loadb (by kernel_rfl) 43 _ rfl T rfl C hT _ Tryz.underlying43 (by kernel_rfl) (size40C hz) ?_)
  | (with_reducible refine wpList_loadb (by kernel_rfl) 25 _ rfl B rfl D hB _ Tryz.underlying25 (by kernel_rfl) hzg ?_)
  | ((with_reducible refine wpList_build rfl 67 [(0, _), (1, _)] rfl F ?hf ?_); (case hf => exact hbt))
  | ((with_reducible refine wpList_alloc rfl 67 rfl zF zeroF ?_); intro P W6 hN6 hP hk6; have hw6 := hk6; clear hw6; replace hB := hB.next hk6; replace hT := hT.next hk6; replace hQ := hQ.next hk6; replace hK := hK.next hk6; replace hR := hR.next hk6; replace hk := hk.trans (hk6.mono hk.size); clear hk6)
  | ((with_reducible refine wpList_store_blk rfl _ _ _ rfl P rfl F rfl zF hP (sizeF f1) hzf ho ?_); intro V4 hP4 q4; have l0 := hN1.out; have l1 := hN3.out; have lQ := hNQ.out; have lK := hNK.out; have l2 := hN2.out; have l6 := hN6.out; replace hQ := hQ.other q4 (by omega); replace hK := hK.other q4 (by omega); replace hR := hR.other q4 (by omega); replace hk := q4.below _ _ (by omega) hk)
  | (go_at_call 24; (with_reducible refine (hca _ _ _ _ hP4 hQ hK hk).mono ?_); rintro e w5 ⟨CF, rfl, oF, hb5⟩; have zF := oF.size; replace hR := hR.next hb5; have hk5 := hk.trans (hb5.mono hk.size))
  | ((with_reducible refine wpList_store_blk rfl _ _ _ rfl R rfl CF rfl zC hR (size40C zF) (zC_size.trans zF.symm) oF.one ?_); intro V5 hR5 q5))
 have e4 := q4.size
 obtain ⟨o9, b9⟩ := ret_v hk5 hk.size oF ⟨by omega, by omega⟩ q5
 exact bodyPost_ret (v := .tuple #[.agg CF, .int .i64 ek]) (res40b Tryz.results14 rfl rfl hR5 zF) rfl ⟨CF, rfl, o9, b9⟩
end Go.Proofs.YtblklhgojdbfeaaGreat
namespace Go.Proofs.YtblklhgojdbfeaaGreat
set_option maxRecDepth 100000
set_option maxHeartbeats 8000000
open Go.RowKit Go.Shelf
set_option linter.unusedVariables false
attribute [local go_sem] Oper.semAt_some

def aw1 : Ob := ⟨1, 2, [], 3, false, [], [], [], zTh, zGt, [], []⟩
def aw9 : Ob := ⟨9, 4, [(7, 4)], 1, false, [], [], [], { zTh with clear := [(7, 4)] }, zGt, [], []⟩
theorem aw_e : lokE [aw1] [(7, 4)] 1 2 = 1 := by decide +kernel
theorem aw_f : dirE [aw1] [(7, 4)] 1 true = 2 := by decide +kernel
theorem aw_g : dirE [aw1] [(7, 4)] 1 false = 0 := by decide +kernel
theorem aw_o : fO [aw1] 1 = aw1 := rfl
theorem aw_srt : Srt [aw1] := by unfold Srt; simp
theorem aw_sml : Smalls [aw1] := fun x hx => by
 obtain rfl : x = aw1 := by simpa using hx
 exact ⟨by decide, by decide, by decide, by decide, by decide, by decide, by decide, by decide, by decide, by decide, by decide, by decide, by decide, by decide⟩
def zTc : Array Value := (zC.extract 8 43)
def c1v : Array Value := comC (.int .u64 1) (.int .i64 2) (.slice none 0 0) (.int .i64 3) (.bool false)
def ctv (b1 b2 : Nat) : Array Value := (comC (.int .u64 9) (.int .i64 4) (.slice (some ⟨b1, 0, none⟩) 1 1) (.int .i64 1) (.bool false)).setIfInBounds 25 (.slice (some ⟨b2, 0, none⟩) 1 1)
def dwv (S : Nat) : Array Value := #[.int .i64 0, .int .u64 0, .int .u64 1, .slice (some ⟨S, 0, none⟩) 1 1]
def thv (b2 : Nat) : Array Value := zTc.setIfInBounds 17 (.slice (some ⟨b2, 0, none⟩) 1 1)
theorem blt_1 : Tryz.prog.built 43 [(0, .int .u64 1), (1, .int .i64 2), (3, .int .i64 3)] = some (c1v) := by kernel_rfl
theorem blt_w (S : Nat) : Tryz.prog.built 25 [(2, .int .u64 1), (3, .slice (some ⟨S, 0, none⟩) 1 1)] = some (dwv S) := by kernel_rfl
theorem blt_h (b2 : Nat) : Tryz.prog.built 39 [(2, .slice (some ⟨b2, 0, none⟩) 1 1)] = some (thv b2) := by kernel_rfl
theorem blt_t (b1 b2 : Nat) : Tryz.prog.built 43 [(0, .int .u64 9), (1, .int .i64 4), (3, .int .i64 1), (2, .slice (some ⟨b1, 0, none⟩) 1 1), (8, .agg (thv b2))] = some (ctv b1 b2) := by kernel_rfl
theorem blt_r : Tryz.prog.built 32 [(0, .int .u64 1), (1, .int .u64 2)] = some #[.int .u64 1, .int .u64 2] := by kernel_rfl
theorem blt_p : Tryz.prog.built 65 [(0, .int .u64 7), (1, .int .i64 4)] = some #[.int .u64 7, .int .i64 4] := by kernel_rfl
theorem run_bsp (w : World) : (Instr.buildSlice 27 1 #[(0, .agg #[.int .u64 7, .int .i64 4])]).run Tryz.prog w = .ok (.slice (some ⟨w.heap.size, 0, none⟩) 1 1) (w.alloc (.cells #[.int .u64 7, .int .i64 4] 65)) := by kernel_rfl
section
variable {ops : Array Oper} {rest : List Oper} {op : Oper} {a : Act} {Q : Exit → Act → World → Prop} {w : World}
theorem wpList_bsp (hgd : op.guard = none) (x : Operand) (ho : op.op = .buildSlice 27 1 #[(0, x)]) (hx : a.eval x = .agg #[.int .u64 7, .int .i64 4])
  (h : ∀ B W, Hid (w.heap.size = B ∧ W.heap.size = B + 1) → Blk W B #[.int .u64 7, .int .i64 4] 65 → Below w.heap.size w W → wpList Tryz.prog ops Q rest (a.put op.dst (.slice (some ⟨B, 0, none⟩) 1 1)) W) : wpList Tryz.prog ops Q (op :: rest) a w :=
 wpList_plain hgd fun K hK => by
  have e : (#[(0, x)].map fun ((i : Nat), x) => (i, a.eval x)) = #[(0, Value.agg #[.int .u64 7, .int .i64 4])] := by simp [hx]
  unfold Oper.wp execOp
  simp only [ho, e, Sem.run_bind, run_bsp, Result.andThen_ok]
  exact hK _ _ (h _ _ ⟨rfl, by simp⟩ (Blk.new w _ 65) ((Below.refl _ w).alloc (Nat.le_refl _) _))
end
theorem lay_act {P : Program} {ops : Array Oper} {rest : List Oper} {a : Act} {Q : Exit → Act → World → Prop} {w : World} {A : Act} (h : a = A) (k : wpList P ops Q rest A w) : wpList P ops Q rest a w := by subst h; exact k
theorem lab_blk {w : World} {b : Nat} (hb : Blk w b #[.int .u64 7, .int .i64 4] 65) : LabD (LtN w) w (some ⟨b, 0, none⟩) 1 1 [(7, 4)] := by
 refine ⟨rfl, Nat.le_refl _, ⟨by omega, fun e => by cases e⟩, fun _ => ⟨_, 0, rfl, hb.lt, fun i hi => ?_⟩⟩
 obtain rfl : i = 0 := by omega
 exact ⟨hb.cell 0, hb.cell 1⟩
theorem aw9_d {w : World} {b1 b2 : Nat} (h1 : Blk w b1 #[.int .u64 7, .int .i64 4] 65) (h2 : Blk w b2 #[.int .u64 7, .int .i64 4] 65) : ObD (LtN w) w (ctv b1 b2) aw9 :=
 (comC_d (lab_blk h1)).set25 ⟨_, _, _, rfl, lab_blk h2⟩ rfl
theorem aw1_d (D : Nat → Prop) (w : World) : ObD D w (c1v) aw1 := comC_d (LabD.nil D w)
theorem awake17_any (w : World) : Calls Tryz.prog 7 #[] w fun e w' => e = .returned (.bool true) ∧ Below w.heap.size w w' := by
 have hz1 := (aw1_d (fun _ => True) w).size
 have ho1 := (aw1_d (fun _ => True) w).one
 have hz2 : ∀ S : Nat, (Tryz.prog.info? 25).map (·.size) = some ((dwv S) : Array Value).size := fun S => by kernel_rfl
 have hs2 : ∀ S : Nat, zW.size = ((dwv S) : Array Value).size := fun S => rfl
 have hn2 : ∀ S : Nat, ((dwv S) : Array Value).all (·.oneCell') = true := fun S => by kernel_rfl
 have hfl := fun {W : World} {S b1 b2 : Nat} (hS : Blk W S (c1v) 43) (h1 : Blk W b1 #[.int .u64 7, .int .i64 4] 65) (h2 : Blk W b2 #[.int .u64 7, .int .i64 4] 65) => look_face (t := 0) (ke := 0) (ro := 1) (G := #[.int .u64 1, .int .u64 2]) (c := 1) (i := 2) (obs_one hS (aw1_d (LtN W) W)) aw_srt (by decide) aw_sml (aw9_d h1 h2) (by decide) rfl rfl rfl
 have hfd := fun {W : World} {S b1 b2 : Nat} {wr : Bool} (hS : Blk W S (c1v) 43) (h1 : Blk W b1 #[.int .u64 7, .int .i64 4] 65) (h2 : Blk W b2 #[.int .u64 7, .int .i64 4] 65) => dir_face (t := 0) (ke := 0) (ro := 1) (i := 1) (wr := wr) (obs_one hS (aw1_d (LtN W) W)) aw_srt (by decide) aw_sml (aw9_d h1 h2) (by decide)
 have hzt : ∀ b1 b2 : Nat, (ctv b1 b2).size = 51 := fun b1 b2 => by kernel_rfl
 have hot : ∀ b1 b2 : Nat, (ctv b1 b2).all (·.oneCell') = true := fun b1 b2 => by kernel_rfl
 change ∀ {W : World} {S b1 b2 : Nat}, _ → _ → _ → Calls Tryz.prog _ #[.agg (dwv S), .agg (ctv b1 b2), .agg #[.int .u64 1, .int .u64 2]] W fun e w' => ∃ C', e = .returned (.tuple #[.agg C', .int .i64 (lokE [aw1] [(7, 4)] 1 2)]) ∧ _ at hfl
 change ∀ {W : World} {S b1 b2 : Nat} {wr : Bool}, _ → _ → _ → Calls Tryz.prog _ #[.agg (dwv S), .agg (ctv b1 b2), .int .u64 1, .bool wr] W fun e w' => ∃ C', e = .returned (.tuple #[.agg C', .int .i64 (dirE [aw1] [(7, 4)] 1 wr)]) ∧ ObD _ _ C' (resO (dirE [aw1] [(7, 4)] 1 wr) (fO [aw1] 1)) ∧ _ at hfd
 have hf1 := fun {W : World} {S b1 b2 : Nat} (hS : Blk W S (c1v) 43) (h1 : Blk W b1 #[.int .u64 7, .int .i64 4] 65) (h2 : Blk W b2 #[.int .u64 7, .int .i64 4] 65) => hfd (wr := true) hS h1 h2
 have hf0 := fun {W : World} {S b1 b2 : Nat} (hS : Blk W S (c1v) 43) (h1 : Blk W b1 #[.int .u64 7, .int .i64 4] 65) (h2 : Blk W b2 #[.int .u64 7, .int .i64 4] 65) => hfd (wr := false) hS h1 h2
 simp only [aw_e] at hfl
 simp only [aw_f] at hf1
 simp only [aw_g, aw_o] at hf0
 clear hfd
 go_enter Tryz.func7, Tryz.ntmps7
 go_wp2_with (first
  | go_skip
  | ((with_reducible refine wpList_build rfl 43 [(0, .const (.int .u64 1)), (1, .const (.int .i64 2)), (3, .const (.int .i64 3))] rfl (c1v) ?hf ?_); (case hf => exact blt_1))
  | ((with_reducible refine wpList_bs1 rfl _ rfl (c1v) rfl hz1 ?_); intro S W1 hN1 hS hk)
  | ((with_reducible refine wpList_build rfl 25 [(2, .const (.int .u64 1)), (3, .tmp 10)] rfl (dwv S) ?hf ?_); (case hf => exact blt_w S))
  | ((with_reducible refine wpList_alloc rfl 25 rfl zW zero43 ?_); intro B W2 hN2 hBa hk2; replace hS := hS.next hk2; replace hk := hk.trans (hk2.mono hk.size); clear hk2)
  | ((with_reducible refine wpList_store_blk rfl _ _ _ rfl B rfl (dwv S) rfl zW hBa (hz2 S) (hs2 S) (hn2 S) ?_); intro W3 hB q3; replace hS := hS.other q3 (by have := hN1.out; have := hN2.out; omega); replace hk := q3.below _ _ (by have := hN1.out; have := hN2.out; omega) hk; have hq3 : Hid (W3.heap.size = W2.heap.size) := q3.size; clear q3)
  | ((with_reducible refine wpList_build rfl 65 [(0, .const (.int .u64 7)), (1, .const (.int .i64 4))] rfl #[.int .u64 7, .int .i64 4] ?hf ?_); (case hf => exact blt_p))
  | ((with_reducible refine wpList_bsp rfl (.tmp 12) rfl rfl ?_); intro b1 W4 hN4 hb1 hk4; replace hS := hS.next hk4; replace hB := hB.next hk4; replace hk := hk.trans (hk4.mono hk.size); clear hk4; refine lay_act (A := { tmps := #[.bool false, .pointer (some ⟨B, 0, none⟩), undef, undef, undef, undef, undef, undef, undef, .agg c1v, .slice (some ⟨S, 0, none⟩) 1 1, .agg (dwv S), .agg #[.int .u64 7, .int .i64 4], .slice (some ⟨b1, 0, none⟩) 1 1, undef, undef, undef, undef, undef, undef, undef, undef, undef, undef, undef, undef, undef, undef, undef, undef, undef, undef, undef, undef, undef, undef, undef, undef, undef, undef, undef, undef, undef, undef, undef, undef, undef, undef, undef, undef, undef, undef], defers := [] }) (by kernel_rfl) ?_)
  | ((with_reducible refine wpList_bsp rfl (.tmp 14) rfl rfl ?_); intro b2 W5 hN5 hb2 hk5; replace hS := hS.next hk5; replace hB := hB.next hk5; replace hb1 := hb1.next hk5; replace hk := hk.trans (hk5.mono hk.size); clear hk5; refine lay_act (A := { tmps := #[.bool false, .pointer (some ⟨B, 0, none⟩), undef, undef, undef, undef, undef, undef, undef, .agg c1v, .slice (some ⟨S, 0, none⟩) 1 1, .agg (dwv S), .agg #[.int .u64 7, .int .i64 4], .slice (some ⟨b1, 0, none⟩) 1 1, .agg #[.int .u64 7, .int .i64 4], .slice (some ⟨b2, 0, none⟩) 1 1, undef, undef, undef, undef, undef, undef, undef, undef, undef, undef, undef, undef, undef, undef, undef, undef, undef, undef, undef, undef, undef, undef, undef, undef, undef, undef, undef, undef, undef, undef, undef, undef, undef, undef, undef, undef], defers := [] }) (by kernel_rfl) ?_)
  | ((with_reducible refine wpList_build rfl 39 [(2, .tmp 15)] rfl (thv b2) ?hf ?_); (case hf => exact blt_h b2); refine lay_act (A := { tmps := #[.bool false, .pointer (some ⟨B, 0, none⟩), undef, undef, undef, undef, undef, undef, undef, .agg c1v, .slice (some ⟨S, 0, none⟩) 1 1, .agg (dwv S), .agg #[.int .u64 7, .int .i64 4], .slice (some ⟨b1, 0, none⟩) 1 1, .agg #[.int .u64 7, .int .i64 4], .slice (some ⟨b2, 0, none⟩) 1 1, .agg (thv b2), undef, undef, undef, undef, undef, undef, undef, undef, undef, undef, undef, undef, undef, undef, undef, undef, undef, undef, undef, undef, undef, undef, undef, undef, undef, undef, undef, undef, undef, undef, undef, undef, undef, undef, undef], defers := [] }) (by kernel_rfl) ?_)
  | ((with_reducible refine wpList_build rfl 43 [(0, .const (.int .u64 9)), (1, .const (.int .i64 4)), (3, .const (.int .i64 1)), (2, .tmp 13), (8, .tmp 16)] rfl (ctv b1 b2) ?hf ?_); (case hf => exact blt_t b1 b2); refine lay_act (A := { tmps := #[.bool false, .pointer (some ⟨B, 0, none⟩), undef, undef, undef, undef, undef, undef, undef, .agg c1v, .slice (some ⟨S, 0, none⟩) 1 1, .agg (dwv S), .agg #[.int .u64 7, .int .i64 4], .slice (some ⟨b1, 0, none⟩) 1 1, .agg #[.int .u64 7, .int .i64 4], .slice (some ⟨b2, 0, none⟩) 1 1, .agg (thv b2), .agg (ctv b1 b2), undef, undef, undef, undef, undef, undef, undef, undef, undef, undef, undef, undef, undef, undef, undef, undef, undef, undef, undef, undef, undef, undef, undef, undef, undef, undef, undef, undef, undef, undef, undef, undef, undef, undef], defers := [] }) (by kernel_rfl) ?_)
  | ((with_reducible refine wpList_build rfl 32 [(0, .const (.int .u64 1)), (1, .const (.int .u64 2))] rfl #[.int .u64 1, .int .u64 2] ?hf ?_); (case hf => exact blt_r))
  | ((with_reducible refine wpList_alloc rfl 43 rfl zC zero40 ?_); have hx := oF; intro P W4 hN4 hP hk4; clear hx)
  | ((with_reducible refine wpList_alloc rfl 43 rfl zC zero40 ?_); intro T W6 hN6 hTa hk6; replace hS := hS.next hk6; replace hB := hB.next hk6; replace hb1 := hb1.next hk6; replace hb2 := hb2.next hk6; replace hk := hk.trans (hk6.mono hk.size); clear hk6; refine lay_act (A := { tmps := #[.bool false, .pointer (some ⟨B, 0, none⟩), .pointer (some ⟨T, 0, none⟩), undef, undef, undef, undef, undef, undef, .agg c1v, .slice (some ⟨S, 0, none⟩) 1 1, .agg (dwv S), .agg #[.int .u64 7, .int .i64 4], .slice (some ⟨b1, 0, none⟩) 1 1, .agg #[.int .u64 7, .int .i64 4], .slice (some ⟨b2, 0, none⟩) 1 1, .agg (thv b2), .agg (ctv b1 b2), undef, undef, undef, undef, undef, undef, undef, undef, undef, undef, undef, undef, undef, undef, undef, undef, undef, undef, undef, undef, undef, undef, undef, undef, undef, undef, undef, undef, undef, undef, undef, undef, undef, undef], defers := [] }) (by kernel_rfl) ?_)
  | ((with_reducible refine wpList_store_blk rfl _ _ _ rfl T rfl (ctv b1 b2) rfl zC hTa (size40C (hzt b1 b2)) (zC_size.trans (hzt b1 b2).symm) (hot b1 b2) ?_); intro W7 hT q7; replace hS := hS.other q7 (by have := hN1.out; have := hN2.out; have := hN4.out; have := hN5.out; have := hN6.out; have := hq3.out; omega); replace hB := hB.other q7 (by have := hN1.out; have := hN2.out; have := hN4.out; have := hN5.out; have := hN6.out; have := hq3.out; omega); replace hb1 := hb1.other q7 (by have := hN1.out; have := hN2.out; have := hN4.out; have := hN5.out; have := hN6.out; have := hq3.out; omega); replace hb2 := hb2.other q7 (by have := hN1.out; have := hN2.out; have := hN4.out; have := hN5.out; have := hN6.out; have := hq3.out; omega); replace hk := q7.below _ _ (by have := hN1.out; have := hN2.out; have := hN4.out; have := hN5.out; have := hN6.out; have := hq3.out; omega) hk; clear hN4 q7)
  | (with_reducible refine wpList_loadb (by kernel_rfl) 25 _ rfl B rfl (dwv S) hB _ Tryz.underlying25 (by kernel_rfl) (hz2 S) ?_)
  | (with_reducible refine wpList_loadb (by kernel_rfl) 43 _ rfl T rfl (ctv b1 b2) hT _ Tryz.underlying43 (by kernel_rfl) (size40C (hzt b1 b2)) ?_)
  | (go_at_call 8; (with_reducible refine (hfl hS hb1 hb2).mono ?_); rintro e w3 ⟨CF, rfl, oF, hb3⟩; clear hfl)
  | (go_at_call 14; (with_reducible refine (hf1 hS hb1 hb2).mono ?_); rintro e w3 ⟨CF, rfl, oF, hb3⟩; clear hf1)
  | (go_at_call 14; (with_reducible refine (hf0 hS hb1 hb2).mono ?_); rintro e w3 ⟨CF, rfl, oF, hb3⟩; clear hf0)
  | ((with_reducible refine wpList_store_blk rfl _ _ _ rfl P rfl CF rfl zC hP (size40C oF.size) (zC_size.trans oF.size.symm) oF.one ?_); intro V4 hP4 q4; obtain ⟨hb5, oG⟩ := laid_v hb3 oF hN4 hk4 q4; have zG := oG.size; clear oF hb3 hk4 q4 hN4 hP; replace hS := hS.next hb5; replace hB := hB.next hb5; replace hb1 := hb1.next hb5; replace hb2 := hb2.next hb5; replace hT := hT.next hb5; replace hk := hk.trans (hb5.mono hk.size); clear hb5; have k0 := oG.id)
  | (with_reducible refine wpList_load1 (by kernel_rfl) _ _ rfl P _ rfl _ _ hP4 _ k0 Tryz.isAgg22 ?_))
 go_ret
 exact ⟨rfl, hk⟩
end Go.Proofs.YtblklhgojdbfeaaGreat
