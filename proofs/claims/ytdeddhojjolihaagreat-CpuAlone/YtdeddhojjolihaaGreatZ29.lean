/-
 PROVED HERE: what reach.Look, See, Change and Dir return when they are called (contracts over this translation). What is asked stands at each.
-/
import Derived.Test.YtdeddhojjolihaaGreatZ28
namespace Go.Proofs.YtdeddhojjolihaaGreat
set_option maxRecDepth 100000
set_option maxHeartbeats 8000000
set_option linter.unusedVariables false
open Go.Proofs.Tryz
section
open Go.RowKit Go.Shelf
attribute [local go_sem] Oper.semAt_some
section
variable {P : Program} {ops : Array Oper} {rest : List Oper} {op : Oper} {a : Act} {Q : Exit → Act → World → Prop} {w : World}
theorem wGz (hgd : op.guard = none) (ty : TypeId) (x : Operand) (ho : op.op = .box ty x) (v : Value) (hx : a.eval x = v) (hv : v.cells = #[v])
  (h : ∀ B W, Hid (w.heap.size = B ∧ W.heap.size = B + 1) → Blk W B #[v] ty → Below w.heap.size w W → wpList P ops Q rest (a.put op.dst (.pointer (some ⟨B, 0, none⟩))) W) : wpList P ops Q (op :: rest) a w :=
 wpList_plain hgd fun K hK => by
  unfold Oper.wp execOp
  simp only [ho, hx, Instr.box, newVar, newRow, newObj, Sem.run_bind, hv]
  exact hK _ _ (h _ _ ⟨rfl, by simp⟩ (Blk.new w #[v] ty) ((Below.refl _ w).alloc (Nat.le_refl _) _))
end
theorem zeroF (w : World) : (zeroValue 188).run prog w = .ok (.agg zF) w := by kernel_rfl
variable {G : Array Value} {c i kd : Int} {X : List Ob} {w : World} {F : Array Value} {B Q K : Nat}
theorem see1_ok {L : Lb} (h : Fw w F L X) (hB : Blk w B F 188) (hQ : Blk w Q G 39) (hK : Blk w K #[.int .i64 kd] 3) (g0 : G[0]? = some (.int .u64 c)) (g1 : G[1]? = some (.int .u64 i)) (gz : G.size = 2) (hE : allE X L c i kd (seeB L) = 0) : Calls prog 151 #[.pointer (some ⟨B, 0, none⟩), .pointer (some ⟨Q, 0, none⟩), .pointer (some ⟨K, 0, none⟩)] w (Tel (allE X L c i kd (seeB L)) (fO X i) w) := by
 have hmf : ∀ (fn : Fn) (first cap : Array Value) (w : World), (Instr.makeFunc fn first cap).run prog w = .ok (.func fn first cap) w := fun _ _ _ _ => rfl
 have hz : F.size = 55 := by obtain ⟨⟨_, _, _, _, _, _, _, _, _, hF, _⟩, _, _⟩ := h; exact hF.size
 have hzr : (prog.info? 39).map (·.size) = some G.size := by rw [gz]; kernel_rfl
 have hin := fun (W : World) (hk : Below w.heap.size w W) => as_v (kd := kd) (h.next hk) g0 g1 gz
 have HE : Hid (allE X L c i kd (seeB L) = 0) := hE
 clear hE
 generalize allE X L c i kd (seeB L) = ek at hin HE ⊢
 go_enter func151, ntmps151
 go_wp2_with (first
  | ((with_reducible refine qcz rfl _ rfl zC qsz ?_); intro R W2 hN2 hR hk; replace hB := hB.next hk; replace hQ := hQ.next hk; replace hK := hK.next hk; skip)
  | (with_reducible refine qez (by kernel_rfl) 188 _ rfl B rfl F hB _ underlying188 (by kernel_rfl) (xxz hz) ?_)
  | (with_reducible refine qez (by kernel_rfl) 39 _ rfl Q rfl G hQ _ underlying39 (by kernel_rfl) hzr ?_)
  | (with_reducible refine qaz (by kernel_rfl) _ _ rfl K _ rfl _ _ hK (.int .i64 kd) rfl isAgg3 ?_)
  | (go_at_call 152; (with_reducible refine (hin _ hk).mono ?_); rintro e w3 hT; obtain ⟨CF, rfl, oF, hb3⟩ := hT.got HE.out; clear hT; replace hR := hR.next hb3; have hk3 := btz hk hb3; have zF := oF.size)
  | ((with_reducible refine qbz rfl _ _ _ rfl R rfl CF rfl zC hR (qhz zF) (qmz.trans zF.symm) oF.one ?_); intro V5 hR5 q5))
 obtain ⟨o9, b9⟩ := jUz hk3 hk.size oF ⟨by have := hN2.out; omega, by have := hN2.out; omega⟩ q5
 exact bodyPost_ret (v := .agg CF) (kSz results151 rfl hR5 zF) rfl (Tel.told HE.out o9 b9)
theorem see1_no {L : Lb} (h : Fw w F L X) (hB : Blk w B F 188) (hQ : Blk w Q G 39) (hK : Blk w K #[.int .i64 kd] 3) (g0 : G[0]? = some (.int .u64 c)) (g1 : G[1]? = some (.int .u64 i)) (gz : G.size = 2) (hE : allE X L c i kd (seeB L) ≠ 0) : Calls prog 151 #[.pointer (some ⟨B, 0, none⟩), .pointer (some ⟨Q, 0, none⟩), .pointer (some ⟨K, 0, none⟩)] w (Tel (allE X L c i kd (seeB L)) (fO X i) w) := by
 have hmf : ∀ (fn : Fn) (first cap : Array Value) (w : World), (Instr.makeFunc fn first cap).run prog w = .ok (.func fn first cap) w := fun _ _ _ _ => rfl
 have hz : F.size = 55 := by obtain ⟨⟨_, _, _, _, _, _, _, _, _, hF, _⟩, _, _⟩ := h; exact hF.size
 have hzr : (prog.info? 39).map (·.size) = some G.size := by rw [gz]; kernel_rfl
 have hin := fun (W : World) (hk : Below w.heap.size w W) => as_v (kd := kd) (h.next hk) g0 g1 gz
 have HE : Hid (allE X L c i kd (seeB L) ≠ 0) := hE
 clear hE
 generalize allE X L c i kd (seeB L) = ek at hin HE ⊢
 go_enter func151, ntmps151
 go_wp2_with (first
  | ((with_reducible refine qcz rfl _ rfl zC qsz ?_); intro R W2 hN2 hR hk; replace hB := hB.next hk; replace hQ := hQ.next hk; replace hK := hK.next hk; skip)
  | (with_reducible refine qez (by kernel_rfl) 188 _ rfl B rfl F hB _ underlying188 (by kernel_rfl) (xxz hz) ?_)
  | (with_reducible refine qez (by kernel_rfl) 39 _ rfl Q rfl G hQ _ underlying39 (by kernel_rfl) hzr ?_)
  | (with_reducible refine qaz (by kernel_rfl) _ _ rfl K _ rfl _ _ hK (.int .i64 kd) rfl isAgg3 ?_)
  | (go_at_call 152; (with_reducible refine (hin _ hk).mono ?_); rintro e w3 hT; obtain ⟨rfl, hb3⟩ := hT.lost HE.out))
 exact ⟨rfl, Tel.threw rfl HE.out (btz hk hb3)⟩
theorem see1_v {L : Lb} (h : Fw w F L X) (hB : Blk w B F 188) (hQ : Blk w Q G 39) (hK : Blk w K #[.int .i64 kd] 3) (g0 : G[0]? = some (.int .u64 c)) (g1 : G[1]? = some (.int .u64 i)) (gz : G.size = 2) : Calls prog 151 #[.pointer (some ⟨B, 0, none⟩), .pointer (some ⟨Q, 0, none⟩), .pointer (some ⟨K, 0, none⟩)] w (Tel (allE X L c i kd (seeB L)) (fO X i) w) := by
 by_cases hE : allE X L c i kd (seeB L) = 0
 ·exact see1_ok h hB hQ hK g0 g1 gz hE
 ·exact see1_no h hB hQ hK g0 g1 gz hE
theorem vrz : ∀ args w, (callFunc 151 args).run prog w = .ok (.enter 151 args) w := enters_of func151 (by kernel_rfl) rfl
theorem w3z {t ke ro : Int} {ao : Option Addr} {n cap : Nat} {C : Array Value} {x : Ob} (h : Obs w ao n cap X) (hs : Srt X) (hn : n ≤ 4096) (hsm : wfz X) (hC : ObD (LtN w) w C x) (hl : x.label.length < 1048576) (g0 : G[0]? = some (.int .u64 c)) (g1 : G[1]? = some (.int .u64 i)) (gz : G.size = 2) : Calls prog 140 #[.agg #[.int .i64 t, .int .u64 ke, .int .u64 ro, .slice ao n cap], .agg C, .agg G, .int .i64 kd] w fun e w' => ∃ C', e = .returned (.tuple #[.agg C', .int .i64 (allE X x.label c i kd (seeB x.label))]) ∧ ObD (New w w') w' C' (resO (allE X x.label c i kd (seeB x.label)) (fO X i)) ∧ Below w.heap.size w w' := by
 have hmf : ∀ (fn : Fn) (first cap : Array Value) (w : World), (Instr.makeFunc fn first cap).run prog w = .ok (.func fn first cap) w := fun _ _ _ _ => rfl
 obtain ⟨F, hbt, f1, f2, f3⟩ := built_f (C := C) (G := #[.int .i64 t, .int .u64 ke, .int .u64 ro, .slice ao n cap]) hC.size rfl
 obtain ⟨a2, n2, c2, e2, l2⟩ := hC.label
 have hF := fd_of rfl f1 f2 f3 e2 hC.one
 have hFw := fun (W : World) (hk : Below w.heap.size w W) => (⟨⟨t, ke, ro, ao, n, cap, a2, n2, c2, hF, quz h hk, LabD.lab' l2 hk, by have := l2.1; omega, hn⟩, hs, hsm⟩ : Fw W F x.label X)
 have ho := hF.one
 have hz := hC.size
 have hzg : (prog.info? 25).map (·.size) = some (#[.int .i64 t, .int .u64 ke, .int .u64 ro, .slice ao n cap] : Array Value).size := by kernel_rfl
 obtain ⟨D, hD⟩ : ∃ D : Array Value, D = #[.int .i64 t, .int .u64 ke, .int .u64 ro, .slice ao n cap] := ⟨_, rfl⟩
 rw [← hD] at hbt hzg
 rw [← hD]
 have hzf : zF.size = F.size := wwz.trans f1.symm
 clear hD f2 f3 hF h hs hsm l2 e2
 have hzr : (prog.info? 39).map (·.size) = some G.size := by rw [gz]; kernel_rfl
 have hca := fun (W : World) (B Q K : Nat) (hB : Blk W B F 188) (hQ : Blk W Q G 39) (hK : Blk W K #[.int .i64 kd] 3) (hk : Below w.heap.size w W) => caught_v 151 #[.pointer (some ⟨B, 0, none⟩), .pointer (some ⟨Q, 0, none⟩), .pointer (some ⟨K, 0, none⟩)] vrz (w := W) (fun V hb => see1_v (hFw V (btz hk hb)) (hB.next hb) (hQ.next hb) (hK.next hb) g0 g1 gz)
 have hcK : (.int .i64 kd : Value).cells = #[.int .i64 kd] := rfl
 generalize allE X x.label c i kd (seeB x.label) = ek at hca ⊢
 go_enter func140, ntmps140
 go_wp2_with (first
  | (with_reducible refine qdz rfl 25 _ rfl D rfl ?_; intro B W1 hN1 hB hk)
  | (with_reducible refine qdz rfl 50 _ rfl C rfl ?_; intro T W3 hN3 hT hk3; replace hB := hB.next hk3; replace hk := btz hk hk3; clear hk3)
  | (with_reducible refine qdz rfl 39 _ rfl G rfl ?_; intro Q VQ hNQ hQ hkQ; replace hB := hB.next hkQ; replace hT := hT.next hkQ; replace hk := btz hk hkQ; clear hkQ)
  | (with_reducible refine wGz rfl 3 _ rfl (.int .i64 kd) rfl hcK ?_; intro K VK hNK hK hkK; replace hB := hB.next hkK; replace hT := hT.next hkK; replace hQ := hQ.next hkK; replace hk := btz hk hkK; clear hkK)
  | ((with_reducible refine qcz rfl 50 rfl zC qsz ?_); intro R W2 hN2 hR hk2; replace hB := hB.next hk2; replace hT := hT.next hk2; replace hQ := hQ.next hk2; replace hK := hK.next hk2; replace hk := btz hk hk2; clear hk2)
  | (with_reducible refine qez (by kernel_rfl) 50 _ rfl T rfl C hT _ underlying50 (by kernel_rfl) (qhz hz) ?_)
  | (with_reducible refine qez (by kernel_rfl) 25 _ rfl B rfl D hB _ underlying25 (by kernel_rfl) hzg ?_)
  | ((with_reducible refine qvz rfl 188 [(0, _), (1, _)] rfl F ?hf ?_); (case hf => exact hbt))
  | ((with_reducible refine qcz rfl 188 rfl zF zeroF ?_); intro P W6 hN6 hP hk6; have hw6 := hk6; clear hw6; replace hB := hB.next hk6; replace hT := hT.next hk6; replace hQ := hQ.next hk6; replace hK := hK.next hk6; replace hR := hR.next hk6; replace hk := btz hk hk6; clear hk6)
  | ((with_reducible refine qbz rfl _ _ _ rfl P rfl F rfl zF hP (xxz f1) hzf ho ?_); intro V4 hP4 q4; have l0 := hN1.out; have l1 := hN3.out; have lQ := hNQ.out; have lK := hNK.out; have l2 := hN2.out; have l6 := hN6.out; replace hQ := hQ.other q4 (by omega); replace hK := hK.other q4 (by omega); replace hR := hR.other q4 (by omega); replace hk := q4.below _ _ (by omega) hk)
  | (go_at_call 150; (with_reducible refine (hca _ _ _ _ hP4 hQ hK hk).mono ?_); rintro e w5 ⟨CF, rfl, oF, hb5⟩; have zF := oF.size; replace hR := hR.next hb5; have hk5 := btz hk hb5)
  | ((with_reducible refine qbz rfl _ _ _ rfl R rfl CF rfl zC hR (qhz zF) (qmz.trans zF.symm) oF.one ?_); intro V5 hR5 q5))
 have e4 := q4.size
 obtain ⟨o9, b9⟩ := jUz hk5 hk.size oF ⟨by omega, by omega⟩ q5
 exact bodyPost_ret (v := .tuple #[.agg CF, .int .i64 ek]) (kwz results140 rfl rfl hR5 zF) rfl ⟨CF, rfl, o9, b9⟩
end
end Go.Proofs.YtdeddhojjolihaaGreat
