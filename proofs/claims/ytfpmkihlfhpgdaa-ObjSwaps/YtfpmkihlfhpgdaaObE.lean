/-
  PROVED HERE: the law's awake answers true; plain facts on sound objects; allocations and stores in a drawn region. No condition.
-/
import Derived.Test.YtfpmkihlfhpgdaaOb19
import Derived.Deep.DeepCutAuto
import Derived.Deep.OwnRows
namespace Go.Proofs.Ytfpmkihlfhpgdaa
section
open Go.RowKit Go.Shelf
set_option linter.unusedVariables false
attribute [local go_sem] Oper.semAt_some

section
variable {P : Program} {ops : Array Oper} {rest : List Oper} {op : Oper} {a : Act} {Q : Exit → Act → World → Prop} {w : World}
theorem wpList_buildw (hw : Region.wanted op (yielded ops a.tmps) = true) (t : TypeId) (parts : List (Nat × Operand)) (ho : op.op = .build t parts.toArray) (cells : Array Value) (hf : P.built t (parts.map fun p => (p.1, a.eval p.2)) = some cells)
    (h : wpList P ops Q rest (a.put op.dst (.agg cells)) w) : wpList P ops Q (op :: rest) a w := by
  have hf' : P.built t (parts.toArray.map fun (i, x) => (i, a.eval x)).toList = some cells := by simpa using hf
  exact wpList_wanted hw (wp_build t parts.toArray ho (by rw [hf']; rfl) (by rw [hf']; exact h))
end
def dev (L : Lb) : Ob := ⟨1, 6, L, 1, false, [], [], [], zTh, zGt, [], []⟩
def thr (L : Lb) : Ob := ⟨1, 4, L, 1, false, [], [], [], zTh, zGt, [], []⟩
def seg17 : Ob := ⟨2, 1, [], 3, false, [], List.replicate 17 0, [], zTh, zGt, [], []⟩
theorem dev_sound : soundB (dev []) = true := by decide +kernel
theorem thr_sound : soundB (thr [(7, 0)]) = true := by decide +kernel
theorem dev_not : soundB (dev [(7, 0)]) = false := by decide +kernel
theorem built_d : Try.prog.built 40 [(0, .int .u64 1), (1, .int .i64 6), (3, .int .i64 1)] = some (comC (.int .u64 1) (.int .i64 6) (.slice none 0 0) (.int .i64 1) (.bool false)) := by kernel_rfl
theorem built_t (ao : Option Addr) (n c : Nat) : Try.prog.built 40 [(0, .int .u64 1), (1, .int .i64 4), (3, .int .i64 1), (2, .slice ao n c)] = some (comC (.int .u64 1) (.int .i64 4) (.slice ao n c) (.int .i64 1) (.bool false)) := by kernel_rfl
theorem built_s (ao : Option Addr) (n c : Nat) : Try.prog.built 40 [(0, .int .u64 2), (1, .int .i64 1), (3, .int .i64 3), (6, .slice ao n c)] = some ((comC (.int .u64 2) (.int .i64 1) (.slice none 0 0) (.int .i64 3) (.bool false)).setIfInBounds 6 (.slice ao n c)) := by kernel_rfl
theorem com_set2 (a b c d e v : Value) : (comC a b c d e).setIfInBounds 2 v = comC a b v d e := by kernel_rfl
theorem small_seg : Small seg17 := ⟨by decide, by decide, by decide, by decide, by decide, by decide, by decide, by decide, by decide, by decide, by decide, by decide, by decide, by decide⟩
theorem pag_seg : pagO seg17 = 3 := by decide +kernel
theorem lab_new (w : World) : LabD (LtN (w.alloc (.cells #[.int .u64 7, .int .i64 0] 61))) (w.alloc (.cells #[.int .u64 7, .int .i64 0] 61)) (some ⟨w.heap.size, 0, none⟩) 1 1 [(7, 0)] := by
  have hb := Blk.new w #[.int .u64 7, .int .i64 0] 61
  refine ⟨rfl, Nat.le_refl _, ⟨by omega, fun e => by cases e⟩, fun _ => ⟨_, 0, rfl, hb.lt, fun i hi => ?_⟩⟩
  obtain rfl : i = 0 := by omega
  exact ⟨hb.cell 0, hb.cell 1⟩
theorem make17 (w : World) : (Instr.makeSlice 25 (.int .i64 17) (.int .i64 17)).run Try.prog w = .ok (.slice (some ⟨w.heap.size, 0, none⟩) 17 17) (w.alloc (.cells (Array.replicate 17 (.int .u64 0)) 22)) := by
  have h := run_make_row' (P := Try.prog) 25 22 (.int .u64 0) 8 Try.underlying25 infoW rfl .i64 .i64 17 (by omega) (by omega) w
  rw [show madeCells #[Value.int .u64 0] 17 = Array.replicate 17 (.int .u64 0) from by kernel_rfl] at h
  exact h
section
variable {ops : Array Oper} {rest : List Oper} {op : Oper} {a : Act} {Q : Exit → Act → World → Prop} {w : World}
theorem wpList_make17 (hw : Region.wanted op (yielded ops a.tmps) = true) (ho : op.op = .makeSlice 25 (.const (.int .i64 17)) (.const (.int .i64 17)))
    (h : ∀ B W, Blk W B (Array.replicate 17 (.int .u64 0)) 22 → Below w.heap.size w W → wpList Try.prog ops Q rest (a.put op.dst (.slice (some ⟨B, 0, none⟩) 17 17)) W) : wpList Try.prog ops Q (op :: rest) a w := by
  refine wpList_wanted hw ?_
  unfold Oper.wp execOp
  simp only [ho, Act.eval, Sem.run_bind, make17, Result.andThen_ok]
  exact h _ _ (Blk.new w _ _) ((Below.refl _ w).alloc (Nat.le_refl _) _)
end
theorem ct_blk {w : World} {b : Nat} (hb : Blk w b (Array.replicate 17 (.int .u64 0)) 22) : CtD (LtN w) w (some ⟨b, 0, none⟩) 17 17 (List.replicate 17 0) := by
  refine ⟨rfl, Nat.le_refl _, ⟨by omega, fun e => by cases e⟩, fun _ => ⟨_, 0, rfl, hb.lt, fun i hi => ?_⟩⟩
  rw [Nat.zero_add, hb.cell]
  rw [Array.getElem?_replicate, if_pos hi, List.getD_eq_getElem?_getD, List.getElem?_replicate, if_pos hi]
  rfl
theorem seg_d {w : World} {b : Nat} (hb : Blk w b (Array.replicate 17 (.int .u64 0)) 22) : ObD (LtN w) w ((comC (.int .u64 2) (.int .i64 1) (.slice none 0 0) (.int .i64 3) (.bool false)).setIfInBounds 6 (.slice (some ⟨b, 0, none⟩) 17 17)) seg17 :=
  (comC_d (LabD.nil _ _)).set6 ⟨_, _, _, rfl, ct_blk hb⟩ rfl
set_option maxRecDepth 100000 in
set_option maxHeartbeats 8000000 in
theorem awake_any (w : World) : Calls Try.prog 9 #[] w fun e w' => e = .returned (.bool true) ∧ Below w.heap.size w w' := by
  have hD0 : ∀ (D : Nat → Prop) (w : World), ObD D w (comC (.int .u64 1) (.int .i64 6) (.slice none 0 0) (.int .i64 1) (.bool false)) (dev []) := fun D w => comC_d (LabD.nil D w)
  have hdz := (hD0 (fun _ => True) w).size
  have hdo := (hD0 (fun _ => True) w).one
  go_enter Try.func9, Try.ntmps9
  go_upto_region 2 with (fail)
  have hL := lab_new w
  have k1 := (Below.refl w.heap.size w).alloc (Nat.le_refl _) (.cells #[.int .u64 7, .int .i64 0] 61)
  generalize w.alloc (.cells #[.int .u64 7, .int .i64 0] 61) = W1 at hL k1 ⊢
  obtain ⟨b, hb⟩ : ∃ b, w.heap.size = b := ⟨_, rfl⟩
  have hbH : Hid (w.heap.size = b) := hb
  rw [hb] at hL
  simp only [hb]
  clear hb
  have hT := comC_d (i := 1) (k := 4) (q := 1) (f := false) hL
  have hE := comC_d (i := 1) (k := 6) (q := 1) (f := false) hL
  go_wp2_with (first
    | go_skip
    | ((with_reducible refine wpList_build rfl 40 [(0, .const (.int .u64 1)), (1, .const (.int .i64 6)), (3, .const (.int .i64 1))] rfl (comC (.int .u64 1) (.int .i64 6) (.slice none 0 0) (.int .i64 1) (.bool false)) ?hf ?_); (case hf => kernel_rfl))
    | ((with_reducible refine wpList_build rfl 40 [(0, .const (.int .u64 1)), (1, .const (.int .i64 4)), (3, .const (.int .i64 1)), (2, .tmp 8)] rfl (comC (.int .u64 1) (.int .i64 4) (.slice (some ⟨b, 0, none⟩) 1 1) (.int .i64 1) (.bool false)) ?hf ?_); (case hf => kernel_rfl))
    | ((with_reducible refine wpList_alloc rfl _ rfl zC zero40 ?_); intro T W4 hB4 hT4 hk4; have hne : D ≠ T := (by have := hB4.out.1; have := hD3.lt; omega); have hD4 := hD3.next hk4; have k4 := k3.trans (hk4.mono k3.size); have kk4 := kk3.trans (hk4.mono kk3.size))
    | ((with_reducible refine wpList_alloc rfl _ rfl zC zero40 ?_); intro D W2 hB2 hD2 hk2; have k2 := k1.trans (hk2.mono k1.size); have kk2 := hk2)
    | ((with_reducible refine wpList_store_blk rfl _ _ _ rfl D rfl (comC (.int .u64 1) (.int .i64 6) (.slice none 0 0) (.int .i64 1) (.bool false)) rfl zC hD2 (size40C hdz) (zC_size.trans hdz.symm) hdo ?_); intro W3 hD3 o3; have k3 := o3.below w.heap.size w (by have := hB2.out.1; have := k1.size; omega) k2; have kk3 := o3.below W1.heap.size W1 (by have := hB2.out.1; omega) kk2)
    | ((with_reducible refine wpList_store_blk rfl _ _ _ rfl T rfl (comC (.int .u64 1) (.int .i64 4) (.slice (some ⟨b, 0, none⟩) 1 1) (.int .i64 1) (.bool false)) rfl zC hT4 (size40C hT.size) (zC_size.trans hT.size.symm) hT.one ?_); intro W5 hT5 o5; have k5 := o5.below w.heap.size w (by have := hB4.out.1; have := k3.size; omega) k4; have kk5 := o5.below W1.heap.size W1 (by have := hB4.out.1; have := kk3.size; omega) kk4; have hD5 := hD4.other o5 hne)
    | (with_reducible refine wpList_loadb (by kernel_rfl) 40 _ rfl D rfl _ hD5 _ Try.underlying40 (by kernel_rfl) (size40C hdz) ?_)
    | (with_reducible refine wpList_loadb (by kernel_rfl) 40 _ rfl T rfl _ hT6 _ Try.underlying40 (by kernel_rfl) (size40C hT.size) ?_)
    | (with_reducible refine wpList_loadb (by kernel_rfl) 40 _ rfl D rfl _ hD8 _ Try.underlying40 (by kernel_rfl) (size40C hE.size) ?_)
    | (go_at_call 10; (with_reducible refine ((sound_any (hD0 (LtN W5) W5)).yes dev_sound).mono ?_); rintro e W6 ⟨rfl, hb6⟩; have hT6 := hT5.next hb6; have hD6 := hD5.next hb6; have k6 := k5.trans (hb6.mono k5.size); have kk6 := kk5.trans (hb6.mono kk5.size))
    | (go_at_call 10; (with_reducible refine ((sound_any (x := thr [(7, 0)]) (hT.next kk6)).yes thr_sound).mono ?_); rintro e W7 ⟨rfl, hb7⟩; have hD7 := hD6.next hb7; have k7 := k6.trans (hb7.mono k6.size); have kk7 := kk6.trans (hb7.mono kk6.size))
    | ((with_reducible refine wpList_store_cell rfl _ _ _ rfl D 2 rfl (.slice (some ⟨b, 0, none⟩) 1 1) rfl rfl _ _ hD7 size24 (by rw [hdz]; omega) rfl ?_); intro W8 hD8' o8; rw [com_set2] at hD8'; have hD8 := hD8'; have k8 := o8.below w.heap.size w (by have := hB2.out.1; have := k1.size; omega) k7; have kk8 := o8.below W1.heap.size W1 (by have := hB2.out.1; omega) kk7)
    | (go_at_call 10; (with_reducible refine ((sound_any (x := dev [(7, 0)]) (hE.next kk8)).no (by rw [dev_not]; exact Bool.false_ne_true)).mono ?_); rintro e W9 ⟨rfl, hb9⟩; have k9 := k8.trans (hb9.mono k8.size))
    | ((with_reducible refine wpList_make17 (by kernel_rfl) rfl ?_); intro S W10 hS hb10; have k10 := k9.trans (hb10.mono k9.size); have hsg := seg_d hS)
    | ((with_reducible refine wpList_buildw (by kernel_rfl) 40 [(0, .const (.int .u64 2)), (1, .const (.int .i64 1)), (3, .const (.int .i64 3)), (6, .tmp 25)] rfl ((comC (.int .u64 2) (.int .i64 1) (.slice none 0 0) (.int .i64 3) (.bool false)).setIfInBounds 6 (.slice (some ⟨S, 0, none⟩) 17 17)) ?hf ?_); (case hf => kernel_rfl))
    | (go_at_call 18; (with_reducible refine (pages_any hsg small_seg).mono ?_); rintro e W11 ⟨rfl, hb11⟩; rw [pag_seg]; have k11 := k10.trans (hb11.mono k10.size)))
  go_ret
  exact ⟨rfl, k11⟩
end
section

theorem alo_th {x : Ob} (h : aloO x = x) (hk : ¬ x.kind = 4) : x.th = zTh := by
  have e : (aloO x).th = zTh := by
    unfold aloO
    by_cases h1 : x.kind = 1
    · rw [if_pos h1]
    rw [if_neg h1]
    by_cases h2 : x.kind = 2
    · rw [if_pos h2]
    rw [if_neg h2]
    by_cases h3 : x.kind = 3
    · rw [if_pos h3]
    rw [if_neg h3, if_neg hk]
    by_cases h5 : x.kind = 5
    · rw [if_pos h5]
    rw [if_neg h5]
    by_cases h6 : x.kind = 6
    · rw [if_pos h6]
    rw [if_neg h6]; rfl
  rw [h] at e; exact e
theorem alo_gt {x : Ob} (h : aloO x = x) (hk : ¬ x.kind = 5) : x.gt = zGt := by
  have e : (aloO x).gt = zGt := by
    unfold aloO
    by_cases h1 : x.kind = 1
    · rw [if_pos h1]
    rw [if_neg h1]
    by_cases h2 : x.kind = 2
    · rw [if_pos h2]
    rw [if_neg h2]
    by_cases h3 : x.kind = 3
    · rw [if_pos h3]
    rw [if_neg h3]
    by_cases h4 : x.kind = 4
    · rw [if_pos h4]
    rw [if_neg h4, if_neg hk]
    by_cases h6 : x.kind = 6
    · rw [if_pos h6]
    rw [if_neg h6]; rfl
  rw [h] at e; exact e
theorem alo_data {x : Ob} (h : aloO x = x) (hk : ¬ x.kind = 1) : x.data = [] := by
  have e : (aloO x).data = [] := by
    unfold aloO
    rw [if_neg hk]
    by_cases h2 : x.kind = 2
    · rw [if_pos h2]
    rw [if_neg h2]
    by_cases h3 : x.kind = 3
    · rw [if_pos h3]
    rw [if_neg h3]
    by_cases h4 : x.kind = 4
    · rw [if_pos h4]
    rw [if_neg h4]
    by_cases h5 : x.kind = 5
    · rw [if_pos h5]
    rw [if_neg h5]
    by_cases h6 : x.kind = 6
    · rw [if_pos h6]
    rw [if_neg h6]; rfl
  rw [h] at e; exact e
theorem small_of {x : Ob} (hb : briefP x) (hs : soundB x = true) : Small x := by
  obtain ⟨hc, ho, hw⟩ := sound_iff.1 hs
  have ha := (alone_iff x).1 hw
  obtain ⟨b1, b2, b3, b4, b5, b6, b7⟩ := hb
  have hth : x.th.clear.length < 4294967296 ∧ x.th.l0.length < 4294967296 ∧ x.th.l1.length < 4294967296 ∧ x.th.l2.length < 4294967296 ∧ x.th.l3.length < 4294967296 := by
    by_cases h4 : x.kind = 4
    · obtain ⟨_, q1, q2⟩ := (own4 h4).1 ho
      have k1 := (kept_iff.1 (boun_iff.1 q1).2.1).1
      have q3 := (thr_iff.1 q2).1
      have k2 := (kept_iff.1 (q3 0 (by omega))).1
      have k3 := (kept_iff.1 (q3 1 (by omega))).1
      have k4 := (kept_iff.1 (q3 2 (by omega))).1
      have k5 := (kept_iff.1 (q3 3 (by omega))).1
      simp only [labs] at k2 k3 k4 k5
      omega
    · rw [alo_th ha h4]; decide
  have hgt : x.gt.grant.length < 4294967296 ∧ x.gt.clear.length < 4294967296 := by
    by_cases h5 : x.kind = 5
    · have q := boun_iff.1 ((own5 h5).1 ho)
      have k1 := (kept_iff.1 q.1).1
      have k2 := (kept_iff.1 q.2.1).1
      omega
    · rw [alo_gt ha h5]; decide
  exact ⟨by omega, by omega, by omega, by omega, hth.1, by omega, hth.2.1, hth.2.2.1, hth.2.2.2.1, hth.2.2.2.2, hgt.1, hgt.2, by omega, by omega⟩
theorem sho_eq {x : Ob} (hs : soundB x = true) : shoC x = shoL x := by
  have hk := (com_iff.1 (sound_iff.1 hs).1).2.2.2.1
  unfold shoC shoL
  rw [rraise_eq (fit_iff (kept_iff.1 hk).2.1)]
theorem pag_eq {x : Ob} (hs : soundB x = true) : pagO x = pagN x := by
  unfold pagO
  by_cases h1 : x.kind = 1
  · rw [if_pos h1]
  · rw [if_neg h1]; unfold pagN; rw [alo_data ((alone_iff x).1 (sound_iff.1 hs).2.2) h1]; decide
theorem pag_quota {x : Ob} (hs : soundB x = true) : pagN x ≤ x.quota := by
  obtain ⟨hc, ho, hw⟩ := sound_iff.1 hs
  have hq := (com_iff.1 hc).2.1
  unfold pagN
  by_cases h1 : x.kind = 1
  · have := (own1 h1).1 ho; omega
  · rw [alo_data ((alone_iff x).1 hw) h1]; simp; omega
theorem sho_star {x : Ob} (hs : soundB x = true) : ∀ i, i < (shoC x).length → ¬ ((shoC x).getD i (0, 0)).2 = 0 := by
  intro i hi
  have hc := com_iff.1 (sound_iff.1 hs).1
  have hmem : (shoC x).getD i (0, 0) ∈ shoC x := by rw [List.getD_eq_getElem?_getD, List.getElem?_eq_getElem hi]; exact List.getElem_mem hi
  generalize (shoC x).getD i (0, 0) = p at hmem
  rw [sho_eq hs] at hmem
  unfold shoL at hmem
  by_cases h4 : x.kind = 4
  · rw [if_pos h4] at hmem
    unfold rmapL at hmem
    obtain ⟨q, hq, rfl⟩ := List.mem_map.1 hmem
    have hf := (fit_iff (kept_iff.1 hc.2.2.2.1).2.1).2 q hq
    show ¬ Lv.raise q.2 = 0
    unfold Lv.raise
    split
    · omega
    · rename_i h; exact h
  · rw [if_neg h4] at hmem
    intro e
    have ho := hc.2.2.2.2.resolve_left h4
    have : p.1 ∈ owned x.label := by unfold owned; exact List.mem_map.2 ⟨p, List.mem_filter.2 ⟨hmem, by simp [e]⟩, rfl⟩
    rw [ho] at this; cases this
end
section
open Go.RowKit Go.Shelf
set_option linter.unusedVariables false
attribute [local go_sem] Oper.semAt_some

section
variable {ops : Array Oper} {Q : Exit → Act → World → Prop} {S : World → Prop} {w : World} {m : Nat} {a : Act} {l : Array Bool}
theorem share (n : Nat) (l' : Array Bool) (F : Act → World → Prop) (hF : ∀ A W, F A W → wpAnyH Try.prog .any ops Q S n l' A W) (h : (∀ A W, F A W → wpAnyH Try.prog .any ops Q S n l' A W) → wpAnyH Try.prog .any ops Q S m l a w) : wpAnyH Try.prog .any ops Q S m l a w := h hF
theorem wpOp_allocL {i : Nat} {ty : TypeId} {z : Array Value} {d : Option Tmp} {K : Act → World → Prop} (hi : (ops[i]?).bind (fun o => allocOf ops o a) = some (ty, d)) (hz : ∀ w, (zeroValue ty).run Try.prog w = .ok (.agg z) w)
    (h : ∀ B W, Hid (w.heap.size = B ∧ W.heap.size = B + 1) → Blk W B z ty → Below w.heap.size w W → K (a.put d (.pointer (some ⟨B, 0, none⟩))) W) : wpOp Try.prog ops Q i K a w := by
  cases ho : ops[i]? with
  | none => rw [ho] at hi; cases hi
  | some o =>
    rw [ho] at hi
    have hi' : allocOf ops o a = _ := hi
    unfold allocOf at hi'
    split at hi'
    · rename_i hw
      split at hi'
      · rename_i t hop
        cases hi'
        unfold wpOp
        simp only [ho, hw, if_true]
        left
        unfold Oper.wp execOp
        simp only [hop, Instr.alloc, hz, newVar, newRow, newObj, Sem.run_bind, Value.cells, Result.andThen_ok]
        exact h _ _ ⟨rfl, by simp⟩ (Blk.new w z ty) ((Below.refl _ w).alloc (Nat.le_refl _) _)
      · cases hi'
    · cases hi'
theorem wpOp_storeL {i : Nat} {ty : TypeId} {B off : Nat} {v : Value} {d : Option Tmp} {W : World} {K : Act → World → Prop} (hi : (ops[i]?).bind (fun o => storeOf ops o a) = some (ty, B, off, v, d)) (hr : (storeVar ty ⟨B, off, none⟩ v).run Try.prog w = .ok () W)
    (h : K (a.put d undef) W) : wpOp Try.prog ops Q i K a w := by
  cases ho : ops[i]? with
  | none => rw [ho] at hi; cases hi
  | some o =>
    rw [ho] at hi
    have hi' : storeOf ops o a = _ := hi
    unfold storeOf at hi'
    split at hi'
    · rename_i hw
      split at hi'
      · rename_i t x y hop
        split at hi'
        · rename_i b o' hx
          cases hi'
          unfold wpOp
          simp only [ho, hw, if_true]
          left
          unfold Oper.wp execOp
          simp only [hop, hx, Instr.storeAt, Instr.sureAddr, Sem.run_bind, Sem.run_pure, Result.andThen_ok, hr]
          exact h
        · cases hi'
      · cases hi'
    · cases hi'
theorem wpAnyH_one {i : Nat} (hm : ∃ n, m = n + 1) (hr : Region.ready .any ops l = [i]) (h : ∀ n, m = n + 1 → wpOp Try.prog ops Q i (fun a' w' => S w' ∧ wpAnyH Try.prog .any ops Q S n (l.setIfInBounds i true) a' w') a w) : wpAnyH Try.prog .any ops Q S m l a w := by
  obtain ⟨n, rfl⟩ := hm
  refine wpAnyH_all hr (by simp) ?_
  intro j hj
  obtain rfl : j = i := by simpa using hj
  exact h n rfl
theorem wpAnyH_two {i j : Nat} {n : Nat} (hm : m = n + 1) (hr : Region.ready .any ops l = [i, j]) (h : wpOp Try.prog ops Q i (fun a' w' => S w' ∧ wpAnyH Try.prog .any ops Q S n (l.setIfInBounds i true) a' w') a w) (h' : wpOp Try.prog ops Q j (fun a' w' => S w' ∧ wpAnyH Try.prog .any ops Q S n (l.setIfInBounds j true) a' w') a w) : wpAnyH Try.prog .any ops Q S m l a w := by
  subst hm
  refine wpAnyH_all hr (by simp) ?_
  intro k hk
  rw [List.mem_cons, List.mem_singleton] at hk
  rcases hk with rfl | rfl
  · exact h
  · exact h'
theorem wpAnyH_single {i : Nat} {n : Nat} (hm : m = n + 1) (hr : Region.ready .any ops l = [i]) (h : wpOp Try.prog ops Q i (fun a' w' => S w' ∧ wpAnyH Try.prog .any ops Q S n (l.setIfInBounds i true) a' w') a w) : wpAnyH Try.prog .any ops Q S m l a w := by
  subst hm
  refine wpAnyH_all hr (by simp) ?_
  intro k hk
  obtain rfl : k = i := by simpa using hk
  exact h
end
end
end Go.Proofs.Ytfpmkihlfhpgdaa
