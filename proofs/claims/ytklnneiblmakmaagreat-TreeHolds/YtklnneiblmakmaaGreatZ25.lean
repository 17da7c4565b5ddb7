/-
 PROVED HERE: the operations on whole objects and worlds as a walk inside an iterator meets them; what a view's iterator ove. What is asked stands at each.
-/
import Derived.RangeFuncNested
import Derived.Test.YtklnneiblmakmaaGreatZ24
namespace Go.Proofs.YtklnneiblmakmaaGreat
set_option maxRecDepth 100000
set_option maxHeartbeats 8000000
set_option linter.unusedVariables false
open Go.Proofs.Tryz
section
open Go.RowKit Go.Shelf
attribute [local go_sem] Oper.semAt_some
section
variable {F : Fence} (hF : ∀ f, F.fn f) {N : Nat} {ops : Array Oper} {rest : List Oper} {op : Oper} {a : Act} {Q : Exit → Act → World → Prop} {w w' : World}
include hF
theorem klz {v : Value} (hd : ∀ c, op.op ≠ .defer c) (hw : Region.wanted op (yielded ops a.tmps) = true) (hr : (execOp a.eval op).run prog w = .ok (.value v) w') (h : wpListIn F N prog ops Q rest (a.put op.dst v) w') : wpListIn F N prog ops Q (op :: rest) a w := by
 simp only [wpListIn, hw, if_true]
 refine ⟨fun f _ => hF f, ?_⟩
 rw [Oper.semAt_plain F _ _ hd, hr, Oper.uponIn_value]
 exact h
theorem jgz (hd : ∀ c, op.op ≠ .defer c) (hw : Region.wanted op (yielded ops a.tmps) = true) (hr : (execOp a.eval op).run prog w = .ok .skip w') (h : wpListIn F N prog ops Q rest (a.put op.dst undef) w') : wpListIn F N prog ops Q (op :: rest) a w := by
 simp only [wpListIn, hw, if_true]
 refine ⟨fun f _ => hF f, ?_⟩
 rw [Oper.semAt_plain F _ _ hd, hr, Oper.uponIn_skip]
 exact h
theorem j1z (hw : Region.wanted op (yielded ops a.tmps) = true) (ty : TypeId) (x : Operand) (ho : op.op = .load ty x) (b o : Nat) (hx : a.eval x = .pointer (some ⟨b, o, none⟩)) (C : Array Value) (hr : w.rangeAt b o C.toList) (d : TypeDesc)
  (hu : prog.underlying ty = some d) (hd : d.isRow = true) (hi : (prog.info? ty).map (·.size) = some C.size) (h : wpListIn F N prog ops Q rest (a.put op.dst (.agg C)) w) : wpListIn F N prog ops Q (op :: rest) a w := by
 refine klz hF (by rw [ho]; intro c hc; cases hc) hw ?_ h
 have := run_loadVar_mid (P := prog) w b o ty C.toList d hr hu hd (by simpa using hi)
 rw [Array.toArray_toList] at this
 unfold execOp
 simp [ho, hx, Instr.loadAt, Instr.sureAddr, this]
theorem qLz (hw : Region.wanted op (yielded ops a.tmps) = true) (ty : TypeId) (x : Operand) (ho : op.op = .load ty x) (B : Nat) (hx : a.eval x = .pointer (some ⟨B, 0, none⟩)) (C : Array Value) (t : TypeId) (hB : Blk w B C t) (d : TypeDesc)
  (hu : prog.underlying ty = some d) (hd : d.isRow = true) (hi : (prog.info? ty).map (·.size) = some C.size) (h : wpListIn F N prog ops Q rest (a.put op.dst (.agg C)) w) : wpListIn F N prog ops Q (op :: rest) a w :=
 j1z hF hw ty x ho B 0 hx C hB.range0 d hu hd hi h
theorem wjz (hw : Region.wanted op (yielded ops a.tmps) = true) (ty : TypeId) (ho : op.op = .alloc ty) (z : Array Value) (hz : ∀ w, (zeroValue ty).run prog w = .ok (.agg z) w)
  (h : ∀ B W, Hid (w.heap.size = B ∧ W.heap.size = B + 1) → Blk W B z ty → Below w.heap.size w W → wpListIn F N prog ops Q rest (a.put op.dst (.pointer (some ⟨B, 0, none⟩))) W) : wpListIn F N prog ops Q (op :: rest) a w := by
 refine klz hF (by rw [ho]; intro c hc; cases hc) hw (w' := w.alloc (.cells z ty)) (v := .pointer (some ⟨w.heap.size, 0, none⟩)) ?_ (h _ _ ⟨rfl, by simp⟩ (Blk.new w z ty) ((Below.refl _ w).alloc (Nat.le_refl _) _))
 unfold execOp
 simp [ho, Instr.alloc, hz, newVar, newRow, newObj, Value.cells]
 rfl
theorem xFz (hw : Region.wanted op (yielded ops a.tmps) = true) (ty : TypeId) (x : Operand) (ho : op.op = .box ty x) (C : Array Value) (hx : a.eval x = .agg C)
  (h : ∀ B W, Hid (w.heap.size = B ∧ W.heap.size = B + 1) → Blk W B C ty → Below w.heap.size w W → wpListIn F N prog ops Q rest (a.put op.dst (.pointer (some ⟨B, 0, none⟩))) W) : wpListIn F N prog ops Q (op :: rest) a w := by
 refine klz hF (by rw [ho]; intro c hc; cases hc) hw (w' := w.alloc (.cells C ty)) (v := .pointer (some ⟨w.heap.size, 0, none⟩)) ?_ (h _ _ ⟨rfl, by simp⟩ (Blk.new w C ty) ((Below.refl _ w).alloc (Nat.le_refl _) _))
 unfold execOp
 simp [ho, hx, Instr.box, newVar, newRow, newObj, Value.cells]
 rfl
theorem qKz (hw : Region.wanted op (yielded ops a.tmps) = true) (ty : TypeId) (x y : Operand) (ho : op.op = .store ty x y) (B : Nat) (hx : a.eval x = .pointer (some ⟨B, 0, none⟩)) (C : Array Value) (hy : a.eval y = .agg C) (old : Array Value) (hB : Blk w B old ty)
  (hi : (prog.info? ty).map (·.size) = some C.size) (hs : old.size = C.size) (h1 : C.all (·.oneCell') = true)
  (h : ∀ W, Blk W B C ty → Oth B w W → wpListIn F N prog ops Q rest (a.put op.dst undef) W) : wpListIn F N prog ops Q (op :: rest) a w := by
 obtain ⟨W, hr, hb, ho'⟩ := whz hB hi hs h1
 refine jgz hF (by rw [ho]; intro c hc; cases hc) hw (w' := W) ?_ (h W hb ho')
 unfold execOp
 simp only [ho, hx, hy, Instr.storeAt, Instr.sureAddr, Sem.run_bind, Sem.run_pure, Result.andThen_ok, hr]
end
end
section
open Go.RowKit Go.Shelf
attribute [local go_sem] Oper.semAt_some
def cfo (X : List Ob) (Cf : Nat → Array Value) (i : Nat) : Array Value := if i < X.length then Cf i else zC
theorem cfo_lt {X : List Ob} {Cf : Nat → Array Value} {i : Nat} (h : i < X.length) : cfo X Cf i = Cf i := if_pos h
theorem kTz {E D : Nat → Prop} {w : World} {ao : Option Addr} {n cap : Nat} {X : List Ob} {Cf : Nat → Array Value} (h : ObsF E D w ao n cap X Cf) (i : Nat) : ObD D w (cfo X Cf i) (oat X i) := by
 unfold cfo
 split
 ·rename_i q; exact h.2.2.2.2 i (by rw [← h.1]; exact q)
 ·rename_i q
  have : oat X i = zOb := by unfold oat; rw [List.getD_eq_getElem?_getD, List.getElem?_eq_none (by omega)]; rfl
  rw [this]; exact zC_d D w
def wh (X : List Ob) (i : Int) : Option Nat := if (fnd X i).isSome = true then some (ahd X i) else none
def hitO (X : List Ob) (l : List Int) : List Nat := l.filterMap (wh X)
theorem gdz {X : List Ob} {l : List Int} {k : Nat} (h : k < l.length) : hitO X (l.take (k + 1)) = hitO X (l.take k) ++ (wh X (l.getD k 0)).toList := by
 unfold hitO
 have e : ([l[k]] : List Int).filterMap (wh X) = (wh X l[k]).toList := by
  simp only [List.filterMap_cons, List.filterMap_nil]
  cases wh X l[k] <;> rfl
 rw [List.take_add_one, List.getElem?_eq_getElem h, Option.toList_some, List.filterMap_append, List.getD_eq_getElem?_getD, List.getElem?_eq_getElem h, e]
 rfl
theorem hitO_pre {X : List Ob} {l : List Int} {k : Nat} : hitO X (l.take k) <+: hitO X l := by
 unfold hitO
 conv => rhs; rw [← List.take_append_drop k l]
 rw [List.filterMap_append]
 exact List.prefix_append _ _
theorem wh_lt {X : List Ob} (hs : Srt X) {i : Int} {k : Nat} (h : wh X i = some k) : k < X.length ∧ fnd X i = some (oat X k) := by
 unfold wh at h
 split at h
 ·rename_i hf
  cases h
  obtain ⟨x, hx⟩ := Option.isSome_iff_exists.1 hf
  have hq : ahd X i < X.length ∧ (oat X (ahd X i)).id = i := Classical.byContradiction fun q => by rw [wRz hs q] at hx; cases hx
  exact ⟨hq.1, j5z hs hq.1 hq.2⟩
 ·cases h
def encO (X : List Ob) (Cf : Nat → Array Value) (i : Nat) : Array Value := #[.agg (cfo X Cf i)]
theorem yNz (N : Nat) (hN : 1 ≤ N) (l Bd Bv : Nat) (D : Nat → Prop) {t ke ro : Int} {ao al : Option Addr} {n cap nl cl : Nat} {X : List Ob} {Cf : Nat → Array Value} {Cd : Array Value} {L : List Int} (hs : Srt X) (hn16 : n ≤ 4096) (J Jx : List Nat → World → Prop)
  (hY : ∀ pre x W, J pre W → pre.length < (hitO X L).length → YieldAt Fence.wide (N - 1) prog l (encO X Cf x) W fun e W' =>
   (e = .returned (.bool true) ∧ J (pre ++ [x]) W' ∧ Keeps D W W') ∨ (e = .returned (.bool false) ∧ Jx (pre ++ [x]) W'))
  (W : World) (hJ : AbidesFrom W.heap.size J) (hD : ∀ b, D b → b < W.heap.size) (hDd : D Bd) (hDv : D Bv) (hBd : Blk W Bd Cd 43) (hc5 : Cd[5]? = some (.slice al nl cl)) (hBv : Blk W Bv #[.int .i64 t, .int .u64 ke, .int .u64 ro, .slice ao n cap] 74)
  (hX : ObsF D D W ao n cap X Cf) (hL : CtD D W al nl cl L) (h0 : J [] W) :
  CallsIn Fence.wide N prog 111 #[.func (.yield l) #[] #[], .pointer (some ⟨Bd, 0, none⟩), .pointer (some ⟨Bv, 0, none⟩)] W fun e W' => (∃ v, e = .returned v) ∧
   ((∃ ys, ys = hitO X L ∧ J ys W') ∨ (∃ pre, pre <+: hitO X L ∧ Jx pre W')) := by
 have hln : Hid (L.length = nl) := hL.1
 have hlc := hL.2.1
 have hlm := hL.2.2.1.1
 have ga4 := isAgg28
 have ga1 := isAgg22
 have hzv : (prog.info? 74).map (·.size) = some (#[.int .i64 t, .int .u64 ke, .int .u64 ro, .slice ao n cap] : Array Value).size := by kernel_rfl
 have hfd := fun (W' : World) (i : Int) (hk : Keeps D W W') => xtz (t := t) (ke := ke) (ro := ro) (i := i) ((hX.laterK (fun b hb => hk.2 b hb) (fun b hb => hk.2 b hb)).wide (D' := LtN W') (E' := LtN W') (fun b hb => Nat.lt_of_lt_of_le (hD b hb) hk.1) (fun b hb => Nat.lt_of_lt_of_le (hD b hb) hk.1)) hs hn16
 obtain ⟨G, hG⟩ : ∃ G : Array Value, G = #[.int .i64 t, .int .u64 ke, .int .u64 ro, .slice ao n cap] := ⟨_, rfl⟩
 rw [← hG] at hBv hzv hfd
 clear hG
 have hc : W.cell? ⟨Bd, 5, none⟩ = some (.slice al nl cl) := (hBd.cell 5).trans hc5
 refine callsIn_of_wp func111 rfl trivial ?_ rfl
 simp only [ntmps111, List.size_toArray, List.length_cons, List.length_nil, Nat.reduceAdd, Nat.reduceSub, Array.replicate_succ, Array.replicate_zero, List.push_toArray, List.append_toArray, List.nil_append, List.cons_append]
 gi_wp2
 gi_loopw [11] (fun i wr => ∃ k : Nat, k ≤ nl ∧ i = .int .i64 k ∧ Keeps D W wr ∧ J (hitO X (L.take k)) wr) (fun i _ => nl - (intOf i).toNat)
 case atStart => exact ⟨0, Nat.zero_le _, rfl, Keeps.refl _ _, h0⟩
 case round =>
  obtain ⟨k, hk, rfl, hkp, hJk⟩ := hrel
  by_cases hkn : k < nl
  ·obtain ⟨bl, offl, rfl, hbl, hcl⟩ := jpz (CtD.laterK hL fun b hb => hkp.2 b hb) hkn
   have hv : Blk wr Bv G 74 := (hkp.2 Bv hDv).trans hBv
   have hkn' : (k : Int) < nl := by omega
   have hsu := gdz (X := X) (show k < L.length by rw [hln.out]; exact hkn)
   have hpre : Hid (hitO X (L.take (k + 1)) <+: hitO X L) := hitO_pre
   generalize L.getD k 0 = i at hcl hsu
   have hfi := hfd wr i hkp
   have hzf : (fC X Cf i).size = 51 ∧ (fC X Cf i).all (·.oneCell') = true := by
    unfold fC
    split
    ·rename_i hf
     have := (wh_lt hs (show wh X i = some (ahd X i) by unfold wh; rw [if_pos hf])).1
     exact ⟨(hX.2.2.2.2 _ (by rw [← hX.1]; exact this)).size, (hX.2.2.2.2 _ (by rw [← hX.1]; exact this)).one⟩
    ·exact ⟨qmz, (zC_d (fun _ => True) wr).one⟩
   cases hw : wh X i with
   | none =>
    have hf : (fnd X i).isSome = false := by unfold wh at hw; split at hw; cases hw; rename_i q; simpa using q
    rw [hf] at hfi
    rw [hw] at hsu
    simp only [Option.toList_none, List.append_nil] at hsu
    generalize fC X Cf i = C at hfi hzf
    clear hfd hw hf
    gi_wp2_with (first
     | (with_reducible refine qLz (fun _ => trivial) (by kernel_rfl) _ _ rfl Bv rfl G _ hv _ underlying74 (by kernel_rfl) hzv ?_)
     | (refine ⟨trivial, ?_⟩; gi_at_call 37; (with_reducible refine (callsIn_wide.2 hfi).mono ?_); rintro e w1 ⟨rfl, hb1⟩)
     | ((with_reducible refine wjz (fun _ => trivial) (by kernel_rfl) _ rfl zC qqz ?_); intro R W5 hN5 hR5 hk5)
     | ((with_reducible refine qKz (fun _ => trivial) (by kernel_rfl) _ _ _ rfl R rfl C rfl zC hR5 (qfz hzf.1) (qmz.trans hzf.1.symm) hzf.2 ?_); intro W6 hR6 o6)
     | (with_reducible refine qLz (fun _ => trivial) (by kernel_rfl) _ _ rfl R rfl C _ hR6 _ underlying43 (by kernel_rfl) (qfz hzf.1) ?_))
    have kb : Below wr.heap.size wr W6 := o6.below wr.heap.size wr (by have := hN5.out; have := hb1.size; omega) (btz hb1 hk5)
    have hk1 : Keeps D wr W6 := ⟨kb.size, fun b hb => kb.block b (Nat.lt_of_lt_of_le (hD b hb) hkp.1)⟩
    have hJ1 := hJ _ wr W6 none hJk (below_grown kb) (fun r e => by cases e)
    refine ⟨fun f e => (by cases e), ?_⟩
    gi_wp2
    go_roundw
    case rel => exact ⟨k + 1, by omega, by go_num, hkp.trans hk1, by rw [hsu]; exact hJ1⟩
    case measure => simp [intOf]; omega
   | some m =>
    have hm := wh_lt hs hw
    have hf : (fnd X i).isSome = true := by rw [hm.2]; rfl
    have hmm : m = ahd X i := by unfold wh at hw; rw [if_pos hf] at hw; cases hw; rfl
    have hfc : fC X Cf i = Cf m := by unfold fC; rw [if_pos hf, hmm]
    have hix : Hid (cfo X Cf m = Cf m) := cfo_lt hm.1
    rw [hfc] at hfi hzf
    rw [hf] at hfi
    rw [hw] at hsu
    simp only [Option.toList_some] at hsu
    have hsu' : Hid (hitO X (L.take (k + 1)) = hitO X (L.take k) ++ [m]) := hsu
    obtain ⟨C, hC⟩ : ∃ C, Hid (C = Cf m) := ⟨_, rfl⟩
    rw [← hC.out] at hfi hzf
    clear hfd hw hf hfc hmm hm hsu
    gi_wp2_with (first
     | (with_reducible refine qLz (fun _ => trivial) (by kernel_rfl) _ _ rfl Bv rfl G _ hv _ underlying74 (by kernel_rfl) hzv ?_)
     | (refine ⟨trivial, ?_⟩; gi_at_call 37; (with_reducible refine (callsIn_wide.2 hfi).mono ?_); rintro e w1 ⟨rfl, hb1⟩)
     | ((with_reducible refine wjz (fun _ => trivial) (by kernel_rfl) _ rfl zC qqz ?_); intro R W5 hN5 hR5 hk5)
     | ((with_reducible refine qKz (fun _ => trivial) (by kernel_rfl) _ _ _ rfl R rfl C rfl zC hR5 (qfz hzf.1) (qmz.trans hzf.1.symm) hzf.2 ?_); intro W6 hR6 o6)
     | (with_reducible refine qLz (fun _ => trivial) (by kernel_rfl) _ _ rfl R rfl C _ hR6 _ underlying43 (by kernel_rfl) (qfz hzf.1) ?_))
    have kb : Below wr.heap.size wr W6 := o6.below wr.heap.size wr (by have := hN5.out; have := hb1.size; omega) (btz hb1 hk5)
    have hk1 : Keeps D wr W6 := ⟨kb.size, fun b hb => kb.block b (Nat.lt_of_lt_of_le (hD b hb) hkp.1)⟩
    have hJ1 := hJ _ wr W6 none hJk (below_grown kb) (fun r e => by cases e)
    obtain ⟨fn, tmps, assign, body, hyy, hR⟩ := hY (hitO X (L.take k)) m W6 hJ1 (by have := hpre.out.length_le; rw [hsu'.out] at this; simp at this; omega)
    dsimp only [encO] at hyy
    rw [hix.out, ← hC.out] at hyy
    rw [hyy]
    gi_wp2
    refine hR.mono ?_
    rintro e W3 (⟨rfl, hJ3, hk3⟩ | ⟨rfl, hJx3⟩)
    ·gi_wp2
     go_roundw
     case rel => exact ⟨k + 1, by omega, by go_num, (hkp.trans hk1).trans hk3, by rw [hsu'.out]; exact hJ3⟩
     case measure => simp [intOf]; omega
    ·gi_wp2
     refine bodyPost_ret (results_none rfl _ _ _) rfl ?_
     exact ⟨⟨_, rfl⟩, .inr ⟨_, by have h1 := hpre.out; rw [hsu'.out] at h1; exact h1, hJx3⟩⟩
  ·obtain rfl : k = nl := by omega
   gi_wp2
   go_end0
   exact ⟨⟨_, rfl⟩, .inl ⟨_, rfl, by rw [← hln.out, List.take_length] at hJk; exact hJk⟩⟩
theorem w1z (N : Nat) (hN : 1 ≤ N) (Bd Bv : Nat) (D : Nat → Prop) {t ke ro : Int} {ao al : Option Addr} {n cap nl cl : Nat} {X : List Ob} {Cf : Nat → Array Value} {Cd : Array Value} {L : List Int} (hs : Srt X) (hn16 : n ≤ 4096) (w : World)
  (hD : ∀ b, D b → b < w.heap.size) (hDd : D Bd) (hDv : D Bv) (hBd : Blk w Bd Cd 43) (hc5 : Cd[5]? = some (.slice al nl cl)) (hBv : Blk w Bv #[.int .i64 t, .int .u64 ke, .int .u64 ro, .slice ao n cap] 74) (hX : ObsF D D w ao n cap X Cf) (hL : CtD D w al nl cl L) :
  SeqStopsK Fence.wide N prog 111 #[.pointer (some ⟨Bd, 0, none⟩), .pointer (some ⟨Bv, 0, none⟩)] (encO X Cf) (Keeps D) (fun ys => ys = hitO X L) (fun pre => pre <+: hitO X L) (hitO X L).length w := fun l J Jx W hW hJ _ hY h0 =>
 yNz N hN l Bd Bv D hs hn16 J Jx hY W hJ (fun b hb => Nat.lt_of_lt_of_le (hD b hb) hW.size) hDd hDv ((hW.block Bd (hD Bd hDd)).trans hBd) hc5 ((hW.block Bv (hD Bv hDv)).trans hBv) (hX.laterK (fun b hb => hW.block b (hD b hb)) (fun b hb => hW.block b (hD b hb))) (hL.laterK fun b hb => hW.block b (hD b hb)) h0
end
section
open Go.RowKit Go.Shelf
attribute [local go_sem] Oper.semAt_some
theorem Blk.own {X Y : World} {R : Nat} {C : Array Value} {t : TypeId} {row : Option Nat} (h : Blk X R C t) (hg : X.grownBy Y row) (hr : ∀ r, row = some r → ∃ o : Obj, X.heap[r]? = some o ∧ o.isCells = false) : Blk Y R C t :=
 (hg.block R h.lt (fun e => by obtain ⟨o, ho, hc⟩ := hr R e.symm; rw [show X.heap[R]? = _ from h] at ho; cases ho; cases hc)).trans h
theorem xEz {w : World} {G C : Array Value} : Calls prog 80 #[.agg G, .agg C] w fun e w' => ∃ Bv Bd, e = .returned (.func (.func 111) #[] #[.pointer (some ⟨Bd, 0, none⟩), .pointer (some ⟨Bv, 0, none⟩)]) ∧ Blk w' Bv G 74 ∧ Blk w' Bd C 43 ∧ Bv ≠ Bd ∧ w.heap.size ≤ Bv ∧ w.heap.size ≤ Bd ∧ Below w.heap.size w w' := by
 go_enter func80, ntmps80
 go_wp2_with (first
  | (with_reducible refine qdz rfl 74 _ rfl G rfl ?_; intro Bv W hB hb hk)
  | (with_reducible refine qdz rfl 43 _ rfl C rfl ?_; intro Bd W2 hB2 hb2 hk2; replace hb := hb.next hk2; replace hk := btz hk hk2))
 go_ret
 exact ⟨Bv, Bd, rfl, hb, hb2, by have := hB.out; have := hB2.out; omega, by have := hB.out; omega, by have := hB.out; have := hB2.out; omega, hk⟩
theorem sum_hits {X : List Ob} (hs : Srt X) (L : List Int) : ((hitO X L).map fun m => (oat X m).quota).sum = (L.map (qOf X)).sum := by
 induction L with
 | nil => rfl
 | cons a r ih =>
  unfold hitO at ih ⊢
  rw [List.map_cons, List.sum_cons, ← ih, List.filterMap_cons]
  cases hw : wh X a with
  | none =>
   have hf : fnd X a = none := by
    unfold wh at hw
    split at hw
    ·cases hw
    ·rename_i q; cases hq : fnd X a with | none => rfl | some x => rw [hq] at q; exact absurd rfl q
   have : qOf X a = 0 := by unfold qOf; rw [hf]
   rw [this]; simp
  | some m =>
   obtain ⟨h1, h2⟩ := wh_lt hs hw
   have : qOf X a = (oat X m).quota := by unfold qOf; rw [h2]
   rw [this]
   simp only [List.map_cons, List.sum_cons]
theorem sumq {X : List Ob} (hq : ∀ x ∈ X, 0 ≤ x.quota ∧ x.quota ≤ 4096) (pre : List Nat) : 0 ≤ (pre.map fun m => (oat X m).quota).sum ∧ (pre.map fun m => (oat X m).quota).sum ≤ 4096 * pre.length := by
 induction pre with
 | nil => simp
 | cons a r ih =>
  have h1 : 0 ≤ (oat X a).quota ∧ (oat X a).quota ≤ 4096 := by
   by_cases q : a < X.length
   ·exact hq _ (qXz q)
   ·have : oat X a = zOb := by unfold oat; rw [List.getD_eq_getElem?_getD, List.getElem?_eq_none (by omega)]; rfl
    rw [this]; decide
  rw [List.map_cons, List.sum_cons, List.length_cons]
  omega
theorem uKz {o : Ob} (h : Small o) : 0 ≤ pagO o ∧ pagO o ≤ 4294967296 := by
 have := h.c6
 unfold pagO
 split
 ·unfold pagN; omega
 ·omega
theorem y7z {w : World} {t ke ro : Int} {ao : Option Addr} {n cap : Nat} {X : List Ob} {Cf : Nat → Array Value} {C : Array Value} {o : Ob} (h : ObsF (LtN w) (LtN w) w ao n cap X Cf) (hs : Srt X) (hn16 : n ≤ 4096) (hq : ∀ x ∈ X, 0 ≤ x.quota ∧ x.quota ≤ 4096) (ho : ObD (LtN w) w C o) (hsm : Small o) : Calls prog 48 #[.agg #[.int .i64 t, .int .u64 ke, .int .u64 ro, .slice ao n cap], .agg C] w fun e w' => e = .returned (.int .i64 (pagO o + (o.links.map (qOf X)).sum)) ∧ Below w.heap.size w w' := by
 have hz := ho.size
 obtain ⟨al, nl, cl, c5, hL⟩ := ho.links
 have hzv : (prog.info? 74).map (·.size) = some (#[.int .i64 t, .int .u64 ke, .int .u64 ro, .slice ao n cap] : Array Value).size := by kernel_rfl
 obtain ⟨G, hG⟩ : ∃ G : Array Value, Hid (G = #[.int .i64 t, .int .u64 ke, .int .u64 ro, .slice ao n cap]) := ⟨_, rfl⟩
 rw [← hG.out] at hzv
 rw [← hG.out]
 refine (callsIn_wide (n := 5)).1 ?_
 refine callsIn_of_wp_marks func48 rfl trivial ?_ rfl
 simp only [ntmps48, List.size_toArray, List.length_cons, List.length_nil, Nat.reduceAdd, Nat.reduceSub, Array.replicate_succ, Array.replicate_zero, List.push_toArray, List.append_toArray, List.nil_append, List.cons_append]
 gi_wp2_with (first
  | (with_reducible refine xFz (fun _ => trivial) (by kernel_rfl) _ _ rfl G rfl ?_; intro B2 W2 hN2 hB2 hk)
  | (with_reducible refine xFz (fun _ => trivial) (by kernel_rfl) _ _ rfl C rfl ?_; intro B3 W3 hN3 hB3 hk3; replace hB2 := hB2.next hk3; replace hk := btz hk hk3)
  | (with_reducible refine qLz (fun _ => trivial) (by kernel_rfl) _ _ rfl B3 rfl C _ hB3 _ underlying43 (by kernel_rfl) (qfz hz) ?_)
  | (with_reducible refine qLz (fun _ => trivial) (by kernel_rfl) _ _ rfl B2 rfl G _ hB2 _ underlying74 (by kernel_rfl) hzv ?_)
  | (refine ⟨trivial, ?_⟩; gi_at_call 79; (with_reducible refine (callsIn_wide.2 (uJz (ho.next hk) hsm)).mono ?_); rintro e w1 ⟨rfl, hb1⟩; replace hB2 := hB2.next hb1; replace hB3 := hB3.next hb1; replace hk := btz hk hb1; have hka := (Below.refl w1.heap.size w1).alloc (Nat.le_refl _) (.cells #[.int .i64 (pagO o)] 3); have hU := Boxed.new w1 3 (.int .i64 (pagO o)); have hB2a := hB2.next hka; have hB3a := hB3.next hka; have hkw := btz hk hka)
  | (with_reducible refine qLz (fun _ => trivial) (by kernel_rfl) _ _ rfl B3 rfl C _ hB3a _ underlying43 (by kernel_rfl) (qfz hz) ?_)
  | (with_reducible refine qLz (fun _ => trivial) (by kernel_rfl) _ _ rfl B2 rfl G _ hB2a _ underlying74 (by kernel_rfl) hzv ?_)
  | (refine ⟨trivial, ?_⟩; gi_at_call 80; (with_reducible refine (callsIn_wide.2 xEz).mono ?_); rintro e w2 ⟨Bv, Bd, rfl, hBv, hBd, hvd, hv1, hd1, hb2⟩))
 have hwU : w.heap.size ≤ w1.heap.size := hk.size
 have hsz : (w1.alloc (.cells #[.int .i64 (pagO o)] 3)).heap.size = w1.heap.size + 1 := by simp
 rw [hsz] at hv1 hd1 hb2
 have hU2 : Boxed w2 w1.heap.size 3 (.int .i64 (pagO o)) := (hb2.block _ (by omega)).trans hU
 have hk2 : Below w.heap.size w w2 := hkw.trans (hb2.mono (by omega))
 generalize w1.heap.size = U at hwU hv1 hd1 hU2 ⊢
 clear hU hB2a hB3a hka hkw hb2 hB2 hB3 hb1 hk hk3 hN2 hN3 hsz
 have hD : ∀ b, (b < w.heap.size ∨ b = Bd ∨ b = Bv) → b < w2.heap.size := fun b hb => by
  rcases hb with q | q | q
  ·exact Nat.lt_of_lt_of_le q hk2.size
  ·rw [q]; exact hBd.lt
  ·rw [q]; exact hBv.lt
 have hX2 : ObsF (fun b => b < w.heap.size ∨ b = Bd ∨ b = Bv) (fun b => b < w.heap.size ∨ b = Bd ∨ b = Bv) w2 ao n cap X Cf := (h.laterK (fun b hb => hk2.block b hb) (fun b hb => hk2.block b hb)).wide (fun b hb => .inl hb) (fun b hb => .inl hb)
 have hL2 : CtD (fun b => b < w.heap.size ∨ b = Bd ∨ b = Bv) w2 al nl cl o.links := (hL.laterK fun b hb => hk2.block b hb).wide fun b hb => .inl hb
 refine wpIn_rangeFunc_ownH rfl (by omega) (gf := 111) (lb := #[.pointer (some ⟨Bd, 0, none⟩), .pointer (some ⟨Bv, 0, none⟩)]) rfl trivial (enters_of func111 (by kernel_rfl) rfl)
  (w1z _ (by omega) Bd Bv (fun b => b < w.heap.size ∨ b = Bd ∨ b = Bv) hs hn16 w2 hD (.inr (.inl rfl)) (.inr (.inr rfl)) hBd c5 (by rw [← hG.out]; exact hBv) hX2 hL2) keepsK_t (keepsK_b hD) (Below.refl _ _) (fun _ => rfl)
  (fun pre W => Boxed W U 3 (.int .i64 (pagO o + (pre.map fun m => (oat X m).quota).sum)) ∧ Below w.heap.size w2 W)
  (fun cd pre W => False ∧ Below w.heap.size w2 W)
  (OwnFrom.and (Own.from (boxed_own _ _ _) _) (ownFrom_below hk2.size hk2.size))
  (fun cd => OwnFrom.and (ownFrom_pure _ _) (ownFrom_below hk2.size hk2.size))
  ⟨by simpa using hU2, Below.refl _ _⟩
  (fun x a2 W => ∃ R, a2 = { tmps := #[.agg G, .agg C, .pointer (some ⟨B2, 0, none⟩), .pointer (some ⟨B3, 0, none⟩), .int .i64 0, .pointer (some ⟨U, 0, none⟩), .pointer (some ⟨R, 0, none⟩), .agg C, .int .i64 (pagO o), .agg G, .agg C, .func (.func 111) #[] #[.pointer (some ⟨Bd, 0, none⟩), .pointer (some ⟨Bv, 0, none⟩)], .agg (cfo X Cf x), undef, undef, undef, undef, undef], defers := [] } ∧ Blk W R (cfo X Cf x) 43 ∧ R ≠ U)
  (fun x a2 s A B row ⟨R, e, hb, hn⟩ hg hr => ⟨R, e, hb.own hg (fun r q => (hr r q).2), hn⟩)
  ?assign ?body ?done ?stop
 case assign =>
  rintro l pre x W K ⟨hI1, hI2⟩ hK
  have hco := kTz h x
  dsimp only [encO]
  generalize cfo X Cf x = Cx at hco hK ⊢
  refine (fun (hh : ∀ T : Array Value, T = #[.agg G, .agg C, .pointer (some ⟨B2, 0, none⟩), .pointer (some ⟨B3, 0, none⟩), .int .i64 0, .pointer (some ⟨U, 0, none⟩), undef, .agg C, .int .i64 (pagO o), .agg G, .agg C, .func (.func 111) #[] #[.pointer (some ⟨Bd, 0, none⟩), .pointer (some ⟨Bv, 0, none⟩)], .agg Cx, undef, undef, undef, undef, undef] → Code.wpIn _ _ _ _ _ { tmps := T, defers := [] } W) => hh _ (by kernel_rfl)) ?_
  rintro T rfl
  have hsx := hco.size
  have h1x := hco.one
  clear hco
  gi_wp2_with (first
   | ((with_reducible refine wjz (fun _ => trivial) (by kernel_rfl) _ rfl zC qqz ?_); intro R W5 hN5 hR5 hk5)
   | ((with_reducible refine qKz (fun _ => trivial) (by kernel_rfl) _ _ _ rfl R rfl Cx rfl zC hR5 (qfz hsx) (qmz.trans hsx.symm) h1x ?_); intro W6 hR6 o6))
  have kb : Below W.heap.size W W6 := o6.below W.heap.size W (by have := hN5.out; omega) hk5
  have hRU : R ≠ U := by have := hN5.out; have := hI1.lt; omega
  have hDW : ∀ b, (b < w.heap.size ∨ b = Bd ∨ b = Bv) → b < W.heap.size := fun b hb => Nat.lt_of_lt_of_le (hD b hb) hI2.size
  exact hK _ _ ⟨kb.size, fun k o' _ hk' _ => (kb.block k (Array.getElem?_eq_some_iff.1 hk').1).trans hk'⟩ ⟨kb.size, fun b hb => kb.block b (hDW b hb)⟩ ⟨(kb.block U hI1.lt).trans hI1, hI2.trans (kb.mono (Nat.le_trans hk2.size hI2.size))⟩ ⟨R, rfl, hR6, hRU⟩
 case body =>
  rintro l pre x a2 W hl ⟨r2, hr2⟩ ⟨d1, hB1⟩ ⟨R, rfl, hR, hRU⟩ hlt
  have hco := kTz h x
  have c1 := d1.cell
  have f1 := d1.frozen
  have c2 : W.cell? ⟨R, 3, none⟩ = some (.int .i64 (oat X x).quota) := (hR.cell 3).trans hco.quota
  generalize cfo X Cf x = Cx at hR ⊢
  have hqx : 0 ≤ (oat X x).quota ∧ (oat X x).quota ≤ 4096 := by
   by_cases q : x < X.length
   ·exact hq _ (qXz q)
   ·have : oat X x = zOb := by unfold oat; rw [List.getD_eq_getElem?_getD, List.getElem?_eq_none (by omega)]; rfl
    rw [this]; decide
  have hsum := sumq hq pre
  have hle : (hitO X o.links).length ≤ o.links.length := List.length_filterMap_le ..
  have hlen := hsm.c5
  have hpg := uKz hsm
  have hw : IntKind.i64.wrap ((pagO o + (pre.map fun m => (oat X m).quota).sum) + (oat X x).quota) = pagO o + ((pre ++ [x]).map fun m => (oat X m).quota).sum := by
   rw [List.map_append, List.sum_append, IntKind.wrap_i64]
   simp only [List.map_cons, List.map_nil, List.sum_cons, List.sum_nil]
   omega
  clear hsum hle hlen hpg hqx
  gi_wp2
  exact ⟨(KeepsOthers.setCell _ _ _).from _, ⟨by simp, fun b hb => Below.heap_setCell _ _ _ _ (by show b ≠ U; rcases hb with q | q | q <;> omega)⟩, by simpa [hw] using d1.set _, hB1.setCell (p := ⟨U, 0, none⟩) (by show w.heap.size ≤ U; omega) _⟩
 case done =>
  rintro D ys W hD rfl ⟨d1, hB⟩ hK
  rw [sum_hits hs] at d1
  have c1 := d1.cell
  gi_wp2
  refine ⟨by simp, .inl ⟨_, _, rfl, run_takeDeferred hK, ?_⟩⟩
  refine ⟨.int .i64 (pagO o + (o.links.map (qOf X)).sum), ?_, rfl, (hk2.trans hB).trans (belowK_b (w := w) (Nat.le_refl _) _ D _ _ (by have := hk2.size; omega) hK rfl rfl)⟩
  simp [results, Tryz.f48, go_sem]
 case stop =>
  rintro D cd pre W hD hpre ⟨h, _⟩ hK
  exact h.elim
end
section
open Go.RowKit Go.Shelf
attribute [local go_sem] Oper.semAt_some
theorem sub_any {S : World → Prop} {x y : Operand} {a b : Int} (hw : IntKind.i64.wrap (a - b) = a - b) : Obl.holds prog S (.test .sub 3 x y (.int .i64 a) (.int .i64 b) (.int .i64 (a - b))) := fun w hS => by
 go_simp
theorem qO_le {X : List Ob} (hq : ∀ x ∈ X, 0 ≤ x.quota ∧ x.quota ≤ 4096) (i : Int) : 0 ≤ qOf X i ∧ qOf X i ≤ 4096 := by
 unfold qOf
 cases hf : fnd X i with
 | none => exact ⟨by decide, by decide⟩
 | some x => exact hq x (List.mem_of_find?_eq_some (show X.find? _ = some x from hf))
theorem use_le {X : List Ob} {o : Ob} (hq : ∀ x ∈ X, 0 ≤ x.quota ∧ x.quota ≤ 4096) (hsm : Small o) : 0 ≤ pagO o + (o.links.map (qOf X)).sum ∧ pagO o + (o.links.map (qOf X)).sum ≤ 17596481011712 := by
 have h1 := sum_le (l := o.links) (f := qOf X) (k := 4096) fun i _ => qO_le hq i
 have h2 := uKz hsm
 have h3 := hsm.c5
 omega
theorem vVz {w : World} {t ke ro : Int} {ao : Option Addr} {n cap : Nat} {X : List Ob} {Cf : Nat → Array Value} {C : Array Value} {o : Ob} (h : ObsF (LtN w) (LtN w) w ao n cap X Cf) (hs : Srt X) (hn16 : n ≤ 4096) (hq : ∀ x ∈ X, 0 ≤ x.quota ∧ x.quota ≤ 4096) (ho : ObD (LtN w) w C o) (hsm : Small o) (hoq : 0 ≤ o.quota ∧ o.quota ≤ 4096) : Calls prog 47 #[.agg #[.int .i64 t, .int .u64 ke, .int .u64 ro, .slice ao n cap], .agg C] w fun e w' => e = .returned (.int .i64 (o.quota - (pagO o + (o.links.map (qOf X)).sum))) ∧ Below w.heap.size w w' := by
 have hmx : prog.follows .mixedOrders = true := by kernel_rfl
 have hz := ho.size
 have c3 := ho.quota
 have hul := use_le hq hsm
 have hzv : (prog.info? 74).map (·.size) = some (#[.int .i64 t, .int .u64 ke, .int .u64 ro, .slice ao n cap] : Array Value).size := by kernel_rfl
 have hus := fun (W : World) (hk : Below w.heap.size w W) => y7z (t := t) (ke := ke) (ro := ro) (h.next hk) hs hn16 hq (ho.next hk) hsm
 obtain ⟨G, hG⟩ : ∃ G : Array Value, G = #[.int .i64 t, .int .u64 ke, .int .u64 ro, .slice ao n cap] := ⟨_, rfl⟩
 rw [← hG] at hzv hus
 rw [← hG]
 clear hG
 obtain ⟨u, hu⟩ : ∃ u, Hid ((pagO o + (o.links.map (qOf X)).sum) = u) := ⟨_, rfl⟩
 rw [hu.out] at hus hul ⊢
 have hw : IntKind.i64.wrap (o.quota - u) = o.quota - u := by rw [IntKind.wrap_i64]; omega
 go_enter func47, ntmps47
 go_wp2_with (first
  | (with_reducible refine qdz rfl 74 _ rfl G rfl ?_; intro B2 W2 hN2 hB2 hk)
  | (with_reducible refine qdz rfl 43 _ rfl C rfl ?_; intro B3 W3 hN3 hB3 hk3; replace hB2 := hB2.next hk3; replace hk := btz hk hk3))
 refine PgM.region_out (S := fun W => Blk W B2 G 74 ∧ Blk W B3 C 43) hmx ⟨hB2.next (Below.refl _ _).drew, hB3.next (Below.refl _ _).drew⟩ (fun hS => ?_)
 replace hk := hk.trans ((Below.refl W3.heap.size W3).drew.mono hk.size)
 generalize W3.drew = W5 at hS hk ⊢
 clear hB2 hB3 hk3 hN2 hN3
 refine qiz (by kernel_rfl) (fun _ _ _ _ _ h => h) hS [(0, none), (1, some (.int .i64 o.quota)), (2, some (.agg G)), (3, some (.agg C))] (l' := #[tt, tt, tt, tt, ff, ff, ff]) (a' := { tmps := #[.agg G, .agg C, .pointer (some ⟨B2, 0, none⟩), .pointer (some ⟨B3, 0, none⟩), .int .i64 0, .pointer (some ⟨B3, 3, none⟩), .int .i64 o.quota, .agg G, .agg C, ud, undef], defers := [] }) (obs := [.load 3 B3 3 (.int .i64 o.quota), .load 74 B2 0 (.agg G), .load 43 B3 0 (.agg C)]) (n := 3) (by kernel_rfl) (by kernel_rfl) ⟨qhz (fun _ h => h.2) c3 isAgg3, qwz (fun _ h => h.1) underlying74 (by kernel_rfl) hzv, qwz (fun _ h => h.2) underlying43 (by kernel_rfl) (qfz hz), trivial⟩ ?_
 refine qnz (i := 4) (fuel := 2) (f := 48) (vs := [.agg G, .agg C]) (d := some 9) (by kernel_rfl) (by kernel_rfl) (by kernel_rfl) call48 (hus _ hk) ?_
 rintro e W6 ⟨rfl, hb6⟩
 have hS2 : Blk W6 B2 G 74 ∧ Blk W6 B3 C 43 := ⟨hS.1.next hb6, hS.2.next hb6⟩
 refine ⟨_, rfl, hS2, ?_⟩
 refine qiz (by kernel_rfl) (fun _ _ _ _ _ h => h) hS2 [(5, some (.int .i64 (o.quota - u))), (6, none)] (l' := #[tt, tt, tt, tt, tt, tt, tt]) (a' := { tmps := #[.agg G, .agg C, .pointer (some ⟨B2, 0, none⟩), .pointer (some ⟨B3, 0, none⟩), .int .i64 (o.quota - u), .pointer (some ⟨B3, 3, none⟩), .int .i64 o.quota, .agg G, .agg C, .int .i64 u, .int .i64 (o.quota - u)], defers := [] }) (obs := [.test .sub 3 (.tmp 6) (.tmp 9) (.int .i64 o.quota) (.int .i64 u) (.int .i64 (o.quota - u))]) (n := 0) (by kernel_rfl) (by kernel_rfl) ⟨sub_any hw, trivial⟩ ?_
 refine wpAnyH_done (by kernel_rfl) ?_ _
 go_wp2
 go_ret
 exact ⟨rfl, btz hk hb6⟩
end
section
open Go.RowKit Go.Shelf
attribute [local go_sem] Oper.semAt_some
theorem uses_w {w : World} {t ke ro : Int} {ao : Option Addr} {n cap : Nat} {X : List Ob} {Cf : Nat → Array Value} {C : Array Value} {o : Ob} (h : ObsF (LtN w) (LtN w) w ao n cap X Cf) (hs : Srt X) (hn16 : n ≤ 4096) (hq : ∀ x ∈ X, 0 ≤ x.quota ∧ x.quota ≤ 4096) (ho : ObD (LtN w) w C o) (hsm : Small o) : Calls prog 54 #[.agg #[.int .i64 t, .int .u64 ke, .int .u64 ro, .slice ao n cap], .agg C] w fun e w' => e = .returned (.int .i64 (pagO o + (o.links.map (qOf X)).sum)) ∧ Below w.heap.size w w' := by
 have hz := ho.size
 have hzv : (prog.info? 25).map (·.size) = some (#[.int .i64 t, .int .u64 ke, .int .u64 ro, .slice ao n cap] : Array Value).size := by kernel_rfl
 have hbt : prog.built 74 [(0, .agg #[.int .i64 t, .int .u64 ke, .int .u64 ro, .slice ao n cap])] = some #[.int .i64 t, .int .u64 ke, .int .u64 ro, .slice ao n cap] := by kernel_rfl
 have hus := fun (W : World) (hk : Below w.heap.size w W) => y7z (t := t) (ke := ke) (ro := ro) (h.next hk) hs hn16 hq (ho.next hk) hsm
 obtain ⟨G, hG⟩ : ∃ G : Array Value, G = #[.int .i64 t, .int .u64 ke, .int .u64 ro, .slice ao n cap] := ⟨_, rfl⟩
 rw [← hG] at hzv hus hbt
 rw [← hG]
 clear hG
 obtain ⟨u, hu⟩ : ∃ u, Hid ((pagO o + (o.links.map (qOf X)).sum) = u) := ⟨_, rfl⟩
 rw [hu.out] at hus ⊢
 go_enter func54, ntmps54
 go_wp2_with (first
  | (with_reducible refine qdz rfl 25 _ rfl G rfl ?_; intro B2 W2 hN2 hB2 hk)
  | (with_reducible refine qdz rfl 43 _ rfl C rfl ?_; intro B3 W3 hN3 hB3 hk3; replace hB2 := hB2.next hk3; replace hk := btz hk hk3)
  | (with_reducible refine qez (by kernel_rfl) _ _ rfl B3 rfl C hB3 _ underlying43 (by kernel_rfl) (qfz hz) ?_)
  | (with_reducible refine qez (by kernel_rfl) _ _ rfl B2 rfl G hB2 _ underlying25 (by kernel_rfl) hzv ?_)
  | ((with_reducible refine qpz (by kernel_rfl) _ [(0, .tmp 5)] rfl G ?hf ?_); (case hf => exact hbt))
  | (go_at_call 48; (with_reducible refine (hus _ hk).mono ?_); rintro e w1 ⟨rfl, hb1⟩))
 go_ret
 exact ⟨rfl, btz hk hb1⟩
theorem room_w {w : World} {t ke ro : Int} {ao : Option Addr} {n cap : Nat} {X : List Ob} {Cf : Nat → Array Value} {C : Array Value} {o : Ob} (h : ObsF (LtN w) (LtN w) w ao n cap X Cf) (hs : Srt X) (hn16 : n ≤ 4096) (hq : ∀ x ∈ X, 0 ≤ x.quota ∧ x.quota ≤ 4096) (ho : ObD (LtN w) w C o) (hsm : Small o) (hoq : 0 ≤ o.quota ∧ o.quota ≤ 4096) : Calls prog 36 #[.agg #[.int .i64 t, .int .u64 ke, .int .u64 ro, .slice ao n cap], .agg C] w fun e w' => e = .returned (.int .i64 (o.quota - (pagO o + (o.links.map (qOf X)).sum))) ∧ Below w.heap.size w w' := by
 have hz := ho.size
 have hzv : (prog.info? 25).map (·.size) = some (#[.int .i64 t, .int .u64 ke, .int .u64 ro, .slice ao n cap] : Array Value).size := by kernel_rfl
 have hbt : prog.built 74 [(0, .agg #[.int .i64 t, .int .u64 ke, .int .u64 ro, .slice ao n cap])] = some #[.int .i64 t, .int .u64 ke, .int .u64 ro, .slice ao n cap] := by kernel_rfl
 have hus := fun (W : World) (hk : Below w.heap.size w W) => vVz (t := t) (ke := ke) (ro := ro) (h.next hk) hs hn16 hq (ho.next hk) hsm hoq
 obtain ⟨G, hG⟩ : ∃ G : Array Value, G = #[.int .i64 t, .int .u64 ke, .int .u64 ro, .slice ao n cap] := ⟨_, rfl⟩
 rw [← hG] at hzv hus hbt
 rw [← hG]
 clear hG
 obtain ⟨u, hu⟩ : ∃ u, Hid ((o.quota - (pagO o + (o.links.map (qOf X)).sum)) = u) := ⟨_, rfl⟩
 rw [hu.out] at hus ⊢
 go_enter func36, ntmps36
 go_wp2_with (first
  | (with_reducible refine qdz rfl 25 _ rfl G rfl ?_; intro B2 W2 hN2 hB2 hk)
  | (with_reducible refine qdz rfl 43 _ rfl C rfl ?_; intro B3 W3 hN3 hB3 hk3; replace hB2 := hB2.next hk3; replace hk := btz hk hk3)
  | (with_reducible refine qez (by kernel_rfl) _ _ rfl B3 rfl C hB3 _ underlying43 (by kernel_rfl) (qfz hz) ?_)
  | (with_reducible refine qez (by kernel_rfl) _ _ rfl B2 rfl G hB2 _ underlying25 (by kernel_rfl) hzv ?_)
  | ((with_reducible refine qpz (by kernel_rfl) _ [(0, .tmp 5)] rfl G ?hf ?_); (case hf => exact hbt))
  | (go_at_call 47; (with_reducible refine (hus _ hk).mono ?_); rintro e w1 ⟨rfl, hb1⟩))
 go_ret
 exact ⟨rfl, btz hk hb1⟩
def sngO (o : Ob) : Bool := decide (o.kind = 2) || decide (o.kind = 4)
theorem xyz {w : World} {C : Array Value} {o : Ob} {D : Nat → Prop} (ho : ObD D w C o) : Calls prog 42 #[.agg C] w fun e w' => e = .returned (.bool (sngO o)) ∧ Below w.heap.size w w' := by
 have hz := ho.size
 have c1 := ho.kind
 clear hz
 have hg : sngO o = (decide (o.kind = 2) || decide (o.kind = 4)) := rfl
 rw [hg]
 clear hg
 generalize o.kind = k at c1 ⊢
 by_cases q : k = 2
 ·subst q
  go_enter func42, ntmps42
  go_wp2_with (first
   | (with_reducible refine qdz rfl 43 _ rfl C rfl ?_; intro B3 W3 hN3 hB3 hk; replace c1 := (hB3.cell 1).trans c1))
  go_ret
  exact ⟨rfl, hk⟩
 ·have qb : (k == 2) = false := by simpa using q
  go_enter func42, ntmps42
  go_wp2_with (first
   | (with_reducible refine qdz rfl 43 _ rfl C rfl ?_; intro B3 W3 hN3 hB3 hk; replace c1 := (hB3.cell 1).trans c1))
  go_ret
  exact ⟨by rw [decide_eq_false q, Bool.false_or]; rfl, hk⟩
end
section
open Go.RowKit Go.Shelf
attribute [local go_sem] Oper.semAt_some
def fO (X : List Ob) (i : Int) : Ob := (fnd X i).getD zOb
theorem j7z {E D : Nat → Prop} {w : World} {ao : Option Addr} {n cap : Nat} {X : List Ob} {Cf : Nat → Array Value} (h : ObsF E D w ao n cap X Cf) (hs : Srt X) (i : Int) : ObD D w (fC X Cf i) (fO X i) := by
 unfold fC fO
 split
 ·rename_i hf
  obtain ⟨x, hx⟩ := Option.isSome_iff_exists.1 hf
  have hq : ahd X i < X.length ∧ (oat X (ahd X i)).id = i := Classical.byContradiction fun q => by rw [wRz hs q] at hx; cases hx
  rw [j5z hs hq.1 hq.2]
  exact h.2.2.2.2 _ (by rw [← h.1]; exact hq.1)
 ·rename_i hf
  have : fnd X i = none := by cases hq : fnd X i with | none => rfl | some x => rw [hq] at hf; exact absurd rfl hf
  rw [this]
  exact zC_d D w
def rotB (X : List Ob) (ro : Int) : Bool := (fnd X ro).isSome && (decide ((fO X ro).kind = 2) && decide ((fO X ro).quota ≤ 1024))
theorem rooted_v {w : World} {t ke ro : Int} {ao : Option Addr} {n cap : Nat} {X : List Ob} {Cf : Nat → Array Value} (h : ObsF (LtN w) (LtN w) w ao n cap X Cf) (hs : Srt X) (hn16 : n ≤ 4096) : Calls prog 65 #[.agg #[.int .i64 t, .int .u64 ke, .int .u64 ro, .slice ao n cap]] w fun e w' => e = .returned (.bool (rotB X ro)) ∧ Below w.heap.size w w' := by
 have hzv : (prog.info? 74).map (·.size) = some (#[.int .i64 t, .int .u64 ke, .int .u64 ro, .slice ao n cap] : Array Value).size := by kernel_rfl
 have g2 : (#[.int .i64 t, .int .u64 ke, .int .u64 ro, .slice ao n cap] : Array Value)[2]? = some (.int .u64 ro) := rfl
 have hfd := fun (W : World) (hk : Below w.heap.size w W) => xtz (t := t) (ke := ke) (ro := ro) (i := ro) (h.next hk) hs hn16
 have hfo := j7z h hs ro
 have hz := hfo.size
 have h1c := hfo.one
 have c1 := hfo.kind
 have c3 := hfo.quota
 clear hfo
 obtain ⟨G, hG⟩ : ∃ G : Array Value, G = #[.int .i64 t, .int .u64 ke, .int .u64 ro, .slice ao n cap] := ⟨_, rfl⟩
 rw [← hG] at hzv hfd g2
 rw [← hG]
 clear hG
 generalize fC X Cf ro = C at hfd hz h1c c1 c3
 have hg : rotB X ro = ((fnd X ro).isSome && (decide ((fO X ro).kind = 2) && decide ((fO X ro).quota ≤ 1024))) := rfl
 rw [hg]
 clear hg
 generalize (fO X ro).kind = k at c1 ⊢
 generalize (fO X ro).quota = q at c3 ⊢
 generalize (fnd X ro).isSome = b at hfd ⊢
 by_cases hb : b = true
 ·subst hb
  by_cases hk2 : k = 2
  ·subst hk2
   go_enter func65, ntmps65
   go_wp2_with (first
    | (with_reducible refine qdz rfl _ _ rfl G rfl ?_; intro B W hB hb hk; have g2' := (hb.cell 2).trans g2)
    | ((with_reducible refine qcz rfl _ rfl zC qqz ?_); intro R W1 hB1 hR hk1; replace hb := hb.next hk1; replace hk := btz hk hk1)
    | (with_reducible refine qez (by kernel_rfl) _ _ rfl B rfl G hb _ underlying74 (by kernel_rfl) hzv ?_)
    | (go_at_call 37; (with_reducible refine (hfd _ hk).mono ?_); rintro e w2 ⟨rfl, hb2⟩; replace hb := hb.next hb2; replace hk := btz hk hb2)
    | ((with_reducible refine qaz rfl _ _ _ rfl R rfl C rfl zC hR (qfz hz) (qmz.trans hz.symm) h1c ?_); intro W4 hR4 o4; have c1' := (hR4.cell 1).trans c1; have c3' := (hR4.cell 3).trans c3))
   go_ret
   exact ⟨rfl, o4.below _ _ (by have := hB.out; have := hB1.out; have := hb2.size; omega) hk⟩
  ·have hkb : (k == 2) = false := by simpa using hk2
   go_enter func65, ntmps65
   go_wp2_with (first
    | (with_reducible refine qdz rfl _ _ rfl G rfl ?_; intro B W hB hb hk; have g2' := (hb.cell 2).trans g2)
    | ((with_reducible refine qcz rfl _ rfl zC qqz ?_); intro R W1 hB1 hR hk1; replace hb := hb.next hk1; replace hk := btz hk hk1)
    | (with_reducible refine qez (by kernel_rfl) _ _ rfl B rfl G hb _ underlying74 (by kernel_rfl) hzv ?_)
    | (go_at_call 37; (with_reducible refine (hfd _ hk).mono ?_); rintro e w2 ⟨rfl, hb2⟩; replace hb := hb.next hb2; replace hk := btz hk hb2)
    | ((with_reducible refine qaz rfl _ _ _ rfl R rfl C rfl zC hR (qfz hz) (qmz.trans hz.symm) h1c ?_); intro W4 hR4 o4; have c1' := (hR4.cell 1).trans c1; have c3' := (hR4.cell 3).trans c3))
   go_ret
   exact ⟨by rw [decide_eq_false hk2]; rfl, o4.below _ _ (by have := hB.out; have := hB1.out; have := hb2.size; omega) hk⟩
 ·have hbf : b = false := by simpa using hb
  subst hbf
  clear hb
  go_enter func65, ntmps65
  go_wp2_with (first
   | (with_reducible refine qdz rfl _ _ rfl G rfl ?_; intro B W hB hb hk; have g2' := (hb.cell 2).trans g2)
   | ((with_reducible refine qcz rfl _ rfl zC qqz ?_); intro R W1 hB1 hR hk1; replace hb := hb.next hk1; replace hk := btz hk hk1)
   | (with_reducible refine qez (by kernel_rfl) _ _ rfl B rfl G hb _ underlying74 (by kernel_rfl) hzv ?_)
   | (go_at_call 37; (with_reducible refine (hfd _ hk).mono ?_); rintro e w2 ⟨rfl, hb2⟩; replace hb := hb.next hb2; replace hk := btz hk hb2)
   | ((with_reducible refine qaz rfl _ _ _ rfl R rfl C rfl zC hR (qfz hz) (qmz.trans hz.symm) h1c ?_); intro W4 hR4 o4; have c1' := (hR4.cell 1).trans c1; have c3' := (hR4.cell 3).trans c3))
  go_ret
  exact ⟨rfl, o4.below _ _ (by have := hB.out; have := hB1.out; have := hb2.size; omega) hk⟩
def uYz (ro : Int) (o : Ob) (c : Int) : Bool := if o.id = ro then decide (c = 0) else decide (c = 1) || (decide (1 < c) && (o.fixed && !sngO o))
theorem lies_v {w : World} {t ke ro : Int} {ao : Option Addr} {n cap : Nat} {C : Array Value} {o : Ob} {c f : Int} (ho : ObD (LtN w) w C o) : Calls prog 97 #[.agg #[.int .i64 t, .int .u64 ke, .int .u64 ro, .slice ao n cap], .agg C, .agg #[.int .i64 c, .int .u64 f]] w fun e w' => e = .returned (.bool (uYz ro o c)) ∧ Below w.heap.size w w' := by
 have g2 : (#[.int .i64 t, .int .u64 ke, .int .u64 ro, .slice ao n cap] : Array Value)[2]? = some (.int .u64 ro) := rfl
 have e0 : (#[.int .i64 c, .int .u64 f] : Array Value)[0]? = some (.int .i64 c) := rfl
 have hsn := fun (W : World) (hk : Below w.heap.size w W) => xyz (ho.next hk)
 have hz := ho.size
 have c0 := ho.id
 have c4 := ho.fixed
 have hg : uYz ro o c = if o.id = ro then decide (c = 0) else decide (c = 1) || (decide (1 < c) && (o.fixed && !sngO o)) := rfl
 rw [hg]
 clear hg
 generalize (#[.int .i64 t, .int .u64 ke, .int .u64 ro, .slice ao n cap] : Array Value) = G at g2 ⊢
 generalize (#[.int .i64 c, .int .u64 f] : Array Value) = H at e0 ⊢
 clear ho
 generalize o.id = i at c0 ⊢
 generalize o.fixed = x at c4 ⊢
 generalize sngO o = s at hsn ⊢
 by_cases hi : i = ro
 ·subst hi
  go_enter func97, ntmps97
  go_wp2_with (first
   | (with_reducible refine qdz rfl 74 _ rfl G rfl ?_; intro B W hB hb hk)
   | (with_reducible refine qdz rfl 43 _ rfl C rfl ?_; intro B3 W3 hN3 hB3 hk3; replace hb := hb.next hk3; replace hk := btz hk hk3)
   | (with_reducible refine qdz rfl 126 _ rfl H rfl ?_; intro B4 W4 hN4 hB4 hk4; replace hb := hb.next hk4; replace hB3 := hB3.next hk4; replace hk := btz hk hk4; replace g2 := (hb.cell 2).trans g2; replace c0 := (hB3.cell 0).trans c0; replace c4 := (hB3.cell 4).trans c4; replace e0 := (hB4.cell 0).trans e0)
   | (go_at_call 42; (with_reducible refine (hsn _ hk).mono ?_); rintro e w2 ⟨rfl, hb2⟩; replace hk := btz hk hb2))
  go_ret
  exact ⟨rfl, hk⟩
 ·have hib : (i == ro) = false := by simpa using hi
  rw [if_neg hi]
  by_cases h1 : c = 1
  ·subst h1
   go_enter func97, ntmps97
   go_wp2_with (first
    | (with_reducible refine qdz rfl 74 _ rfl G rfl ?_; intro B W hB hb hk)
    | (with_reducible refine qdz rfl 43 _ rfl C rfl ?_; intro B3 W3 hN3 hB3 hk3; replace hb := hb.next hk3; replace hk := btz hk hk3)
    | (with_reducible refine qdz rfl 126 _ rfl H rfl ?_; intro B4 W4 hN4 hB4 hk4; replace hb := hb.next hk4; replace hB3 := hB3.next hk4; replace hk := btz hk hk4; replace g2 := (hb.cell 2).trans g2; replace c0 := (hB3.cell 0).trans c0; replace c4 := (hB3.cell 4).trans c4; replace e0 := (hB4.cell 0).trans e0)
    | (go_at_call 42; (with_reducible refine (hsn _ hk).mono ?_); rintro e w2 ⟨rfl, hb2⟩; replace hk := btz hk hb2))
   go_ret
   exact ⟨rfl, hk⟩
  ·have h1b : (c == 1) = false := by simpa using h1
   rw [decide_eq_false h1, Bool.false_or]
   by_cases h2 : 1 < c
   ·rw [decide_eq_true h2, Bool.true_and]
    cases x with
    | false =>
     go_enter func97, ntmps97
     go_wp2_with (first
      | (with_reducible refine qdz rfl 74 _ rfl G rfl ?_; intro B W hB hb hk)
      | (with_reducible refine qdz rfl 43 _ rfl C rfl ?_; intro B3 W3 hN3 hB3 hk3; replace hb := hb.next hk3; replace hk := btz hk hk3)
      | (with_reducible refine qdz rfl 126 _ rfl H rfl ?_; intro B4 W4 hN4 hB4 hk4; replace hb := hb.next hk4; replace hB3 := hB3.next hk4; replace hk := btz hk hk4; replace g2 := (hb.cell 2).trans g2; replace c0 := (hB3.cell 0).trans c0; replace c4 := (hB3.cell 4).trans c4; replace e0 := (hB4.cell 0).trans e0)
      | (go_at_call 42; (with_reducible refine (hsn _ hk).mono ?_); rintro e w2 ⟨rfl, hb2⟩; replace hk := btz hk hb2))
     go_ret
     exact ⟨rfl, hk⟩
    | true =>
     go_enter func97, ntmps97
     go_wp2_with (first
      | (with_reducible refine qdz rfl 74 _ rfl G rfl ?_; intro B W hB hb hk)
      | (with_reducible refine qdz rfl 43 _ rfl C rfl ?_; intro B3 W3 hN3 hB3 hk3; replace hb := hb.next hk3; replace hk := btz hk hk3)
      | (with_reducible refine qdz rfl 126 _ rfl H rfl ?_; intro B4 W4 hN4 hB4 hk4; replace hb := hb.next hk4; replace hB3 := hB3.next hk4; replace hk := btz hk hk4; replace g2 := (hb.cell 2).trans g2; replace c0 := (hB3.cell 0).trans c0; replace c4 := (hB3.cell 4).trans c4; replace e0 := (hB4.cell 0).trans e0)
      | (with_reducible refine qez (by kernel_rfl) _ _ rfl B3 rfl C hB3 _ underlying43 (by kernel_rfl) (qfz hz) ?_)
      | (go_at_call 42; (with_reducible refine (hsn _ hk).mono ?_); rintro e w2 ⟨rfl, hb2⟩; replace hk := btz hk hb2))
     go_ret
     exact ⟨rfl, hk⟩
   ·rw [decide_eq_false h2, Bool.false_and]
    go_enter func97, ntmps97
    go_wp2_with (first
     | (with_reducible refine qdz rfl 74 _ rfl G rfl ?_; intro B W hB hb hk)
     | (with_reducible refine qdz rfl 43 _ rfl C rfl ?_; intro B3 W3 hN3 hB3 hk3; replace hb := hb.next hk3; replace hk := btz hk hk3)
     | (with_reducible refine qdz rfl 126 _ rfl H rfl ?_; intro B4 W4 hN4 hB4 hk4; replace hb := hb.next hk4; replace hB3 := hB3.next hk4; replace hk := btz hk hk4; replace g2 := (hb.cell 2).trans g2; replace c0 := (hB3.cell 0).trans c0; replace c4 := (hB3.cell 4).trans c4; replace e0 := (hB4.cell 0).trans e0)
     | (go_at_call 42; (with_reducible refine (hsn _ hk).mono ?_); rintro e w2 ⟨rfl, hb2⟩; replace hk := btz hk hb2))
    go_ret
    exact ⟨rfl, hk⟩
end
end Go.Proofs.YtklnneiblmakmaaGreat
