/-
 PROVED HERE: what slices.Delete of one word does with a row of the call's own (a contract over this translation); what slic. What is asked stands at each.
-/
import Derived.Test.YtobcdaaghdljbaaY26
namespace Go.Proofs.Ytobcdaaghdljbaa
set_option maxRecDepth 100000
set_option maxHeartbeats 8000000
open Go.RowKit Go.Shelf
set_option linter.unusedVariables false
attribute [local go_sem] Oper.semAt_some

theorem wsl3 {g r n cap : Nat} (h : r < n) (hn : n ≤ cap) (W : World) : (Instr.sliceAt 28 (.slice (some ⟨g, 0, none⟩) n cap) (some (.int .i64 (r : Int))) (some (.int .i64 ((r : Int) + 1))) (some (.int .i64 (n : Int)))).run Try.prog W = .ok (.slice (some ⟨g, r, none⟩) 1 (n - r)) W := by
 unfold Instr.sliceAt Instr.slice Instr.sliceBounds
 simp [go_sem, run_underlying Try.underlying28, Result.andThen]
 rw [if_pos hn]
 dsimp only
 rw [if_pos ⟨by omega, by omega⟩]
 dsimp only
 rw [if_pos (by omega)]
 dsimp only
 rw [if_neg (by omega), show r + 1 - r = 1 by omega]
theorem wslTo {g k n cap : Nat} (hk : k ≤ n) (hn : n ≤ cap) (W : World) : (Instr.sliceAt 28 (.slice (some ⟨g, 0, none⟩) n cap) none (some (.int .i64 (k : Int))) none).run Try.prog W = .ok (.slice (some ⟨g, 0, none⟩) k cap) W := by
 have h2 : k ≤ cap := by omega
 unfold Instr.sliceAt Instr.slice Instr.sliceBounds
 simp [go_sem, run_underlying Try.underlying28, Result.andThen, h2]
theorem wslFrom {g k n cap : Nat} (hk : k ≤ n) (hn : n ≤ cap) : ∃ a' : Addr, (k < n → a' = ⟨g, k, none⟩) ∧ ∀ W, (Instr.sliceAt 28 (.slice (some ⟨g, 0, none⟩) n cap) (some (.int .i64 (k : Int))) none none).run Try.prog W = .ok (.slice (some a') (n - k) (cap - k)) W := by
 by_cases hc : cap = k
 ·refine ⟨⟨g, 0, none⟩, fun q => by omega, fun W => ?_⟩
  subst hc
  unfold Instr.sliceAt Instr.slice Instr.sliceBounds
  simp [go_sem, run_underlying Try.underlying28, Result.andThen, hk]
 ·refine ⟨Addr.add ⟨g, 0, none⟩ k, fun q => ?_, fun W => ?_⟩
  ·unfold Addr.add; split
   ·rename_i h0; rw [h0]
   ·simp
  ·unfold Instr.sliceAt Instr.slice Instr.sliceBounds
   simp [go_sem, run_underlying Try.underlying28, Result.andThen, hk, hc]
theorem wslTail {g m n cap : Nat} (h : m + 1 = n) (hn : n ≤ cap) (W : World) : (Instr.sliceAt 28 (.slice (some ⟨g, 0, none⟩) m cap) (some (.int .i64 (m : Int))) (some (.int .i64 (n : Int))) none).run Try.prog W = .ok (.slice (some ⟨g, m, none⟩) 1 (cap - m)) W := by
 unfold Instr.sliceAt Instr.slice Instr.sliceBounds
 simp [go_sem, run_underlying Try.underlying28, Result.andThen]
 rw [if_pos hn]
 dsimp only
 rw [if_pos (by omega)]
 dsimp only
 rw [if_neg (by omega), show n - m = 1 by omega]
def appOf (ops : Array Oper) (o : Oper) (a : Act) : Option (TypeId × TypeId × Value × Value × Option Tmp) :=
 if Region.wanted o (yielded ops a.tmps) then
  match o.op with
  | .call c =>
   match c.callee with
   | .builtin b =>
    match b with
    | .append =>
     match c.args.toList, c.argTypes.toList with
     | [x, y], [t, t'] => if t' = t then some (t, o.type, a.eval x, a.eval y, o.dst) else none
     | _, _ => none
    | _ => none
   | _ => none
  | _ => none
 else none
theorem wpOp_appL {ops : Array Oper} {Q : Exit → Act → World → Prop} {w W : World} {a : Act} {i : Nat} {t ty : TypeId} {x y v : Value} {d : Option Tmp} {K : Act → World → Prop} (hi : (ops[i]?).bind (fun o => appOf ops o a) = some (t, ty, x, y, d)) (hr : (Builtin.append_ #[t, t] ty #[x, y]).run Try.prog w = .ok v W)
  (h : K (a.put d v) W) : wpOp Try.prog ops Q i K a w := by
 cases ho : ops[i]? with
 | none => rw [ho] at hi; cases hi
 | some o =>
  rw [ho] at hi
  have hi' : appOf ops o a = _ := hi
  unfold appOf at hi'
  split at hi'
  ·rename_i hw
   split at hi'
   ·rename_i c hop
    split at hi'
    ·rename_i b hb
     split at hi'
     ·split at hi'
      ·rename_i x' y' t1 t2 hA hT
       split at hi'
       ·rename_i e
        subst e
        cases hi'
        obtain ⟨ce, ar, at_⟩ := c
        obtain ⟨arl⟩ := ar
        obtain ⟨atl⟩ := at_
        dsimp only at hA hT hb
        subst hA hT hb
        unfold wpOp
        simp only [ho, hw, if_true]
        left
        unfold Oper.wp
        simp [execOp, hop, resolve, invoke, builtin, hr, Result.andThen]
        exact h
       ·cases hi'
      ·cases hi'
     ·cases hi'
    ·cases hi'
   ·cases hi'
  ·cases hi'
theorem wpList_sl {ops : Array Oper} {Q : Exit → Act → World → Prop} {w : World} {a : Act} {op : Oper} {rest : List Oper} (hw : Region.wanted op (yielded ops a.tmps) = true) (t : TypeId) (x : Operand) (lo hi mx : Option Operand) (ho : op.op = .slice t x lo hi mx) (u v : Value) (l1 l2 l3 : Option Value) (h0 : a.eval x = u) (h1 : lo.map a.eval = l1) (h2 : hi.map a.eval = l2) (h3 : mx.map a.eval = l3)
  (hr : (Instr.sliceAt t u l1 l2 l3).run Try.prog w = .ok v w) (h : wpList Try.prog ops Q rest (a.put op.dst v) w) : wpList Try.prog ops Q (op :: rest) a w := by
 subst h0 h1 h2 h3
 refine wpList_val hw ?_ h
 unfold execOp
 simp [ho, hr, Result.andThen]
end Go.Proofs.Ytobcdaaghdljbaa
namespace Go.Proofs.Ytobcdaaghdljbaa
set_option maxRecDepth 100000
set_option maxHeartbeats 8000000
open Go.RowKit Go.Shelf
set_option linter.unusedVariables false
attribute [local go_sem] Oper.semAt_some

theorem oth_drew (g : Nat) (w : World) : Oth g w w.drew := ⟨rfl, fun _ _ => rfl, fun _ _ _ h => h.drew⟩
theorem run_clear1 {w : World} {g m c : Nat} {cur : Array Value} {ty : TypeId} (hB : Blk w g cur 22) (hm : m < cur.size) : (Builtin.clear_ #[28] ty #[.slice (some ⟨g, m, none⟩) 1 c]).run Try.prog w = .ok (.tuple #[]) (w.setCells g m [.int .u64 0]) := by
 have hst := run_storeCells_cells (P := Try.prog) g m [.int .u64 0] 0 w (fun j hj => by rw [hB.cell, Array.getElem?_eq_getElem (by simp at hj; omega)]; rfl) (fun j hj => hB.frozen _) (fun u hu => by rw [List.mem_singleton] at hu; rw [hu]; rfl)
 unfold Builtin.clear_
 simp [run_underlying Try.underlying28, Result.andThen, Try.zeroValue22]
 rw [show (Builtin.zeroCells (Value.int IntKind.u64 0).cells 1).toList = [.int .u64 0] by simp [Builtin.zeroCells, Value.cells], hst]
 rfl
theorem wpList_clr {ops : Array Oper} {Q : Exit → Act → World → Prop} {w W : World} {a : Act} {op : Oper} {rest : List Oper} (hw : Region.wanted op (yielded ops a.tmps) = true) (t : TypeId) (x : Operand) (ho : op.op = .call { callee := .builtin .clear, args := #[x], argTypes := #[t] }) (u : Value) (h0 : a.eval x = u) {v : Value}
  (hr : (Builtin.clear_ #[t] op.type #[u]).run Try.prog w = .ok v W) (h : wpList Try.prog ops Q rest (a.put op.dst v) W) : wpList Try.prog ops Q (op :: rest) a w := by
 subst h0
 refine wpList_wanted hw ?_
 unfold Oper.wp
 simp [execOp, ho, resolve, invoke, builtin, hr, Result.andThen]
 exact h
theorem delete_v {w : World} {g n cap r : Nat} {L : List Int} {cur : Array Value} (hB : Blk w g cur 22) (hz : cur.size = cap) (hn : L.length = n) (hnc : n ≤ cap) (hcm : cap ≤ 9223372036854775807) (hc : ∀ j, j < n → cur[j]? = some (.int .u64 (L.getD j 0))) (hr : r < n) : Calls Try.prog 22 #[.slice (some ⟨g, 0, none⟩) n cap, .int .i64 (r : Int), .int .i64 ((r : Int) + 1)] w fun e w' => e = .returned (.slice (some ⟨g, 0, none⟩) (n - 1) cap) ∧ (∃ cur', Blk w' g cur' 22 ∧ cur'.size = cap ∧ ∀ j, j < n - 1 → cur'[j]? = some (.int .u64 ((L.eraseIdx r).getD j 0))) ∧ Oth g w w' := by
 have hmx : Try.prog.follows .mixedOrders = true := by kernel_rfl
 obtain ⟨i0, hi0, hz0, hz1, hz2⟩ := info_parts infoW
 have hne : ((r : Int) == (r : Int) + 1) = false := by rw [beq_eq_false_iff_ne]; omega
 have hs3 := fun W => wsl3 (g := g) hr hnc W
 have hto := fun W => wslTo (g := g) (k := r) (n := n) (cap := cap) (by omega) hnc W
 obtain ⟨a', ha', hfr⟩ := wslFrom (g := g) (k := r + 1) (n := n) (cap := cap) (by omega) hnc
 have hk1 : ((r + 1 : Nat) : Int) = (r : Int) + 1 := by omega
 rw [hk1] at hfr
 obtain ⟨N, hN⟩ : ∃ N : List Value, N = wordsC (L.drop (r + 1)) := ⟨_, rfl⟩
 have hNl : N.length = n - (r + 1) := by rw [hN]; simp [wordsC, hn]
 have hN1 : ∀ u ∈ N, u.oneCell' = true := by rw [hN]; exact wordsC_one _
 have hNg : ∀ j, j < n - (r + 1) → N[j]? = some (.int .u64 (L.getD (r + 1 + j) 0)) := fun j hj => by
  rw [hN]
  unfold wordsC
  rw [List.getElem?_map, List.getElem?_drop, List.getElem?_eq_getElem (by omega), List.getD_eq_getElem?_getD, List.getElem?_eq_getElem (by omega)]
  rfl
 have hNc : ∀ V : World, Blk V g cur 22 → ∀ j u, N[j]? = some u → V.cell? (a'.add j) = some u := fun V hV j u hj => by
  have hlt := (List.getElem?_eq_some_iff.1 hj).1
  rw [hNl] at hlt
  rw [hNg j hlt] at hj
  cases hj
  rw [ha' (by omega)]
  have e : Addr.add ⟨g, r + 1, none⟩ j = ⟨g, r + 1 + j, none⟩ := by
   unfold Addr.add; split
   ·rename_i h0; rw [h0]
   ·rfl
  rw [e, hV.cell, hc _ (by omega)]
 clear hN
 have htl := fun W => wslTail (g := g) (m := n - 1) (n := n) (cap := cap) (by omega) hnc W
 go_enter Try.func22, Try.ntmps22
 go_upto_region 5 with (first
  | go_skip
  | (with_reducible refine wpList_sl (by kernel_rfl) _ _ _ _ _ rfl _ _ _ _ _ rfl rfl rfl rfl (hs3 _) ?_))
 refine PgM.region_out (S := fun _ => True) hmx trivial (fun hS => ?_)
 have hB5 : Blk w.drew g cur 22 := hB.next (Below.refl _ _).drew
 have o5 := oth_drew g w
 generalize w.drew = v5 at hS hB5 o5 ⊢
 refine wpAnyH_sym (by kernel_rfl) (fun _ _ _ _ _ h => h) hS [(0, none), (1, none), (2, some (.slice (some ⟨g, 0, none⟩) r cap)), (3, none), (4, none), (5, some (.slice (some a') (n - (r + 1)) (cap - (r + 1))))] (l' := #[true, true, true, true, true, true, false, false]) (a' := { tmps := #[.slice (some ⟨g, 0, none⟩) n cap, .int .i64 (r : Int), .int .i64 ((r : Int) + 1), ud, ud, undef, .slice none 0 0, .int .i64 (n : Int), .slice (some ⟨g, 0, none⟩) n cap, .int .i64 (r : Int), .int .i64 ((r : Int) + 1), .slice (some ⟨g, 0, none⟩) n cap, .int .i64 (n : Int), .slice (some ⟨g, r, none⟩) 1 (n - r), .int .i64 (r : Int), .int .i64 ((r : Int) + 1), .bool false, undef, .slice (some ⟨g, 0, none⟩) n cap, .int .i64 (n : Int), .slice (some ⟨g, 0, none⟩) n cap, .int .i64 (r : Int), .slice (some ⟨g, 0, none⟩) r cap, .slice (some ⟨g, 0, none⟩) n cap, .int .i64 ((r : Int) + 1), .slice (some a') (n - (r + 1)) (cap - (r + 1)), ud, ud, ud, ud, ud, ud, undef], defers := [] }) (obs := [.sl 28 (.slice (some ⟨g, 0, none⟩) n cap) (none) (some (.int .i64 (r : Int))) (none) (.slice (some ⟨g, 0, none⟩) r cap), .sl 28 (.slice (some ⟨g, 0, none⟩) n cap) (some (.int .i64 ((r : Int) + 1))) (none) (none) (.slice (some a') (n - (r + 1)) (cap - (r + 1)))]) (n := 2) (by kernel_rfl) (by kernel_rfl) ⟨fun W _ => hto W, fun W _ => hfr W, trivial⟩ ?_
 have hrun := run_append_room_cells (P := Try.prog) (w := v5) 28 28 22 i0 Try.underlying28 hi0 g 0 r cap a' (n - (r + 1)) (cap - (r + 1)) N (by rw [hNl, hz1, Nat.mul_one]) (fun j u hj => hNc v5 hB5 j u hj) hN1 (by omega) (fun j hj => by rw [hz1, Nat.zero_add, Nat.mul_one, hB5.cell, Array.getElem?_eq_getElem (by rw [hNl] at hj; omega)]; rfl) (fun j hj => hB5.frozen _)
 rw [hz1, Nat.zero_add, Nat.mul_one, show r + (n - (r + 1)) = n - 1 by omega] at hrun
 refine wpAnyH_single (i := 6) (n := 1) rfl (by kernel_rfl) ?_
 refine wpOp_appL (t := 28) (ty := 28) (x := .slice (some ⟨g, 0, none⟩) r cap) (y := .slice (some a') (n - (r + 1)) (cap - (r + 1))) (d := some 26) (by kernel_rfl) hrun ?_
 refine ⟨trivial, ?_⟩
 refine wpAnyH_sym (by kernel_rfl) (fun _ _ _ _ _ h => h) trivial [(7, none)] (l' := #[true, true, true, true, true, true, true, true]) (a' := { tmps := #[.slice (some ⟨g, 0, none⟩) (n - 1) cap, .int .i64 (r : Int), .int .i64 ((r : Int) + 1), ud, ud, undef, .slice none 0 0, .int .i64 (n : Int), .slice (some ⟨g, 0, none⟩) n cap, .int .i64 (r : Int), .int .i64 ((r : Int) + 1), .slice (some ⟨g, 0, none⟩) n cap, .int .i64 (n : Int), .slice (some ⟨g, r, none⟩) 1 (n - r), .int .i64 (r : Int), .int .i64 ((r : Int) + 1), .bool false, undef, .slice (some ⟨g, 0, none⟩) n cap, .int .i64 (n : Int), .slice (some ⟨g, 0, none⟩) n cap, .int .i64 (r : Int), .slice (some ⟨g, 0, none⟩) r cap, .slice (some ⟨g, 0, none⟩) n cap, .int .i64 ((r : Int) + 1), .slice (some a') (n - (r + 1)) (cap - (r + 1)), .slice (some ⟨g, 0, none⟩) (n - 1) cap, ud, ud, ud, ud, ud, undef], defers := [] }) (obs := []) (n := 0) (by kernel_rfl) (by kernel_rfl) trivial ?_
 refine wpAnyH_done (by kernel_rfl) ?_ _
 have hz5 : r + N.toArray.size ≤ cur.size := by simp [hNl]; omega
 have hp5 := Blk.part hB5 hz5
 have o6 := o5.trans (Oth.setCells g N v5 r)
 have hp1 : ∀ j, j < n - 1 → (cur.extract 0 r ++ N.toArray ++ cur.extract (r + N.toArray.size) cur.size)[j]? = some (.int .u64 ((L.eraseIdx r).getD j 0)) := fun j hj => by
  have he : (L.eraseIdx r).getD j 0 = if j < r then L.getD j 0 else L.getD (j + 1) 0 := by
   rw [List.getD_eq_getElem?_getD, List.getElem?_eraseIdx]
   by_cases q : j < r
   ·rw [if_pos q, if_pos q, List.getD_eq_getElem?_getD]
   ·rw [if_neg q, if_neg q, List.getD_eq_getElem?_getD]
  rw [he]
  by_cases q : j < r
  ·rw [if_pos q, part_out hz5 (.inl q)]
   exact hc j (by omega)
  ·rw [if_neg q]
   have h8 := hNg (j - r) (by omega)
   have h9 := part_in hz5 (show N.toArray[j - r]? = some _ by rw [List.getElem?_toArray]; exact h8)
   rw [show r + (j - r) = j by omega, show r + 1 + (j - r) = j + 1 by omega] at h9
   exact h9
 have hps := part_size hz5
 rw [show N.toArray.toList = N from rfl] at hp5
 generalize cur.extract 0 r ++ N.toArray ++ cur.extract (r + N.toArray.size) cur.size = C1 at hp5 hp1 hps
 generalize v5.setCells g r N = W6 at hp5 o6 ⊢
 have hcl := fun ty => run_clear1 (ty := ty) (m := n - 1) (c := cap - (n - 1)) hp5 (by rw [hps, hz]; omega)
 go_wp2_with (first
  | go_skip
  | (with_reducible refine wpList_sl (by kernel_rfl) _ _ _ _ _ rfl _ _ _ _ _ rfl rfl rfl rfl (htl _) ?_)
  | (at_builtin; refine wpList_clr (by kernel_rfl) _ _ rfl _ rfl (hcl _) ?_))
 go_ret
 have hz9 : n - 1 + (#[.int .u64 0] : Array Value).size ≤ C1.size := by rw [hps, hz]; show n - 1 + 1 ≤ cap; omega
 refine ⟨rfl, ⟨_, Blk.part hp5 hz9, (part_size hz9).trans (hps.trans hz), fun j hj => ?_⟩, o6.trans (Oth.setCells g _ W6 _)⟩
 rw [part_out hz9 (.inl hj)]
 exact hp1 j hj
end Go.Proofs.Ytobcdaaghdljbaa
namespace Go.Proofs.Ytobcdaaghdljbaa
set_option maxRecDepth 100000
set_option maxHeartbeats 8000000
open Go.RowKit Go.Shelf
set_option linter.unusedVariables false
attribute [local go_sem] Oper.semAt_some

theorem oat_set {Y : List Ob} {x : Ob} {i k : Nat} (hi : i < Y.length) : oat (Y.set i x) k = if i = k then x else oat Y k := by
 unfold oat
 rw [List.getD_eq_getElem?_getD, List.getElem?_set]
 by_cases e : i = k
 ·subst e; rw [if_pos rfl, if_pos rfl, if_pos hi]; rfl
 ·rw [if_neg e, if_neg e, List.getD_eq_getElem?_getD]
theorem RowG.set {F : Nat → Prop} {g R cp : Nat} {w w' : World} {Y : List Ob} {cur C : Array Value} {x : Ob} {i : Nat} (h : RowG F g R cp w Y cur) (hi : i < Y.length) (hc : Y.length ≤ cp) (hC : ObD (Ey F g R w) w C x) (k : Oth g w w') (hb : Blk w' g (cur.extract 0 (i * 51) ++ C ++ cur.extract (i * 51 + C.size) cur.size) 54) : RowG F g R cp w' (Y.set i x) (cur.extract 0 (i * 51) ++ C ++ cur.extract (i * 51 + C.size) cur.size) := by
 have hz := hC.size
 have hle : i * 51 + C.size ≤ cur.size := by rw [h.2.1, hz]; have : (i + 1) * 51 ≤ cp * 51 := Nat.mul_le_mul_right _ (by omega); omega
 refine ⟨hb, (part_size hle).trans h.2.1, fun i' hi' => ?_⟩
 rw [oat_set hi]
 by_cases e : i = i'
 ·subst e
  rw [if_pos rfl]
  exact ⟨C, (hC.laterK fun b hb => k.block b hb.2.2.1).wide fun b hb => ⟨by rw [k.size]; exact hb.1, hb.2⟩, fun j v hv => part_in hle hv⟩
 ·rw [if_neg e]
  obtain ⟨C', c1, c2⟩ := h.2.2 i' (by rw [List.length_set] at hi'; exact hi')
  refine ⟨C', (c1.laterK fun b hb => k.block b hb.2.2.1).wide fun b hb => ⟨by rw [k.size]; exact hb.1, hb.2⟩, fun j v hv => ?_⟩
  have hj : j < 51 := by rw [← c1.size]; exact (Array.getElem?_eq_some_iff.1 hv).1
  rw [part_out hle (by omega)]
  exact c2 j v hv
theorem RowG.range {F : Nat → Prop} {g R cp : Nat} {w : World} {Y : List Ob} {cur C : Array Value} {i : Nat} (h : RowG F g R cp w Y cur) (c : ∀ j v, C[j]? = some v → cur[i * 51 + j]? = some v) : w.rangeAt g (i * 51) C.toList := fun j v hv => by
 rw [h.1.cell]
 exact c j v (by simpa using hv)
theorem OwnR.later {F : Nat → Prop} {N : Nat} {w w' : World} {ao : Option Addr} {n cap : Nat} {Y : List Ob} (h : OwnR F N w ao n cap Y) (k : Below w.heap.size w w') : OwnR F N w' ao n cap Y := by
 rcases h with h | ⟨g, R, cur, e, hn, hc, hm, hg, hr⟩
 ·exact .inl h
 ·exact .inr ⟨g, R, cur, e, hn, hc, hm, hg, hr.next k⟩
theorem run_clearO {w : World} {g o m c : Nat} {cur : Array Value} (hB : Blk w g cur 54) (hm : 0 < m) (hs : o + m * 51 ≤ cur.size) : ∃ zs : Array Value, zs.size = m * 51 ∧ ∀ ty, (Builtin.clear_ #[23] ty #[.slice (some ⟨g, o, none⟩) m c]).run Try.prog w = .ok (.tuple #[]) (w.setCells g o zs.toList) := by
 have hz : (Builtin.zeroCells zC m).size = m * 51 := by rw [size_zeroCells, zC_size]
 have h1 : ∀ u ∈ (Builtin.zeroCells zC m).toList, u.oneCell' = true := fun u hu => by
  unfold Builtin.zeroCells at hu
  rw [Array.mem_toList_iff, Array.mem_map] at hu
  obtain ⟨i, _, rfl⟩ := hu
  have hlt : i % zC.size < zC.size := Nat.mod_lt _ (by rw [zC_size]; decide)
  refine all_get (zC_d (fun _ => True) w).one (j := i % zC.size) ?_
  rw [getElem!_pos zC _ hlt]
  exact Array.getElem?_eq_getElem hlt
 have hst := run_storeCells_cells (P := Try.prog) g o (Builtin.zeroCells zC m).toList 0 w (fun j hj => by
  have : j < m * 51 := by rw [← hz]; simpa using hj
  rw [hB.cell, Array.getElem?_eq_getElem (by omega)]; rfl) (fun j hj => hB.frozen _) h1
 refine ⟨_, hz, fun ty => ?_⟩
 obtain ⟨m', rfl⟩ : ∃ m', m = m' + 1 := ⟨m - 1, by omega⟩
 unfold Builtin.clear_
 simp [run_underlying Try.underlying23, Result.andThen]
 rw [show ∀ x : Array Value, (Value.agg x).cells = x from fun _ => rfl]
 erw [hst]
 rfl
theorem oslFrom {g k n cap : Nat} (hk : k < n) (hn : n ≤ cap) (W : World) : (Instr.sliceAt 23 (.slice (some ⟨g, 0, none⟩) n cap) (some (.int .i64 (k : Int))) none none).run Try.prog W = .ok (.slice (some ⟨g, k * 51, none⟩) (n - k) (cap - k)) W := by
 have hc : ¬ cap = k := by omega
 have hk' : k ≤ n := by omega
 unfold Instr.sliceAt Instr.slice Instr.sliceBounds
 simp [go_sem, run_underlying Try.underlying23, Result.andThen, hk', hc]
theorem deleteF_v {w : World} {P N : Nat} {al ao : Option Addr} {nl cl n cap : Nat} {L : List Int} {Y : List Ob} {F : Nat → Prop} (hO : OwnR F N w ao n cap Y) (hn : n ≤ 4096) (hNw : N ≤ w.heap.size) (hPN : P < N) (hP : Blk w P #[.slice al nl cl] 28) (h : CtD (fun b => b < N) w al nl cl L) (hs : L.Pairwise (· < ·)) (hn16 : nl ≤ 4096) : Calls Try.prog 24 #[.slice ao n cap, .func (.func 25) #[] #[.pointer (some ⟨P, 0, none⟩)]] w fun e w' => ∃ n', e = .returned (.slice ao n' cap) ∧ OwnR F N w' ao n' cap (Y.filter (stB0 L)) ∧ Below N w w' := by
 have hY : Obs w ao n cap Y := hO.obs.wide (fun b hb => hb.2) (fun b hb => hb.2)
 have hYn : Y.length = n := hY.1
 have hix := indexF_v hY hP (h.wide fun b hb => Nat.lt_of_lt_of_le hb hNw) hs hn16
 go_enter Try.func24, Try.ntmps24
 go_upto_region 2 with (go_at_call 51; (with_reducible refine hix.mono ?_); rintro e w1 ⟨r, rfl, hr, hb1⟩)
 rcases hr.out with ⟨rfl, hall⟩ | ⟨k, rfl, hkn, hlo, hkk⟩
 ·have hfe : Y.filter (stB0 L) = Y := List.filter_eq_self.2 fun x hx => by
   obtain ⟨j, hj, e⟩ := List.mem_iff_getElem.1 hx
   have := hall j (by omega)
   rw [oat_get hj, e] at this
   exact this
  go_wp2
  go_ret
  exact ⟨n, rfl, hO.later hb1, hb1.mono hNw⟩
 ·have hk1 : ((k : Int) == -1) = false := by rw [beq_eq_false_iff_ne]; omega
  rcases hO with ⟨rfl, _, rfl, _⟩ | ⟨g, R, cur, rfl, hnY, hnc, hcm, hNg, hrow⟩
  ·omega
  clear hnY
  have hrow1 := hrow.next hb1
  have hst1 : Hid (Y.take k = (Y.take (k + 1)).filter (stB0 L) ∧ Y.drop (k + 1) = Y.drop (k + 1)) := by
   refine (⟨?_, rfl⟩ : _ ∧ _)
   have hkX : k < Y.length := by omega
   rw [List.take_add_one, List.getElem?_eq_getElem hkX, Option.toList_some, List.filter_append]
   have e : oat Y k = Y[k] := oat_get hkX
   rw [e] at hkk
   have h2 : [Y[k]].filter (stB0 L) = [] := by simp [hkk]
   rw [h2, List.append_nil]
   symm
   refine List.filter_eq_self.2 fun x hx => ?_
   obtain ⟨j, hj, ej⟩ := List.mem_iff_getElem.1 hx
   rw [List.length_take] at hj
   have := hlo j (by omega)
   rw [oat_get (by omega)] at this
   rw [List.getElem_take] at ej
   rwa [ej] at this
  have hb1N := hb1.mono hNw
  replace hYn : Hid (Y.length = n) := hYn
  clear hr hlo hkk hix hrow hY
  go_wp2
  go_loopw [5, 6] (fun vi vj wr => ∃ (i j : Nat) (Z : List Ob) (cur : Array Value), i < j ∧ j ≤ n ∧ vi = .int .i64 i ∧ vj = .int .i64 j ∧ RowG F g R cap wr Z cur ∧ Z.length = n ∧ Hid (Z.take i = (Y.take j).filter (stB0 L) ∧ Z.drop j = Y.drop j) ∧ Below N w wr) (fun _ vj _ => n - (intOf vj).toNat)
  case atStart => exact ⟨k, k + 1, Y, cur, by omega, by omega, rfl, by go_num, hrow1, hYn.out, ⟨hst1.out.1, rfl⟩, hb1N⟩
  case round =>
   clear hst1 hrow1 hb1 hb1N hkn hk1
   obtain ⟨i, j, Z, cur, hij, hjn1, rfl, rfl, hrow, hZn, hst, hkw⟩ := hrel
   by_cases hjn : j < n
   ·have hjn' : (j : Int) < n := by omega
    have hin' : (i : Int) < n := by omega
    obtain ⟨C, hC, hCc⟩ := hrow.2.2 j (by omega)
    have hz := hC.size
    have hr := hrow.range hCc
    have hzj : oat Z j = oat Y j := by
     have := congrArg (fun l => oat l 0) hst.out.2
     simp only [oat_drop, Nat.add_zero] at this
     exact this
    rw [hzj] at hC
    have hPw : Blk wr P #[.slice al nl cl] 28 := (hkw.block P hPN).trans hP
    have hLw := h.laterK fun b hb => hkw.block b hb
    have hgl := hrow.1.lt
    have hNr : N ≤ wr.heap.size := Nat.le_trans hNw hkw.size
    have htk : Y.take (j + 1) = Y.take j ++ [oat Y j] := by
     have := hYn.out
     rw [List.take_add_one, List.getElem?_eq_getElem (by omega), Option.toList_some, oat_get (by omega)]
    have hdr : Z.drop (j + 1) = Y.drop (j + 1) := by
     have := congrArg (fun l => l.drop 1) hst.out.2
     simp only [List.drop_drop] at this
     exact this
    by_cases hm : (oat Y j).id ∈ L
    ·have hdc : Hid (decide ((oat Y j).id ∈ L) = true) := decide_eq_true hm
     have hst2 : Hid (Z.take i = (Y.take (j + 1)).filter (stB0 L) ∧ Z.drop (j + 1) = Y.drop (j + 1)) := by
      refine (⟨?_, hdr⟩ : _ ∧ _)
      have h2 : [oat Y j].filter (stB0 L) = [] := by simp [stB0, hm]
      rw [htk, List.filter_append, h2, List.append_nil]
      exact hst.out.1
     clear htk hdr
     go_wp2_with (first
      | (with_reducible refine wpList_loadm (by kernel_rfl) 54 _ rfl g _ rfl C hr _ Try.underlying54 (by kernel_rfl) (size40C hz) ?_)
      | ((with_reducible refine wpList_alloc rfl _ rfl zC zero40 ?_); intro Q W4 hN4 hQ hk4)
      | ((with_reducible refine wpList_store_blk rfl _ _ _ rfl Q rfl C rfl zC hQ (size40C hz) (zC_size.trans hz.symm) hC.one ?_); intro W5 hQ5 q5; have k5 : Below wr.heap.size wr W5 := q5.below _ _ (by have := hN4.out; omega) hk4; have hgo := goes_v (hPw.next k5) ((hC.wide (D' := LtN wr) fun b hb => hb.1).next k5) ((hLw.laterK fun b hb => k5.block b (Nat.lt_of_lt_of_le hb hNr)).wide fun b hb => Nat.lt_of_lt_of_le hb (Nat.le_trans hNr k5.size)) hs hn16; rw [hdc.out] at hgo)
      | (with_reducible refine wpList_loadb (by first | kernel_rfl | with_unfolding_all rfl) 54 _ rfl Q rfl C hQ5 _ Try.underlying54 (by kernel_rfl) (size40C hz) ?_)
      | (go_at_call 25; (with_reducible refine hgo.mono ?_); rintro e w6 ⟨rfl, hb6⟩; have hQ6 := hQ5.next hb6; have k6 := k5.trans (hb6.mono k5.size)))
     go_roundw
     case rel => exact ⟨i, j + 1, Z, cur, by omega, by omega, rfl, by go_num, hrow.next k6, hZn, hst2, hkw.trans (k6.mono hNr)⟩
     case measure => simp [intOf]; omega
    ·have hdc : Hid (decide ((oat Y j).id ∈ L) = false) := decide_eq_false hm
     have hle : i * 51 + C.size ≤ cur.size := by rw [hrow.2.1, hz]; have : (i + 1) * 51 ≤ cap * 51 := Nat.mul_le_mul_right _ (by omega); omega
     have hst2 : Hid ((Z.set i (oat Y j)).take (i + 1) = (Y.take (j + 1)).filter (stB0 L) ∧ (Z.set i (oat Y j)).drop (j + 1) = Y.drop (j + 1)) := by
      refine (⟨?_, ?_⟩ : _ ∧ _)
      ·have h2 : [oat Y j].filter (stB0 L) = [oat Y j] := by simp [stB0, hm]
       rw [htk, List.filter_append, h2, ← hst.out.1, List.take_add_one, List.getElem?_set, if_pos rfl, if_pos (by omega), Option.toList_some, List.take_set_of_le (Nat.le_refl i)]
      ·rw [List.drop_set_of_lt (by omega)]
       exact hdr
     clear htk hdr
     go_wp2_with (first
      | (with_reducible refine wpList_loadm (by kernel_rfl) 54 _ rfl g _ rfl C hr _ Try.underlying54 (by kernel_rfl) (size40C hz) ?_)
      | ((with_reducible refine wpList_alloc rfl _ rfl zC zero40 ?_); intro Q W4 hN4 hQ hk4)
      | ((with_reducible refine wpList_store_blk rfl _ _ _ rfl Q rfl C rfl zC hQ (size40C hz) (zC_size.trans hz.symm) hC.one ?_); intro W5 hQ5 q5; have k5 : Below wr.heap.size wr W5 := q5.below _ _ (by have := hN4.out; omega) hk4; have hgo := goes_v (hPw.next k5) ((hC.wide (D' := LtN wr) fun b hb => hb.1).next k5) ((hLw.laterK fun b hb => k5.block b (Nat.lt_of_lt_of_le hb hNr)).wide fun b hb => Nat.lt_of_lt_of_le hb (Nat.le_trans hNr k5.size)) hs hn16; rw [hdc.out] at hgo)
      | (with_reducible refine wpList_loadb (by first | kernel_rfl | with_unfolding_all rfl) 54 _ rfl Q rfl C hQ5 _ Try.underlying54 (by kernel_rfl) (size40C hz) ?_)
      | (go_at_call 25; (with_reducible refine hgo.mono ?_); rintro e w6 ⟨rfl, hb6⟩; have hQ6 := hQ5.next hb6; have k6 := k5.trans (hb6.mono k5.size); have hr6 := hrow.next k6; have hB6 := hr6.1)
      | (with_reducible refine wpList_loadb (by first | kernel_rfl | with_unfolding_all rfl) 54 _ rfl Q rfl C hQ6 _ Try.underlying54 (by kernel_rfl) (size40C hz) ?_)
      | ((with_reducible refine wpList_store_part rfl 54 _ _ rfl g (i * 51) rfl C rfl cur _ hB6 (size40C hz) hle hC.one ?_); intro W8 hb8 o8))
     have hrow8 := hr6.set (x := oat Y j) (by omega) (by omega) ((hC.laterK fun b hb => k6.block b hb.1).wide fun b hb => ⟨Nat.lt_of_lt_of_le hb.1 k6.size, hb.2⟩) o8 hb8
     go_roundw
     case rel => exact ⟨i + 1, j + 1, Z.set i (oat Y j), _, by omega, by omega, by go_num, by go_num, hrow8, by rw [List.length_set]; exact hZn, hst2, o8.below N w hNg (hkw.trans (k6.mono hNr))⟩
     case measure => simp [intOf]; omega
   ·obtain rfl : j = n := by omega
    have hcz := hrow.2.1
    have hBw := hrow.1
    have hm1 : (i + (j - i)) * 51 ≤ cap * 51 := Nat.mul_le_mul_right _ (by omega)
    have hsz : i * 51 + (j - i) * 51 ≤ cur.size := by rw [hcz, ← Nat.add_mul]; exact hm1
    have hfr := fun W => oslFrom (g := g) hij hnc W
    have hto := fun W => sliceO_to (ao := some ⟨g, 0, none⟩) (k := i) (n := j) (cap := cap) (by omega) hnc W
    obtain ⟨zs, hzs, hcl⟩ := run_clearO (c := cap - i) hBw (show 0 < j - i by omega) hsz
    go_wp2_with (first
     | (with_reducible refine wpList_sl (by kernel_rfl) _ _ _ _ _ rfl _ _ _ _ _ rfl rfl rfl rfl (hfr _) ?_)
     | (with_reducible refine wpList_sl (by kernel_rfl) _ _ _ _ _ rfl _ _ _ _ _ rfl rfl rfl rfl (hto _) ?_)
     | (at_builtin; refine wpList_clr (by kernel_rfl) _ _ rfl _ rfl (hcl _) ?_))
    go_ret
    have o9 := Oth.setCells g zs.toList wr (i * 51)
    have hsz9 : i * 51 + zs.size ≤ cur.size := by rw [hzs]; exact hsz
    have hf : Y.filter (stB0 L) = Z.take i := by
     have h1 := hst.out.1
     rw [← hYn.out, List.take_length] at h1
     exact h1.symm
    refine ⟨i, rfl, ?_, o9.below N w hNg hkw⟩
    rw [hf]
    refine .inr ⟨g, R, _, rfl, by rw [List.length_take]; omega, by omega, hcm, hNg, Blk.part hBw hsz9, (part_size hsz9).trans hcz, fun t ht => ?_⟩
    rw [List.length_take] at ht
    have hti : t < i := by omega
    rw [oat_take hti]
    obtain ⟨C, c1, c2⟩ := hrow.2.2 t (by omega)
    refine ⟨C, (c1.laterK fun b hb => o9.block b hb.2.2.1).wide fun b hb => ⟨by rw [o9.size]; exact hb.1, hb.2⟩, fun u v hv => ?_⟩
    have hu : u < 51 := by rw [← c1.size]; exact (Array.getElem?_eq_some_iff.1 hv).1
    have hm2 : (t + 1) * 51 ≤ i * 51 := Nat.mul_le_mul_right _ (by omega)
    rw [part_out hsz9 (.inl (by omega))]
    exact c2 u v hv
end Go.Proofs.Ytobcdaaghdljbaa
