/-
 PROVED HERE: what package obj's exchanged returns when it is called: a world with other objects in the place of some, all i. What is asked stands at each.
-/
import Derived.Test.YtcmcakandbpjfaaY8
namespace Go.Proofs.Ytcmcakandbpjfaa
set_option maxRecDepth 100000
set_option maxHeartbeats 8000000
open Go.RowKit Go.Shelf
set_option linter.unusedVariables false
attribute [local go_sem] Oper.semAt_some

def loadOf (ops : Array Oper) (o : Oper) (a : Act) : Option (TypeId × Nat × Nat × Option Tmp) :=
 if Region.wanted o (yielded ops a.tmps) then
  match o.op with
  | .load t x =>
   match a.eval x with
   | .pointer (some ⟨b, off, none⟩) => some (t, b, off, o.dst)
   | _ => none
  | _ => none
 else none
def bsOf (ops : Array Oper) (o : Oper) (a : Act) : Option (TypeId × Nat × List (Nat × Value) × Option Tmp) :=
 if Region.wanted o (yielded ops a.tmps) then
  match o.op with
  | .buildSlice t n ps => some (t, n, ps.toList.map (fun p => (p.1, a.eval p.2)), o.dst)
  | _ => none
 else none
section
variable {ops : Array Oper} {Q : Exit → Act → World → Prop} {S : World → Prop} {w : World} {m : Nat} {a : Act} {l : Array Bool}
theorem wpOp_loadL {i : Nat} {ty : TypeId} {b off : Nat} {v : Value} {d : Option Tmp} {K : Act → World → Prop} (hi : (ops[i]?).bind (fun o => loadOf ops o a) = some (ty, b, off, d)) (hr : (loadVar ty ⟨b, off, none⟩).run Try.prog w = .ok v w)
  (h : K (a.put d v) w) : wpOp Try.prog ops Q i K a w := by
 cases ho : ops[i]? with
 | none => rw [ho] at hi; cases hi
 | some o =>
  rw [ho] at hi
  have hi' : loadOf ops o a = _ := hi
  unfold loadOf at hi'
  split at hi'
  ·rename_i hw
   split at hi'
   ·rename_i t x hop
    split at hi'
    ·rename_i b' o' hx
     cases hi'
     unfold wpOp
     simp only [ho, hw, if_true]
     left
     unfold Oper.wp execOp
     simp only [hop, hx, Instr.loadAt, Instr.sureAddr, Sem.run_bind, Sem.run_pure, Result.andThen_ok, hr]
     exact h
    ·cases hi'
   ·cases hi'
  ·cases hi'
theorem wpOp_bsL {i : Nat} {t : TypeId} {n : Nat} {vs : List (Nat × Value)} {v : Value} {W : World} {d : Option Tmp} {K : Act → World → Prop} (hi : (ops[i]?).bind (fun o => bsOf ops o a) = some (t, n, vs, d)) (hr : (Instr.buildSlice t n vs.toArray).run Try.prog w = .ok v W)
  (h : K (a.put d v) W) : wpOp Try.prog ops Q i K a w := by
 cases ho : ops[i]? with
 | none => rw [ho] at hi; cases hi
 | some o =>
  rw [ho] at hi
  have hi' : bsOf ops o a = _ := hi
  unfold bsOf at hi'
  split at hi'
  ·rename_i hw
   split at hi'
   ·rename_i t x ps hop
    cases hi'
    have e : (ps.map fun (i, x) => (i, a.eval x)) = (ps.toList.map (fun p => (p.1, a.eval p.2))).toArray := by
     apply Array.ext'
     simp
    unfold wpOp
    simp only [ho, hw, if_true]
    left
    unfold Oper.wp execOp
    simp only [hop, e, Sem.run_bind, hr, Result.andThen_ok]
    exact h
   ·cases hi'
  ·cases hi'
end
theorem run_load1 {w : World} {ty t : TypeId} {B o : Nat} {C : Array Value} {v : Value} (hB : Blk w B C t) (hv : C[o]? = some v) (hg : ∀ w, (isAgg ty).run Try.prog w = .ok false w) : (loadVar ty ⟨B, o, none⟩).run Try.prog w = .ok v w := by
 have hc : w.cell? ⟨B, o, none⟩ = some v := (hB.cell o).trans hv
 simp [loadVar, hg, hc]
theorem infoS : (Try.prog.info? 23).map (fun i => (i.zero, i.size, i.bytes)) = some (some (.slice none 0 0), 1, 24) := by kernel_rfl
theorem run_bs3 {a0 a1 a2 : Option Addr} {n0 n1 n2 c0 c1 c2 : Nat} (w : World) : (Instr.buildSlice 119 3 #[(0, .slice a0 n0 c0), (1, .slice a1 n1 c1), (2, .slice a2 n2 c2)]).run Try.prog w = .ok (.slice (some ⟨w.heap.size, 0, none⟩) 3 3) (w.alloc (.cells #[.slice a0 n0 c0, .slice a1 n1 c1, .slice a2 n2 c2] 23)) := by
 obtain ⟨i0, hi, hz0, hz1, hz2⟩ := info_parts infoS
 refine run_buildSlice w _ _ 3 _ _ i0 _ Try.underlying119 hi hz0 (by rw [hz1]; omega) (by rw [hz1]; omega) ?_
 rw [hz1]
 have := Great.fill_whole (s := 1) (by omega) [.slice a0 n0 c0, .slice a1 n1 c1, .slice a2 n2 c2] ((Array.range (3 * 1)).map ((Value.slice none 0 0).cells[· % (Value.slice none 0 0).cells.size]!)) (by simp [Value.cells]) (by simp)
 simpa [Value.cells] using this
def zW : Array Value := #[.int .i64 0, .int .u64 0, .int .u64 0, .slice none 0 0]
theorem zero43 (w : World) : (zeroValue 25).run Try.prog w = .ok (.agg zW) w := Try.zeroValue25 w
theorem size43 : (Try.prog.info? 25).map (·.size) = some 4 := by kernel_rfl
theorem res43 {fn : Func} {p : Tmp} (h : fn.results = #[.cell p 25]) {tmps : Array Value} {w : World} {B : Nat} {C : Array Value} (hp : tmps.getD p undef = .pointer (some ⟨B, 0, none⟩)) (hB : Blk w B C 25) (hs : C.size = 4) : (results fn tmps).run Try.prog w = .ok (.agg C) w :=
 results_cell_row h tmps w B 25 C (0, 0) _ hp hB Try.underlying25 rfl (by rw [hs]; exact size43)
theorem part_in {old C : Array Value} {o j : Nat} {v : Value} (hs : o + C.size ≤ old.size) (h : C[j]? = some v) : (old.extract 0 o ++ C ++ old.extract (o + C.size) old.size)[o + j]? = some v := by
 have hj : j < C.size := (Array.getElem?_eq_some_iff.1 h).1
 rw [Array.getElem?_append, if_pos (by simp; omega), Array.getElem?_append, if_neg (by simp; omega)]
 simp
 rw [show o + j - min o old.size = j by omega]
 exact h
theorem part_out {old C : Array Value} {o j : Nat} (hs : o + C.size ≤ old.size) (h : j < o ∨ o + C.size ≤ j) : (old.extract 0 o ++ C ++ old.extract (o + C.size) old.size)[j]? = old[j]? := by
 rcases h with h | h
 ·rw [Array.getElem?_append, if_pos (by simp; omega), Array.getElem?_append, if_pos (by simp; omega), Array.getElem?_extract, if_pos (by omega)]
  simp
 ·rw [Array.getElem?_append, if_neg (by simp; omega), Array.getElem?_extract]
  have hz : (old.extract 0 o ++ C).size = o + C.size := by simp; omega
  rw [hz]
  by_cases hj : j < old.size
  ·rw [if_pos (by omega), show o + C.size + (j - (o + C.size)) = j by omega]
  ·rw [if_neg (by omega)]; simp; omega
theorem part_size {old C : Array Value} {o : Nat} (hs : o + C.size ≤ old.size) : (old.extract 0 o ++ C ++ old.extract (o + C.size) old.size).size = old.size := by simp; omega
abbrev Ey (F : Nat → Prop) (g R : Nat) (W : World) : Nat → Prop := fun b => b < W.heap.size ∧ F b ∧ b ≠ g ∧ b ≠ R
def RowG (F : Nat → Prop) (g R cp : Nat) (w : World) (Y : List Ob) (cur : Array Value) : Prop := Blk w g cur 54 ∧ cur.size = cp * 51 ∧ ∀ i, i < Y.length → ∃ C, ObD (Ey F g R w) w C (oat Y i) ∧ ∀ j v, C[j]? = some v → cur[i * 51 + j]? = some v
theorem RowG.next {F : Nat → Prop} {g R cp : Nat} {w w' : World} {Y : List Ob} {cur : Array Value} (h : RowG F g R cp w Y cur) (k : Below w.heap.size w w') : RowG F g R cp w' Y cur := by
 obtain ⟨h1, h2, h3⟩ := h
 refine ⟨h1.next k, h2, fun i hi => ?_⟩
 obtain ⟨C, c1, c2⟩ := h3 i hi
 exact ⟨C, (c1.laterK fun b hb => k.block b hb.1).wide fun b hb => ⟨Nat.lt_of_lt_of_le hb.1 k.size, hb.2⟩, c2⟩
theorem RowG.put {F : Nat → Prop} {g R cp : Nat} {w w' : World} {Y : List Ob} {cur C : Array Value} {i : Nat} (h : RowG F g R cp w Y cur) (hi : i < Y.length) (hc : Y.length ≤ cp) (hC : ObD (Ey F g R w) w C (oat Y i)) (k : Oth g w w') (hb : Blk w' g (cur.extract 0 (0 + i * 51) ++ C ++ cur.extract (0 + i * 51 + C.size) cur.size) 54) : RowG F g R cp w' Y (cur.extract 0 (0 + i * 51) ++ C ++ cur.extract (0 + i * 51 + C.size) cur.size) := by
 have hz := hC.size
 have hle : 0 + i * 51 + C.size ≤ cur.size := by rw [h.2.1, hz]; have : (i + 1) * 51 ≤ cp * 51 := Nat.mul_le_mul_right _ (by omega); omega
 refine ⟨hb, (part_size hle).trans h.2.1, fun i' hi' => ?_⟩
 by_cases e : i' = i
 ·subst e
  refine ⟨C, (hC.laterK fun b hb => k.block b hb.2.2.1).wide fun b hb => ⟨by rw [k.size]; exact hb.1, hb.2⟩, fun j v hv => ?_⟩
  rw [show i' * 51 + j = 0 + i' * 51 + j by omega]
  exact part_in hle hv
 ·obtain ⟨C', c1, c2⟩ := h.2.2 i' hi'
  refine ⟨C', (c1.laterK fun b hb => k.block b hb.2.2.1).wide fun b hb => ⟨by rw [k.size]; exact hb.1, hb.2⟩, fun j v hv => ?_⟩
  have hj : j < 51 := by rw [← c1.size]; exact (Array.getElem?_eq_some_iff.1 hv).1
  rw [part_out hle (by omega)]
  exact c2 j v hv
theorem RowG.obs {F : Nat → Prop} {g R cp : Nat} {w w' : World} {Y : List Ob} {cur : Array Value} (h : RowG F g R cp w Y cur) (k : Oth R w w') (hne : g ≠ R) (hc : Y.length ≤ cp) (hm : cp ≤ 9223372036854775807) : ObsD (fun b => b = g ∧ g < w'.heap.size) (fun b => F b ∧ b < w'.heap.size) w' (some ⟨g, 0, none⟩) Y.length cp Y := by
 have hb := h.1.other k hne
 refine ⟨rfl, hc, ⟨hm, fun e => by cases e⟩, fun hn => ⟨g, 0, rfl, ⟨rfl, hb.lt⟩, fun i hi => ?_⟩⟩
 obtain ⟨C, c1, c2⟩ := h.2.2 i hi
 refine ⟨C, (c1.laterK fun b hb => k.block b hb.2.2.2).wide fun b hb => ⟨hb.2.1, by rw [k.size]; exact hb.1⟩, fun j v hv => ?_⟩
 rw [hb.cell, Nat.zero_add]
 exact c2 j v (by simpa using hv)
theorem RowG.oth {F : Nat → Prop} {g R cp : Nat} {w w' : World} {Y : List Ob} {cur : Array Value} (h : RowG F g R cp w Y cur) (k : Oth R w w') (hne : g ≠ R) : RowG F g R cp w' Y cur := by
 obtain ⟨h1, h2, h3⟩ := h
 refine ⟨h1.other k hne, h2, fun i hi => ?_⟩
 obtain ⟨C, c1, c2⟩ := h3 i hi
 exact ⟨C, (c1.laterK fun b hb => k.block b hb.2.2.2).wide fun b hb => ⟨by rw [k.size]; exact hb.1, hb.2⟩, c2⟩
def OwnR (F : Nat → Prop) (N : Nat) (w : World) (ao : Option Addr) (n cap : Nat) (Y : List Ob) : Prop :=
 (Y = [] ∧ ao = none ∧ n = 0 ∧ cap = 0) ∨ ∃ g R cur, ao = some ⟨g, 0, none⟩ ∧ n = Y.length ∧ n ≤ cap ∧ cap ≤ 9223372036854775807 ∧ N ≤ g ∧ RowG F g R cap w Y cur
theorem OwnR.obs {F : Nat → Prop} {N : Nat} {w : World} {ao : Option Addr} {n cap : Nat} {Y : List Ob} (h : OwnR F N w ao n cap Y) : ObsD (fun b => N ≤ b ∧ b < w.heap.size) (fun b => F b ∧ b < w.heap.size) w ao n cap Y := by
 rcases h with ⟨rfl, rfl, rfl, rfl⟩ | ⟨g, R, cur, rfl, rfl, hc, hm, hN, h1, h2, h3⟩
 ·exact ObsD.nil _ _ _
 ·refine ⟨rfl, hc, ⟨hm, fun e => by cases e⟩, fun hn => ⟨g, 0, rfl, ⟨hN, h1.lt⟩, fun i hi => ?_⟩⟩
  obtain ⟨C, c1, c2⟩ := h3 i hi
  refine ⟨C, c1.wide fun b hb => ⟨hb.2.1, hb.1⟩, fun j v hv => ?_⟩
  rw [h1.cell, Nat.zero_add]
  exact c2 j v (by simpa using hv)
theorem OwnR.wide {F F' : Nat → Prop} {N N' : Nat} {w : World} {ao : Option Addr} {n cap : Nat} {Y : List Ob} (h : OwnR F N w ao n cap Y) (hF : ∀ b, F b → F' b) (hN : N' ≤ N) : OwnR F' N' w ao n cap Y := by
 rcases h with h | ⟨g, R, cur, e, hn, hc, hm, hg, h1, h2, h3⟩
 ·exact .inl h
 ·refine .inr ⟨g, R, cur, e, hn, hc, hm, Nat.le_trans hN hg, h1, h2, fun i hi => ?_⟩
  obtain ⟨C, c1, c2⟩ := h3 i hi
  exact ⟨C, c1.wide fun b hb => ⟨hb.1, hF b hb.2.1, hb.2.2⟩, c2⟩
theorem OwnR.to {F : Nat → Prop} {N P : Nat} {w w' : World} {ao : Option Addr} {n cap : Nat} {Y : List Ob} (h : OwnR F N w ao n cap Y) (k : Oth P w w') (hP : P < N) (hF : ¬ F P) : OwnR F N w' ao n cap Y := by
 rcases h with h | ⟨g, R, cur, e, hn, hc, hm, hN, h1, h2, h3⟩
 ·exact .inl h
 ·refine .inr ⟨g, R, cur, e, hn, hc, hm, hN, h1.other k (by omega), h2, fun i hi => ?_⟩
  obtain ⟨C, c1, c2⟩ := h3 i hi
  exact ⟨C, (c1.laterK fun b hb => k.block b fun q => hF (q ▸ hb.2.1)).wide fun b hb => ⟨by rw [k.size]; exact hb.1, hb.2⟩, c2⟩
theorem exch_own {w : World} {t ke ro : Int} {ao ao' : Option Addr} {n cap m cap' k f : Nat} {X O : List Ob} {D0 : Nat → Prop} (hD : ∀ b, D0 b → b < w.heap.size) (h : ObsD (LtN w) D0 w ao n cap X) (h' : ObsD (LtN w) D0 w ao' m cap' O) (hkn : k ≤ n) (hfn : f ≤ n) (hn16 : n ≤ 4096) (hm16 : m ≤ 4096) (hsm : Smalls X) (hsm' : Smalls O) : Calls Try.prog 50 #[.agg #[.int .i64 t, .int .u64 ke, .int .u64 ro, .slice ao n cap], .int .i64 k, .int .i64 f, .slice ao' m cap'] w fun e w' => ∃ ao2 n2 cap2, e = .returned (.agg #[.int .i64 t, .int .u64 ke, .int .u64 ro, .slice ao2 n2 cap2]) ∧ OwnR (fun b => D0 b ∨ w.heap.size ≤ b) w.heap.size w' ao2 n2 cap2 (X.take k ++ O ++ X.drop f) ∧ Below w.heap.size w w' := by
 have hmx : Try.prog.follows .mixedOrders = true := by kernel_rfl
 have ga3 := Try.isAgg23
 have hnc := h.2.1
 have hX : Hid (X.length = n) := h.1
 have hO : Hid (O.length = m) := h'.1
 have hYs : Hid (Smalls (X.take k ++ O ++ X.drop f)) := by
  refine (?_ : Smalls (X.take k ++ O ++ X.drop f))
  intro x hx
  rw [List.mem_append, List.mem_append] at hx
  rcases hx with (q | q) | q
  ·exact hsm x (List.mem_of_mem_take q)
  ·exact hsm' x q
  ·exact hsm x (List.mem_of_mem_drop q)
 have h1 := ObsD.to h hkn
 obtain ⟨a3, h3, hsl⟩ := sliceO_from h hfn
 have hn3 : n - f ≤ 4096 := by omega
 have hYl : Hid ((X.take k ++ O ++ X.drop f).length = k + m + (n - f)) := by show _ = _; simp [hX.out, hO.out]; omega
 generalize hne : n - f = n3 at h3 hsl hn3 hYl
 generalize cap - f = cap3 at h3 hsl
 clear hne hsm hsm'
 have c3 : (#[.int .i64 t, .int .u64 ke, .int .u64 ro, .slice ao n cap] : Array Value)[3]? = some (.slice ao n cap) := rfl
 have cS : ∀ v, (#[.int .i64 t, .int .u64 ke, .int .u64 ro, .slice ao n cap] : Array Value).setIfInBounds 3 v = #[.int .i64 t, .int .u64 ke, .int .u64 ro, v] := fun v => rfl
 have hzG : (#[.int .i64 t, .int .u64 ke, .int .u64 ro, .slice ao n cap] : Array Value).size = 4 := rfl
 obtain ⟨G, hG⟩ : ∃ G : Array Value, G = #[.int .i64 t, .int .u64 ke, .int .u64 ro, .slice ao n cap] := ⟨_, rfl⟩
 rw [← hG] at c3 cS hzG
 rw [← hG]
 clear hG
 generalize X.take k = X1 at h1 hYs hYl ⊢
 generalize X.drop f = X3 at h3 hYs hYl ⊢
 go_enter Try.func50, Try.ntmps50
 go_wp2_with (first
  | (with_reducible refine wpList_box rfl _ _ rfl G rfl ?_; intro B W hB hb hk)
  | ((with_reducible refine wpList_alloc rfl _ rfl zW zero43 ?_); intro R W0 hB1 hR hk1; replace hb := hb.next hk1; have hkw := hk.trans (hk1.mono hk.size); have hBR : Hid (B ≠ R ∧ w.heap.size ≤ B ∧ w.heap.size ≤ R ∧ B < W0.heap.size ∧ R < W0.heap.size) := (by have := hB.out; have := hB1.out; refine (⟨?_, ?_, ?_, ?_, ?_⟩ : _ ∧ _ ∧ _ ∧ _ ∧ _) <;> omega); clear hB hB1 hk hk1))
 refine PgM.region_out (S := fun _ => True) hmx trivial (fun _ => ?_)
 have hkd := (Below.refl W0.heap.size W0).drew
 have hk := hkw.trans (hkd.mono hkw.size)
 replace hb := hb.next hkd
 replace hR := hR.next hkd
 replace hBR : Hid (B ≠ R ∧ w.heap.size ≤ B ∧ w.heap.size ≤ R ∧ B < W0.drew.heap.size ∧ R < W0.drew.heap.size) := by have := hBR.out; have := hkd.size; refine (⟨?_, ?_, ?_, ?_, ?_⟩ : _ ∧ _ ∧ _ ∧ _ ∧ _) <;> omega
 generalize W0.drew = W1 at hb hR hBR hk ⊢
 clear hkd hkw
 refine wpAnyH_sym (by kernel_rfl) (fun _ _ _ _ _ h => h) trivial [(0, none), (2, none), (4, none), (5, none), (7, none)] (l' := #[true, false, true, false, true, true, false, true, false, false, false, false, false]) (a' := { tmps := #[.agg G, .int .i64 k, .int .i64 f, .slice ao' m cap', .pointer (some ⟨B, 0, none⟩), undef, undef, undef, .pointer (some ⟨R, 0, none⟩), undef, undef, .pointer (some ⟨B, 3, none⟩), undef, .int .i64 k, undef, .slice ao' m cap', .pointer (some ⟨B, 3, none⟩), undef, .int .i64 f, undef, undef, undef, undef, undef, undef, undef, undef, undef, undef, undef, undef, undef, undef, undef, undef, undef, undef, undef, undef], defers := [] }) (obs := []) (n := 8) (by kernel_rfl) (by kernel_rfl) trivial ?_
 refine share 4 #[true, true, true, true, true, true, true, true, true, false, false, false, false] (fun A W => A = { tmps := #[.agg G, .int .i64 k, .int .i64 f, .slice ao' m cap', .pointer (some ⟨B, 0, none⟩), undef, undef, undef, .pointer (some ⟨R, 0, none⟩), undef, undef, .pointer (some ⟨B, 3, none⟩), .slice ao n cap, .int .i64 k, .slice ao k cap, .slice ao' m cap', .pointer (some ⟨B, 3, none⟩), .slice ao n cap, .int .i64 f, .slice a3 n3 cap3, undef, undef, undef, undef, undef, undef, undef, undef, undef, undef, undef, undef, undef, undef, undef, undef, undef, undef, undef], defers := [] } ∧ Blk W B G 25 ∧ Blk W R zW 25 ∧ Below w.heap.size w W) ?_ (fun rest => ?_)
 ·clear hb hR hk
  rintro A W ⟨rfl, hb, hR, hk⟩
  refine wpAnyH_single (i := 9) (n := 3) rfl (by kernel_rfl) ?_
  refine wpOp_bsL (t := 119) (n := 3) (vs := [(0, .slice ao k cap), (1, .slice ao' m cap'), (2, .slice a3 n3 cap3)]) (d := some 20) (by kernel_rfl) (run_bs3 W) ?_
  refine ⟨trivial, ?_⟩
  have kq := (Below.refl W.heap.size W).alloc (Nat.le_refl _) (.cells #[.slice ao k cap, .slice ao' m cap', .slice a3 n3 cap3] 23)
  have hq := Blk.new W #[.slice ao k cap, .slice ao' m cap', .slice a3 n3 cap3] 23
  generalize W.alloc (.cells #[.slice ao k cap, .slice ao' m cap', .slice a3 n3 cap3] 23) = W2 at kq hq ⊢
  generalize W.heap.size = Bq at hq ⊢
  replace hb := hb.next kq
  replace hR := hR.next kq
  replace hk := hk.trans (kq.mono hk.size)
  clear kq
  obtain ⟨s1, o1, r1⟩ := h1.rows
  obtain ⟨s2, o2, r2⟩ := h'.rows
  obtain ⟨s3, o3, r3⟩ := h3.rows
  have hBl : Hid (B < W2.heap.size ∧ R < W2.heap.size ∧ w.heap.size ≤ W2.heap.size) := ⟨hb.lt, hR.lt, hk.size⟩
  have hcat := concat_any (w := W2) (Bq := Bq) (m := 3) (af := fun i => if i = 0 then ao else if i = 1 then ao' else a3) (nf := fun i => if i = 0 then k else if i = 1 then m else n3) (cf := fun i => if i = 0 then cap else if i = 1 then cap' else cap3) (sf := fun i => if i = 0 then s1 else if i = 1 then s2 else s3) hq
   (fun i hi => by rcases i with _ | _ | _ | i <;> first | rfl | (exfalso; omega))
   (fun i hi => by rcases i with _ | _ | _ | i <;> first | exact r1.next hk | exact r2.next hk | exact r3.next hk | (exfalso; omega))
   (fun i hi => by rcases i with _ | _ | _ | i <;> first | exact o1.one | exact o2.one | exact o3.one | (exfalso; omega)) (by omega) (by show 0 + k + m + n3 < 4294967296; omega)
  refine wpAnyH_callL (i := 10) (fuel := 2) (f := 65) (vs := [.slice (some ⟨Bq, 0, none⟩) 3 3]) (d := some 21) (by kernel_rfl) (by kernel_rfl) (by kernel_rfl) Try.call65 hcat ?_
  rintro e W3 ⟨V, rfl, hown, kb⟩
  refine ⟨_, rfl, trivial, ?_⟩
  replace hb := hb.next kb
  replace hR := hR.next kb
  have hk3 := hk.trans (kb.mono hk.size)
  refine wpAnyH_sym (by kernel_rfl) (fun _ _ _ _ _ h => h) trivial [(11, none)] (l' := #[true, true, true, true, true, true, true, true, true, true, true, true, false]) (a' := { tmps := #[.agg G, .int .i64 k, .int .i64 f, .slice ao' m cap', .pointer (some ⟨B, 0, none⟩), undef, undef, undef, .pointer (some ⟨R, 0, none⟩), undef, undef, .pointer (some ⟨B, 3, none⟩), .slice ao n cap, .int .i64 k, .slice ao k cap, .slice ao' m cap', .pointer (some ⟨B, 3, none⟩), .slice ao n cap, .int .i64 f, .slice a3 n3 cap3, .slice (some ⟨Bq, 0, none⟩) 3 3, V, .pointer (some ⟨B, 3, none⟩), undef, undef, undef, undef, undef, undef, undef, undef, undef, undef, undef, undef, undef, undef, undef, undef], defers := [] }) (obs := []) (n := 1) (by kernel_rfl) (by kernel_rfl) trivial ?_
  have hVc : V.cells = #[V] ∧ V.oneCell' = true := by rcases hown.2 with ⟨q, _⟩ | ⟨g, c, cur, q, _⟩ <;> subst q <;> exact ⟨rfl, rfl⟩
  obtain ⟨W5, hst, hb5, o5⟩ := run_store_cell (ty := 23) (j := 3) (v := V) hb hVc.1 (by kernel_rfl) (by rw [hzG]; omega) hVc.2
  refine wpAnyH_single (i := 12) (n := 0) rfl (by kernel_rfl) ?_
  refine wpOp_storeL (ty := 23) (B := B) (off := 3) (v := V) (d := none) (by kernel_rfl) hst ?_
  refine ⟨trivial, wpAnyH_done (by kernel_rfl) ?_ _⟩
  rw [cS] at hb5
  have hk5 := o5.below w.heap.size w hBR.out.2.1 hk3
  have hR5 := hR.other o5 (Ne.symm hBR.out.1)
  have hY := (((o1.app o2).app o3).laterK (w' := W5) fun b hb => hk5.block b (hD b hb))
  have hown' : W3.ownsRow W2.heap.size 54 51 V (k + m + n3) (s1 ++ s2 ++ s3) := by simpa [psum, pcat] using hown
  generalize k + m + n3 = N at hown' hYl
  obtain ⟨Y, hYe⟩ : ∃ Y, Hid (Y = X1 ++ O ++ X3) := ⟨_, rfl⟩
  rw [← hYe.out] at hYs hYl hY
  generalize s1 ++ s2 ++ s3 = cs at hY hown'
  have hB5 : Hid (B < W5.heap.size ∧ R < W5.heap.size) := ⟨hb5.lt, hR5.lt⟩
  have hRB := hBR.out.2.2.1
  clear hown hcat o1 o2 o3 r1 r2 r3 hst hq hb hR
  rcases hown'.2 with ⟨rfl, h0⟩ | ⟨g, cp, cur, rfl, hgb, hgk, hNc, hcm, hcs, htk⟩
  ·subst h0
   have hz43 : (Try.prog.info? 25).map (·.size) = some (#[.int .i64 t, .int .u64 ke, .int .u64 ro, .slice none 0 0] : Array Value).size := size43
   have hG1 : (#[.int .i64 t, .int .u64 ke, .int .u64 ro, .slice none 0 0] : Array Value).all (·.oneCell') = true := by kernel_rfl
   have c3' : (#[.int .i64 t, .int .u64 ke, .int .u64 ro, .slice none 0 0] : Array Value)[3]? = some (.slice none 0 0) := rfl
   obtain ⟨G2, hG2⟩ : ∃ G2 : Array Value, G2 = #[.int .i64 t, .int .u64 ke, .int .u64 ro, .slice none 0 0] := ⟨_, rfl⟩
   have hzz : zW.size = G2.size := by rw [hG2]; rfl
   rw [← hG2] at hb5 hz43 hG1 c3'
   go_wp2_with (first
    | (with_reducible refine wpList_load1 (by kernel_rfl) _ _ rfl B _ rfl _ _ hb5 _ c3' ga3 ?_))
   go_loopw [26] (fun i wr => i = .int .i64 0 ∧ Blk wr B G2 25 ∧ Blk wr R zW 25 ∧ Below w.heap.size w wr) (fun _ _ => 0)
   case atStart => exact ⟨rfl, hb5, hR5, hk5⟩
   case round =>
    obtain ⟨rfl, hbx, hRx, hbw⟩ := hrel
    go_wp2_with (first
     | (with_reducible refine wpList_load_blk rfl _ _ rfl B rfl _ hbx _ Try.underlying25 rfl hz43 ?_)
     | ((with_reducible refine wpList_store_blk rfl _ _ _ rfl R rfl _ rfl zW hRx hz43 hzz hG1 ?_); intro W9 hR9 o9))
    refine bodyPost_ret (v := .agg _) (res43 Try.results50 rfl hR9 (hzz.symm.trans rfl)) rfl ?_
    have hk9 := o9.below w.heap.size w hRB hbw
    rw [hG2]
    have hl : Y = [] := List.eq_nil_of_length_eq_zero hYl.out
    exact ⟨none, 0, 0, rfl, .inl ⟨by rw [← hYe.out]; exact hl, rfl, rfl, rfl⟩, hk9⟩
  ·have hz43 : (Try.prog.info? 25).map (·.size) = some (#[.int .i64 t, .int .u64 ke, .int .u64 ro, .slice (some ⟨g, 0, none⟩) N cp] : Array Value).size := size43
   have hG1 : (#[.int .i64 t, .int .u64 ke, .int .u64 ro, .slice (some ⟨g, 0, none⟩) N cp] : Array Value).all (·.oneCell') = true := by kernel_rfl
   have hzz : zW.size = (#[.int .i64 t, .int .u64 ke, .int .u64 ro, .slice (some ⟨g, 0, none⟩) N cp] : Array Value).size := rfl
   have c3' : (#[.int .i64 t, .int .u64 ke, .int .u64 ro, .slice (some ⟨g, 0, none⟩) N cp] : Array Value)[3]? = some (.slice (some ⟨g, 0, none⟩) N cp) := rfl
   have hgB : g ≠ B := by have := hBl.out; omega
   have hgR : g ≠ R := by have := hBl.out; omega
   have hgl : w.heap.size ≤ g := by have := hBl.out; omega
   have hrow : RowG (fun b => D0 b ∨ w.heap.size ≤ b) g R cp W5 Y cur := by
    refine ⟨(o5.block g hgB).trans hgk, hcs, fun i hi => ?_⟩
    obtain ⟨C, q1, q2⟩ := hY.at i hi
    refine ⟨C, q1.wide fun b hb => ⟨Nat.lt_of_lt_of_le (hD b hb) hk5.size, .inl hb, by have := hD b hb; omega, by have := hD b hb; omega⟩, fun j v hv => ?_⟩
    have hx := q2 j v hv
    rw [← htk, List.getElem?_take] at hx
    split at hx
    ·simpa using hx
    ·cases hx
   have hcm' : cp ≤ 9223372036854775807 := by unfold maxLen at hcm; omega
   have hYN : Y.length = N := hYl.out
   have hYH : Hid (Y.length = N) := hYN
   clear hY htk hgk hown' hcs hcm
   obtain ⟨G2, hG2⟩ : ∃ G2 : Array Value, Hid (G2 = #[.int .i64 t, .int .u64 ke, .int .u64 ro, .slice (some ⟨g, 0, none⟩) N cp]) := ⟨_, rfl⟩
   rw [← hG2.out] at hb5 hz43 hG1 c3' hzz
   go_wp2_with (first
    | (with_reducible refine wpList_load1 (by kernel_rfl) _ _ rfl B _ rfl _ _ hb5 _ c3' ga3 ?_))
   go_loopw [26] (fun i wr => ∃ (j : Nat) (cur : Array Value), j ≤ N ∧ i = .int .i64 j ∧ RowG (fun b => D0 b ∨ w.heap.size ≤ b) g R cp wr Y cur ∧ Blk wr B G2 25 ∧ Blk wr R zW 25 ∧ Below w.heap.size w wr) (fun i _ => N - (intOf i).toNat)
   case atStart => exact ⟨0, cur, Nat.zero_le _, rfl, hrow, hb5, hR5, hk5⟩
   case round =>
    clear hrow hb5 hR5 hk5 hk3 hk
    obtain ⟨j, cur, hjN1, rfl, hrow, hbx, hRx, hbw⟩ := hrel
    by_cases hjN : j < N
    ·have hjN' : (j : Int) < N := by omega
     have hbs := hbw.size
     obtain ⟨C, hC, hCc⟩ := hrow.2.2 j (by rw [hYN]; exact hjN)
     have hz := hC.size
     have hr : wr.rangeAt g (j * 51) C.toList := fun q v hv => by
      rw [hrow.1.cell]
      exact hCc q v (by simpa using hv)
     have hxs : Small (oat Y j) := hYs.out _ (oat_mem (by rw [hYN]; exact hjN))
     go_wp2_with (first
      | (with_reducible refine wpList_loadm (by kernel_rfl) 54 _ rfl g _ rfl C hr _ Try.underlying54 (by kernel_rfl) (size40C hz) ?_)
      | ((with_reducible refine wpList_alloc rfl _ rfl zC zero40 ?_); intro R1 W6 hB6 hR6 hk6)
      | ((with_reducible refine wpList_store_blk rfl _ _ _ rfl R1 rfl C rfl zC hR6 (size40C hz) (zC_size.trans hz.symm) hC.one ?_); intro W7 hR7 o7; have k7 := o7.below wr.heap.size wr (by have := hB6.out.1; omega) hk6))
     have hb7 := hbx.next k7
     have hrow7 := hrow.next k7
     have hRx7 := hRx.next k7
     refine PgM.region_out (S := fun W => Blk W B G2 25 ∧ Blk W R1 C 54) hmx ⟨hb7.next (Below.refl _ _).drew, hR7.next (Below.refl _ _).drew⟩ (fun hS => ?_)
     have hkd := (Below.refl W7.heap.size W7).drew
     have hrow8 := hrow7.next hkd
     have hRx8 := hRx7.next hkd
     have k8 := k7.trans (hkd.mono k7.size)
     have hR1g : Hid (R1 ≠ g ∧ R1 ≠ R) := by have h1 := hB6.out.1; have h2 := hrow.1.lt; have h3 := hRx.lt; refine (⟨?_, ?_⟩ : _ ∧ _) <;> omega
     generalize W7.drew = W8 at hS hrow8 hRx8 k8 ⊢
     clear hkd hrow7 hRx7 hb7 k7 hR6 hk6 hR7 o7 hB6
     refine wpAnyH_sym (by kernel_rfl) (fun _ _ _ _ _ h => h) hS [(0, none), (1, some (.slice (some ⟨g, 0, none⟩) N cp)), (2, none), (3, some (.agg C))] (l' := #[true, true, true, true, false, false, false]) (a' := { tmps := #[.agg G, .int .i64 k, .int .i64 f, .slice ao' m cap', .pointer (some ⟨B, 0, none⟩), undef, undef, undef, .pointer (some ⟨R, 0, none⟩), .int .i64 j, .pointer (some ⟨R1, 0, none⟩), .pointer (some ⟨B, 3, none⟩), .slice ao n cap, .int .i64 k, .slice ao k cap, .slice ao' m cap', .pointer (some ⟨B, 3, none⟩), .slice ao n cap, .int .i64 f, .slice a3 n3 cap3, .slice (some ⟨Bq, 0, none⟩) 3 3, .slice (some ⟨g, 0, none⟩) N cp, .pointer (some ⟨B, 3, none⟩), .pointer (some ⟨B, 3, none⟩), .slice (some ⟨g, 0, none⟩) N cp, .int .i64 N, .int .i64 j, .bool true, .int .i64 j, .pointer (some ⟨g, j * 51, none⟩), .agg C, .pointer (some ⟨B, 3, none⟩), .slice (some ⟨g, 0, none⟩) N cp, .int .i64 j, .agg C, u35, u36, u37, undef], defers := [] }) (obs := [.load 23 B 3 (.slice (some ⟨g, 0, none⟩) N cp), .load 54 R1 0 (.agg C)]) (n := 3) (by kernel_rfl) (by kernel_rfl) ⟨ob_load1 (fun _ h => h.1) c3' Try.isAgg23, ob_loadb (fun _ h => h.2) Try.underlying54 (by kernel_rfl) (size40C hz), trivial⟩ ?_
     refine wpAnyH_callL (i := 4) (fuel := 2) (f := 62) (vs := [.agg C]) (d := some 35) (by kernel_rfl) (by kernel_rfl) (by kernel_rfl) Try.call62 (copiedOne_any (ObD.next (hC.wide fun b hb => hb.1) k8) hxs) ?_
     rintro e W9 ⟨C', rfl, hC', hb9⟩
     have hS9 : Blk W9 B G2 25 ∧ Blk W9 R1 C 54 := ⟨hS.1.next hb9, hS.2.next hb9⟩
     refine ⟨_, rfl, hS9, ?_⟩
     refine wpAnyH_sym (by kernel_rfl) (fun _ _ _ _ _ h => h) hS9 [(5, some (.pointer (some ⟨g, 0 + j * 51, none⟩)))] (l' := #[true, true, true, true, true, true, false]) (a' := { tmps := #[.agg G, .int .i64 k, .int .i64 f, .slice ao' m cap', .pointer (some ⟨B, 0, none⟩), undef, undef, undef, .pointer (some ⟨R, 0, none⟩), .int .i64 j, .pointer (some ⟨R1, 0, none⟩), .pointer (some ⟨B, 3, none⟩), .slice ao n cap, .int .i64 k, .slice ao k cap, .slice ao' m cap', .pointer (some ⟨B, 3, none⟩), .slice ao n cap, .int .i64 f, .slice a3 n3 cap3, .slice (some ⟨Bq, 0, none⟩) 3 3, .slice (some ⟨g, 0, none⟩) N cp, .pointer (some ⟨B, 3, none⟩), .pointer (some ⟨B, 3, none⟩), .slice (some ⟨g, 0, none⟩) N cp, .int .i64 N, .int .i64 j, .bool true, .int .i64 j, .pointer (some ⟨g, j * 51, none⟩), .agg C, .pointer (some ⟨B, 3, none⟩), .slice (some ⟨g, 0, none⟩) N cp, .int .i64 j, .agg C, .agg C', .pointer (some ⟨g, 0 + j * 51, none⟩), u37, undef], defers := [] }) (obs := [.ia 23 (.slice (some ⟨g, 0, none⟩) N cp) (.int .i64 j) (.pointer (some ⟨g, 0 + j * 51, none⟩))]) (n := 1) (by kernel_rfl) (by kernel_rfl) ⟨ia_at hjN, trivial⟩ ?_
     have hrow9 := hrow8.next hb9
     have hz9 := hC'.size
     obtain ⟨W10, hst, hg10, o10⟩ := run_store_part (ty := 54) (o := 0 + j * 51) hrow9.1 (size40C hz9) (by rw [hrow9.2.1, hz9]; have : (j + 1) * 51 ≤ cp * 51 := Nat.mul_le_mul_right _ (by omega); omega) hC'.one
     have hb10 := (hS.1.next hb9).other o10 (Ne.symm hgB)
     refine wpAnyH_single (i := 6) (n := 0) rfl (by kernel_rfl) ?_
     refine wpOp_storeL (ty := 54) (B := g) (off := 0 + j * 51) (v := .agg C') (d := none) (by kernel_rfl) hst ?_
     refine ⟨⟨hb10, (hS.2.next hb9).other o10 hR1g.out.1⟩, wpAnyH_done (by kernel_rfl) ?_ _⟩
     have hrow10 := hrow9.put (by rw [hYN]; exact hjN) (by rw [hYN]; exact hNc) (hC'.wide fun b hb => ⟨hb.2, .inr (by have := hb.1; have := k8.size; omega), by have := hb.1; have := hrow8.1.lt; omega, by have := hb.1; have := hRx8.lt; omega⟩) o10 hg10
     have hR10 := (hRx8.next hb9).other o10 (Ne.symm hgR)
     have hk10 := o10.below w.heap.size w hgl (hbw.trans ((k8.trans (hb9.mono k8.size)).mono hbs))
     clear hS hrow8 hRx8 hrow9 hg10 hst hC' hb9
     go_wp2
     go_roundw
     case rel => exact ⟨j + 1, _, by omega, by go_num, hrow10, hb10, hR10, hk10⟩
     case measure => simp [intOf]; omega
    ·obtain rfl : j = N := by omega
     go_wp2_with (first
      | (with_reducible refine wpList_load_blk rfl _ _ rfl B rfl _ hbx _ Try.underlying25 rfl hz43 ?_)
      | ((with_reducible refine wpList_store_blk rfl _ _ _ rfl R rfl _ rfl zW hRx hz43 hzz hG1 ?_); intro W9 hR9 o9))
     refine bodyPost_ret (v := .agg _) (res43 Try.results50 rfl hR9 (hzz.symm.trans rfl)) rfl ?_
     have hk9 := o9.below w.heap.size w hRB hbw
     exact ⟨some ⟨g, 0, none⟩, _, cp, by rw [hG2.out], .inr ⟨g, R, cur, rfl, by rw [← hYe.out]; exact hYN.symm, hNc, hcm', hgl, by rw [← hYe.out]; exact hrow.oth o9 hgR⟩, hk9⟩
 ·refine wpAnyH_two (i := 1) (j := 6) (n := 7) rfl (by kernel_rfl) ?_ ?_
  ·refine wpOp_loadL (ty := 23) (b := B) (off := 3) (v := .slice ao n cap) (d := some 12) (by kernel_rfl) (run_load1 hb c3 ga3) ?_
   refine ⟨trivial, ?_⟩
   refine wpAnyH_sym (by kernel_rfl) (fun _ _ _ _ _ h => h) trivial [(3, some (.slice ao k cap))] (l' := #[true, true, true, true, true, true, false, true, false, false, false, false, false]) (a' := { tmps := #[.agg G, .int .i64 k, .int .i64 f, .slice ao' m cap', .pointer (some ⟨B, 0, none⟩), undef, undef, undef, .pointer (some ⟨R, 0, none⟩), undef, undef, .pointer (some ⟨B, 3, none⟩), .slice ao n cap, .int .i64 k, .slice ao k cap, .slice ao' m cap', .pointer (some ⟨B, 3, none⟩), undef, .int .i64 f, undef, undef, undef, undef, undef, undef, undef, undef, undef, undef, undef, undef, undef, undef, undef, undef, undef, undef, undef, undef], defers := [] }) (obs := [.sl 23 (.slice ao n cap) (none) (some (.int .i64 k)) (none) (.slice ao k cap)]) (n := 6) (by kernel_rfl) (by kernel_rfl) ⟨fun W _ => sliceO_to hkn hnc W, trivial⟩ ?_
   refine wpAnyH_single (i := 6) (n := 5) rfl (by kernel_rfl) ?_
   refine wpOp_loadL (ty := 23) (b := B) (off := 3) (v := .slice ao n cap) (d := some 17) (by kernel_rfl) (run_load1 hb c3 ga3) ?_
   refine ⟨trivial, ?_⟩
   refine wpAnyH_sym (by kernel_rfl) (fun _ _ _ _ _ h => h) trivial [(8, some (.slice a3 n3 cap3))] (l' := #[true, true, true, true, true, true, true, true, true, false, false, false, false]) (a' := { tmps := #[.agg G, .int .i64 k, .int .i64 f, .slice ao' m cap', .pointer (some ⟨B, 0, none⟩), undef, undef, undef, .pointer (some ⟨R, 0, none⟩), undef, undef, .pointer (some ⟨B, 3, none⟩), .slice ao n cap, .int .i64 k, .slice ao k cap, .slice ao' m cap', .pointer (some ⟨B, 3, none⟩), .slice ao n cap, .int .i64 f, .slice a3 n3 cap3, undef, undef, undef, undef, undef, undef, undef, undef, undef, undef, undef, undef, undef, undef, undef, undef, undef, undef, undef], defers := [] }) (obs := [.sl 23 (.slice ao n cap) (some (.int .i64 f)) (none) (none) (.slice a3 n3 cap3)]) (n := 4) (by kernel_rfl) (by kernel_rfl) ⟨fun W _ => hsl W, trivial⟩ ?_
   exact rest _ _ ⟨rfl, hb, hR, hk⟩
  ·refine wpOp_loadL (ty := 23) (b := B) (off := 3) (v := .slice ao n cap) (d := some 17) (by kernel_rfl) (run_load1 hb c3 ga3) ?_
   refine ⟨trivial, ?_⟩
   refine wpAnyH_sym (by kernel_rfl) (fun _ _ _ _ _ h => h) trivial [(8, some (.slice a3 n3 cap3))] (l' := #[true, false, true, false, true, true, true, true, true, false, false, false, false]) (a' := { tmps := #[.agg G, .int .i64 k, .int .i64 f, .slice ao' m cap', .pointer (some ⟨B, 0, none⟩), undef, undef, undef, .pointer (some ⟨R, 0, none⟩), undef, undef, .pointer (some ⟨B, 3, none⟩), undef, .int .i64 k, undef, .slice ao' m cap', .pointer (some ⟨B, 3, none⟩), .slice ao n cap, .int .i64 f, .slice a3 n3 cap3, undef, undef, undef, undef, undef, undef, undef, undef, undef, undef, undef, undef, undef, undef, undef, undef, undef, undef, undef], defers := [] }) (obs := [.sl 23 (.slice ao n cap) (some (.int .i64 f)) (none) (none) (.slice a3 n3 cap3)]) (n := 6) (by kernel_rfl) (by kernel_rfl) ⟨fun W _ => hsl W, trivial⟩ ?_
   refine wpAnyH_single (i := 1) (n := 5) rfl (by kernel_rfl) ?_
   refine wpOp_loadL (ty := 23) (b := B) (off := 3) (v := .slice ao n cap) (d := some 12) (by kernel_rfl) (run_load1 hb c3 ga3) ?_
   refine ⟨trivial, ?_⟩
   refine wpAnyH_sym (by kernel_rfl) (fun _ _ _ _ _ h => h) trivial [(3, some (.slice ao k cap))] (l' := #[true, true, true, true, true, true, true, true, true, false, false, false, false]) (a' := { tmps := #[.agg G, .int .i64 k, .int .i64 f, .slice ao' m cap', .pointer (some ⟨B, 0, none⟩), undef, undef, undef, .pointer (some ⟨R, 0, none⟩), undef, undef, .pointer (some ⟨B, 3, none⟩), .slice ao n cap, .int .i64 k, .slice ao k cap, .slice ao' m cap', .pointer (some ⟨B, 3, none⟩), .slice ao n cap, .int .i64 f, .slice a3 n3 cap3, undef, undef, undef, undef, undef, undef, undef, undef, undef, undef, undef, undef, undef, undef, undef, undef, undef, undef, undef], defers := [] }) (obs := [.sl 23 (.slice ao n cap) (none) (some (.int .i64 k)) (none) (.slice ao k cap)]) (n := 4) (by kernel_rfl) (by kernel_rfl) ⟨fun W _ => sliceO_to hkn hnc W, trivial⟩ ?_
   exact rest _ _ ⟨rfl, hb, hR, hk⟩
theorem exch_any {w : World} {t ke ro : Int} {ao ao' : Option Addr} {n cap m cap' k f : Nat} {X O : List Ob} {D0 : Nat → Prop} (hD : ∀ b, D0 b → b < w.heap.size) (h : ObsD (LtN w) D0 w ao n cap X) (h' : ObsD (LtN w) D0 w ao' m cap' O) (hkn : k ≤ n) (hfn : f ≤ n) (hn16 : n ≤ 4096) (hm16 : m ≤ 4096) (hsm : Smalls X) (hsm' : Smalls O) : Calls Try.prog 50 #[.agg #[.int .i64 t, .int .u64 ke, .int .u64 ro, .slice ao n cap], .int .i64 k, .int .i64 f, .slice ao' m cap'] w fun e w' => ∃ ao2 n2 cap2, e = .returned (.agg #[.int .i64 t, .int .u64 ke, .int .u64 ro, .slice ao2 n2 cap2]) ∧ ObsD (New w w') (fun b => D0 b ∨ New w w' b) w' ao2 n2 cap2 (X.take k ++ O ++ X.drop f) ∧ Below w.heap.size w w' :=
 (exch_own hD h h' hkn hfn hn16 hm16 hsm hsm').mono fun _ _ ⟨a, n2, c, e, o, b⟩ => ⟨a, n2, c, e, o.obs.wide (fun _ hb => hb.1.elim .inl fun q => .inr ⟨q, hb.2⟩) (fun _ hb => hb), b⟩
end Go.Proofs.Ytcmcakandbpjfaa
namespace Go.Proofs.Ytcmcakandbpjfaa
set_option maxRecDepth 100000
set_option maxHeartbeats 8000000
open Go.RowKit Go.Shelf
set_option linter.unusedVariables false
attribute [local go_sem] Oper.semAt_some

def pureV (o : Oper) (a : Act) : Option Value :=
 match o.op with
 | .move x => some (a.eval x)
 | .assign x => some (a.eval x)
 | .extract x i =>
  match a.eval x with
  | .tuple vs => vs[i]?
  | _ => none
 | _ => none
def pureH (md : Region.Mode) (ops : Array Oper) : List Nat → Array Bool → Act → Option (Array Bool × Act)
 | [], l, a => some (l, a)
 | i :: r, l, a =>
  match ops[i]? with
  | none => none
  | some o =>
   if (Region.free md ops l i && (Region.ready md ops l).contains i && Region.wanted o (yielded ops a.tmps)) = true then
    match pureV o a with
    | none => none
    | some v => pureH md ops r (l.setIfInBounds i true) (a.put o.dst v)
   else none
section
variable {P : Program} {ops : Array Oper} {Q : Exit → Act → World → Prop} {w : World} {md : Region.Mode} {S : World → Prop}
theorem pureV_run {o : Oper} {a : Act} {v : Value} (h : pureV o a = some v) (w : World) : (execOp a.eval o).run P w = .ok (.value v) w := by
 unfold pureV at h
 split at h
 ·rename_i x ho; cases h; unfold execOp; simp [ho]
 ·rename_i x ho; cases h; unfold execOp; simp [ho]
 ·rename_i x i ho
  split at h
  ·rename_i vs hx
   unfold execOp; simp [ho, hx, h, Instr.extract]
  ·cases h
 ·cases h
theorem wpAnyH_pure (hs : Region.noSelect ops = true) (hQ : ∀ c a d v w, Q (.panic c) (Act.put a (some d) v) w → Q (.panic c) a w) (hS : S w) : ∀ (is : List Nat) {l l' : Array Bool} {a a' : Act} {n m : Nat}, m = n + is.length → pureH md ops is l a = some (l', a') → wpAnyH P md ops Q S n l' a' w → wpAnyH P md ops Q S m l a w
 | [], l, l', a, a', n, m, hm, h, q => by cases h; subst hm; exact q
 | i :: r, l, l', a, a', n, m, hm, h, q => by
  subst hm
  unfold pureH at h
  split at h
  ·cases h
  ·rename_i o ho
   split at h
   ·rename_i hf
    rw [Bool.and_eq_true, Bool.and_eq_true] at hf
    split at h
    ·cases h
    ·rename_i v hv
     exact wpAnyH_take ho hs hf.1.1 hf.1.2 (fun c a w h => putQ hQ h) (.inl ⟨hf.2, fun w _ => pureV_run hv w⟩) hS (wpAnyH_pure hs hQ hS r rfl h q)
   ·cases h
end
section
variable {ops : Array Oper} {rest : List Oper} {op : Oper} {a : Act} {Q : Exit → Act → World → Prop} {w : World}
theorem wpList_bs1 (hgd : op.guard = none) (x : Operand) (ho : op.op = .buildSlice 23 1 #[(0, x)]) (C : Array Value) (hx : a.eval x = .agg C) (hz : C.size = 51)
  (h : ∀ B W, Hid (w.heap.size = B ∧ W.heap.size = B + 1) → Blk W B C 54 → Below w.heap.size w W → wpList Try.prog ops Q rest (a.put op.dst (.slice (some ⟨B, 0, none⟩) 1 1)) W) : wpList Try.prog ops Q (op :: rest) a w :=
 wpList_plain hgd fun K hK => by
  have e : (#[(0, x)].map fun ((i : Nat), x) => (i, a.eval x)) = #[(0, Value.agg C)] := by simp [hx]
  unfold Oper.wp execOp
  simp only [ho, e, Sem.run_bind, run_bs1 hz, Result.andThen_ok]
  exact hK _ _ (h _ _ ⟨rfl, by simp⟩ (Blk.new w C 54) ((Below.refl _ w).alloc (Nat.le_refl _) _))
end
theorem obs_one {W : World} {B : Nat} {C : Array Value} {x : Ob} {D : Nat → Prop} (h : Blk W B C 54) (k : ObD D W C x) : ObsD (LtN W) D W (some ⟨B, 0, none⟩) 1 1 [x] :=
 ⟨rfl, Nat.le_refl _, ⟨by omega, fun e => by cases e⟩, fun _ => ⟨B, 0, rfl, h.lt, fun i hi => by
  obtain rfl : i = 0 := by omega
  exact ⟨C, k, by simpa using h.range0⟩⟩⟩
theorem obsD_next {w w' : World} {D0 : Nat → Prop} {ao : Option Addr} {n cap : Nat} {l : List Ob} (h : ObsD (LtN w) D0 w ao n cap l) (hD : ∀ b, D0 b → b < w.heap.size) (k : Below w.heap.size w w') : ObsD (LtN w') D0 w' ao n cap l :=
 (ObsD.laterK h (fun b hb => k.block b (hD b hb)) (fun b hb => k.block b hb)).wide (fun _ hb => hb) (fun b hb => Nat.lt_of_lt_of_le hb k.size)
theorem drop_w {w : World} {t ke ro : Int} {ao : Option Addr} {n cap : Nat} {X : List Ob} {i : Int} {D0 : Nat → Prop} (hD : ∀ b, D0 b → b < w.heap.size) (h : ObsD (LtN w) D0 w ao n cap X) (hs : Srt X) (hn16 : n < 1024) (hsm : Smalls X) : Calls Try.prog 21 #[.agg #[.int .i64 t, .int .u64 ke, .int .u64 ro, .slice ao n cap], .int .u64 i] w fun e w' => ∃ ao2 n2 cap2, e = .returned (.agg #[.int .i64 t, .int .u64 ke, .int .u64 ro, .slice ao2 n2 cap2]) ∧ ObsD (New w w') (fun b => D0 b ∨ New w w' b) w' ao2 n2 cap2 (drpL X i) ∧ Below w.heap.size w w' := by
 have hn : Hid (X.length = n) := h.1
 have hsH : Hid (Srt X) := hs
 have hsmH : Hid (Smalls X) := hsm
 have hle : ahd X i ≤ n := by rw [← hn.out]; exact ahd_le X i
 have hlf : fin X i ≤ n := by rw [← hn.out]; exact fin_le hs i
 have hwh := fun (W : World) (hk : Below w.heap.size w W) => whereO_any (i := i) (obs_next (h.wide hD fun _ hb => hb) hk) hs (by omega)
 have c3 : (#[.int .i64 t, .int .u64 ke, .int .u64 ro, .slice ao n cap] : Array Value)[3]? = some (.slice ao n cap) := rfl
 have hzG : (Try.prog.info? 25).map (·.size) = some (#[.int .i64 t, .int .u64 ke, .int .u64 ro, .slice ao n cap] : Array Value).size := size43
 have hz2 : ∀ v, (Try.prog.info? 25).map (·.size) = some (#[.int .i64 t, .int .u64 ke, .int .u64 ro, v] : Array Value).size := fun _ => size43
 have hs2 : ∀ v, zW.size = (#[.int .i64 t, .int .u64 ke, .int .u64 ro, v] : Array Value).size := fun _ => rfl
 have h12 : ∀ ao n cap, (#[.int .i64 t, .int .u64 ke, .int .u64 ro, .slice ao n cap] : Array Value).all (·.oneCell') = true := fun _ _ _ => by kernel_rfl
 have hpt : Hid (X.take (ahd X i) ++ [] ++ X.drop (fin X i) = drpL X i) := parts_drp hs i
 generalize ahd X i = k at hle hpt hwh
 generalize fin X i = f at hlf hpt hwh
 have hex := fun (W : World) (hk : Below w.heap.size w W) => exch_any (t := t) (ke := ke) (ro := ro) (fun b hb => Nat.lt_of_lt_of_le (hD b hb) hk.size) (obsD_next h hD hk) (ObsD.nil _ _ W) hle hlf (by omega) (by omega) hsm (fun _ h => by cases h)
 obtain ⟨G, hG⟩ : ∃ G : Array Value, G = #[.int .i64 t, .int .u64 ke, .int .u64 ro, .slice ao n cap] := ⟨_, rfl⟩
 rw [← hG] at c3 hzG hex
 rw [← hG]
 clear hG hs hsm
 go_enter Try.func21, Try.ntmps21
 go_wp2_with (first
  | (with_reducible refine wpList_box rfl _ _ rfl G rfl ?_; intro B W hB hb hk)
  | ((with_reducible refine wpList_alloc rfl _ rfl zW zero43 ?_); intro R W1 hB1 hR hk1; replace hb := hb.next hk1; replace hk := hk.trans (hk1.mono hk.size))
  | (with_reducible refine wpList_load_blk rfl _ _ rfl B rfl _ hb _ Try.underlying25 rfl hzG ?_)
  | (go_at_call 48; (with_reducible refine (objectsG_any c3).mono ?_); rintro e w1 ⟨rfl, hb1⟩; replace hb := hb.next hb1; replace hR := hR.next hb1; replace hk := hk.trans (hb1.mono hk.size))
  | (go_at_call 49; (with_reducible refine (hwh _ hk).mono ?_); rintro e w2 ⟨rfl, hb2⟩; replace hb := hb.next hb2; replace hR := hR.next hb2; replace hk := hk.trans (hb2.mono hk.size))
  | (go_at_call 50; (with_reducible refine (hex _ hk).mono ?_); rintro e w3 ⟨ao2, n2, cap2, rfl, hO, hb3⟩; replace hR := hR.next hb3; have hkf := hk.trans (hb3.mono hk.size))
  | ((with_reducible refine wpList_store_blk rfl _ _ _ rfl R rfl _ rfl zW hR (hz2 _) (hs2 _) (h12 _ _ _) ?_); intro W4 hR4 o4))
 have hRl : w.heap.size ≤ R ∧ R < w2.heap.size := by have := hB.out; have := hB1.out; have := hb1.size; have := hb2.size; omega
 refine bodyPost_ret (v := .agg _) (res43 Try.results21 rfl hR4 rfl) rfl ?_
 refine ⟨ao2, n2, cap2, rfl, ?_, o4.below _ _ hRl.1 hkf⟩
 rw [← hpt.out]
 have hsz := hk.size
 exact (hO.laterK (fun b hb => o4.block b (by rcases hb with q | q; have := hD b q; omega; have := q.1; omega)) (fun b hb => o4.block b (by have := hb.1; omega))).wide (fun b hb => by rcases hb with q | q; exact .inl q; exact .inr ⟨by have := q.1; omega, by rw [o4.size]; exact q.2⟩) (fun b hb => ⟨by have := hb.1; omega, by rw [o4.size]; exact hb.2⟩)
theorem put_own {w : World} {t ke ro : Int} {ao : Option Addr} {n cap : Nat} {X : List Ob} {C : Array Value} {x : Ob} {D0 : Nat → Prop} (hD : ∀ b, D0 b → b < w.heap.size) (h : ObsD (LtN w) D0 w ao n cap X) (hs : Srt X) (hn16 : n < 1024) (hsm : Smalls X) (hx : ObD D0 w C x) (hxs : Small x) : Calls Try.prog 23 #[.agg #[.int .i64 t, .int .u64 ke, .int .u64 ro, .slice ao n cap], .agg C] w fun e w' => ∃ ao2 n2 cap2, e = .returned (.agg #[.int .i64 t, .int .u64 ke, .int .u64 ro, .slice ao2 n2 cap2]) ∧ OwnR (fun b => D0 b ∨ w.heap.size ≤ b) w.heap.size w' ao2 n2 cap2 (puR X x) ∧ Below w.heap.size w w' := by
 have hmx : Try.prog.follows .mixedOrders = true := by kernel_rfl
 have ga3 := Try.isAgg23
 have d0 := hx.id
 have hz := hx.size
 have hn : Hid (X.length = n) := h.1
 have hsH : Hid (Srt X) := hs
 have hsmH : Hid (Smalls X) := hsm
 have hle : ahd X x.id ≤ n := by rw [← hn.out]; exact ahd_le X x.id
 have hlf : fin X x.id ≤ n := by rw [← hn.out]; exact fin_le hs x.id
 have hwh := fun (W : World) (hk : Below w.heap.size w W) => whereO_any (i := x.id) (obs_next (h.wide hD fun _ hb => hb) hk) hs (by omega)
 have c3 : (#[.int .i64 t, .int .u64 ke, .int .u64 ro, .slice ao n cap] : Array Value)[3]? = some (.slice ao n cap) := rfl
 have hzG : (Try.prog.info? 25).map (·.size) = some (#[.int .i64 t, .int .u64 ke, .int .u64 ro, .slice ao n cap] : Array Value).size := size43
 have hz2 : ∀ v, (Try.prog.info? 25).map (·.size) = some (#[.int .i64 t, .int .u64 ke, .int .u64 ro, v] : Array Value).size := fun _ => size43
 have hs2 : ∀ v, zW.size = (#[.int .i64 t, .int .u64 ke, .int .u64 ro, v] : Array Value).size := fun _ => rfl
 have h12 : ∀ ao n cap, (#[.int .i64 t, .int .u64 ke, .int .u64 ro, .slice ao n cap] : Array Value).all (·.oneCell') = true := fun _ _ _ => by kernel_rfl
 have hpt : Hid (X.take (ahd X x.id) ++ [x] ++ X.drop (fin X x.id) = puR X x) := parts_put hs x
 generalize ahd X x.id = k at hle hpt hwh
 generalize fin X x.id = f at hlf hpt hwh
 have hex := fun (W : World) (hk : Below w.heap.size w W) (a1 : Option Addr) (hO : ObsD (LtN W) D0 W a1 1 1 [x]) => exch_own (t := t) (ke := ke) (ro := ro) (fun b hb => Nat.lt_of_lt_of_le (hD b hb) hk.size) (obsD_next h hD hk) hO hle hlf (by omega) (by omega) hsm (fun y h => by rw [List.mem_singleton] at h; rw [h]; exact hxs)
 obtain ⟨G, hG⟩ : ∃ G : Array Value, G = #[.int .i64 t, .int .u64 ke, .int .u64 ro, .slice ao n cap] := ⟨_, rfl⟩
 rw [← hG] at c3 hzG hex
 rw [← hG]
 clear hG hs hsm
 go_enter Try.func23, Try.ntmps23
 go_wp2_with (first
  | (with_reducible refine wpList_box rfl _ _ rfl G rfl ?_; intro B W hB hb hk)
  | (with_reducible refine wpList_box rfl _ _ rfl C rfl ?_; intro B2 W2 hB2 hb2 hk2; replace hb := hb.next hk2; replace hk := hk.trans (hk2.mono hk.size))
  | ((with_reducible refine wpList_alloc rfl _ rfl zW zero43 ?_); intro R W1 hB1 hR hk1; replace hb := hb.next hk1; replace hb2 := hb2.next hk1; replace hk := hk.trans (hk1.mono hk.size))
  | (with_reducible refine wpList_load_blk rfl _ _ rfl B rfl _ hb _ Try.underlying25 rfl hzG ?_))
 have hRl : w.heap.size ≤ R ∧ R < W1.heap.size ∧ w.heap.size ≤ B ∧ w.heap.size ≤ B2 := by have := hB.out; have := hB1.out; have := hB2.out; omega
 refine PgM.region_out (S := fun W => Blk W B G 25 ∧ Blk W B2 C 54) hmx ⟨hb.next (Below.refl _ _).drew, hb2.next (Below.refl _ _).drew⟩ (fun hS => ?_)
 have hkd := (Below.refl W1.heap.size W1).drew
 replace hR := hR.next hkd
 replace hk := hk.trans (hkd.mono hk.size)
 replace hRl : w.heap.size ≤ R ∧ R < W1.drew.heap.size := by have := hkd.size; omega
 generalize W1.drew = W5 at hS hR hk hRl ⊢
 clear hkd hb hb2 hB hB1 hB2 hk1 hk2
 refine wpAnyH_sym (by kernel_rfl) (fun _ _ _ _ _ h => h) hS [(0, some (.agg G)), (2, none), (3, some (.int .u64 x.id))] (l' := #[true, false, true, true, false, false, false, false, false, false]) (a' := { tmps := #[.agg G, .agg C, .pointer (some ⟨B, 0, none⟩), .pointer (some ⟨B2, 0, none⟩), .pointer (some ⟨R, 0, none⟩), ud, ud, undef, .agg G, undef, .pointer (some ⟨B2, 0, none⟩), .int .u64 x.id, ud, ud, ud, ud, ud, ud, ud, ud, ud, ud, ud, ud, ud, ud, ud, ud, ud, ud, ud, ud, ud, undef], defers := [] }) (obs := [.load 25 B 0 (.agg G), .load 22 B2 0 (.int .u64 x.id)]) (n := 7) (by kernel_rfl) (by kernel_rfl) ⟨ob_loadb (fun _ h => h.1) Try.underlying25 (by kernel_rfl) hzG, ob_load1 (fun _ h => h.2) d0 Try.isAgg22, trivial⟩ ?_
 refine wpAnyH_callL (i := 1) (fuel := 6) (f := 48) (vs := [.agg G]) (d := some 9) (by kernel_rfl) (by kernel_rfl) (by kernel_rfl) Try.call48 (objectsG_any c3) ?_
 rintro e W6 ⟨rfl, hb6⟩
 refine ⟨_, rfl, ⟨hS.1.next hb6, hS.2.next hb6⟩, ?_⟩
 replace hS : Blk W6 B G 25 ∧ Blk W6 B2 C 54 := ⟨hS.1.next hb6, hS.2.next hb6⟩
 replace hR := hR.next hb6
 replace hk := hk.trans (hb6.mono hk.size)
 refine wpAnyH_callL (i := 4) (fuel := 5) (f := 49) (vs := [.agg #[.slice ao n cap, .func (.func 63) #[] #[]], .int .u64 x.id]) (d := some 12) (by kernel_rfl) (by kernel_rfl) (by kernel_rfl) Try.call49 (hwh _ hk) ?_
 rintro e W7 ⟨rfl, hb7⟩
 refine ⟨_, rfl, ⟨hS.1.next hb7, hS.2.next hb7⟩, ?_⟩
 replace hS : Blk W7 B G 25 ∧ Blk W7 B2 C 54 := ⟨hS.1.next hb7, hS.2.next hb7⟩
 replace hR := hR.next hb7
 replace hk := hk.trans (hb7.mono hk.size)
 replace hRl : w.heap.size ≤ R ∧ R < W7.heap.size := ⟨hRl.1, hR.lt⟩
 refine wpAnyH_pure (by kernel_rfl) (fun _ _ _ _ _ h => h) hS [5, 6, 7, 8, 9] (l' := #[true, true, true, true, true, true, true, true, true, true]) (a' := { tmps := #[.agg G, .agg C, .pointer (some ⟨B, 0, none⟩), .pointer (some ⟨B2, 0, none⟩), .pointer (some ⟨R, 0, none⟩), .int .i64 k, .int .i64 f, .tuple #[.int .i64 k, .int .i64 f], .agg G, .agg #[.slice ao n cap, .func (.func 63) #[] #[]], .pointer (some ⟨B2, 0, none⟩), .int .u64 x.id, .tuple #[.int .i64 k, .int .i64 f], .int .i64 k, .int .i64 f, ud, ud, ud, ud, ud, ud, ud, ud, ud, ud, ud, ud, ud, ud, ud, ud, ud, ud, undef], defers := [] }) (n := 0) (by kernel_rfl) (by kernel_rfl) ?_
 refine wpAnyH_done (by kernel_rfl) ?_ _
 obtain ⟨hb, hb2⟩ := hS
 clear hb6 hb7 hwh
 go_wp2_with (first
  | go_skip
  | (with_reducible refine wpList_load1 (by kernel_rfl) _ _ rfl B _ rfl _ _ hb _ c3 ga3 ?_)
  | ((with_reducible refine wpList_test (by kernel_rfl) .eql _ _ _ _ rfl _ _ rfl rfl (eqg_int _ _ _ _ _ _) ?_ ?_) <;> intro hq)
  | ((with_reducible refine wpList_test (by kernel_rfl) .geq _ _ _ _ rfl _ _ rfl rfl (tge_int _ _ _ _ _ _) ?_ ?_) <;> first | (intro hq2; exfalso; have h9 : (1024 : Int) ≤ n := hq2.out; omega) | (intro hq2))
  | (with_reducible refine wpList_load_blk rfl _ _ rfl B rfl _ hb _ Try.underlying25 rfl hzG ?_)
  | (with_reducible refine wpList_load_blk rfl _ _ rfl B2 rfl _ hb2 _ Try.underlying54 rfl (size40C hz) ?_)
  | ((with_reducible refine wpList_bs1 rfl _ rfl C rfl hz ?_); intro Bq W8 hBq hbq hk8; replace hR := hR.next hk8; replace hk := hk.trans (hk8.mono hk.size); have hO1 := obs_one hbq (hx.laterK fun b hb => hk.block b (hD b hb)))
  | (go_at_call 50; (with_reducible refine (hex _ hk _ hO1).mono ?_); rintro e w3 ⟨ao2, n2, cap2, rfl, hO, hb3⟩; replace hR := hR.next hb3; have hkf := hk.trans (hb3.mono hk.size))
  | ((with_reducible refine wpList_store_blk rfl _ _ _ rfl R rfl _ rfl zW hR (hz2 _) (hs2 _) (h12 _ _ _) ?_); intro W4 hR4 o4))
 all_goals
  have hRl' : w.heap.size ≤ R ∧ R < W8.heap.size := ⟨hRl.1, Nat.lt_of_lt_of_le hRl.2 hk8.size⟩
  refine bodyPost_ret (v := .agg _) (res43 Try.results23 rfl hR4 rfl) rfl ?_
  refine ⟨ao2, n2, cap2, rfl, ?_, o4.below _ _ hRl.1 hkf⟩
  rw [← hpt.out]
  have hsz := hk.size
  exact (hO.to o4 hRl'.2 fun q => by rcases q with q | q; have := hD _ q; omega; omega).wide (fun b hb => hb.elim .inl fun q => .inr (by omega)) (by omega)
end Go.Proofs.Ytcmcakandbpjfaa
namespace Go.Proofs.Ytcmcakandbpjfaa
set_option maxRecDepth 100000
set_option maxHeartbeats 8000000
open Go.RowKit Go.Shelf
set_option linter.unusedVariables false
attribute [local go_sem] Oper.semAt_some

section
variable {ops : Array Oper} {rest : List Oper} {op : Oper} {a : Act} {Q : Exit → Act → World → Prop} {w : World}
theorem wpList_loadc (hw : Region.wanted op (yielded ops a.tmps) = true) (ty : TypeId) (x : Operand) (ho : op.op = .load ty x) (b o : Nat) (hx : a.eval x = .pointer (some ⟨b, o, none⟩)) (v : Value) (hv : w.cell? ⟨b, o, none⟩ = some v) (hg : ∀ w, (isAgg ty).run Try.prog w = .ok false w) (h : wpList Try.prog ops Q rest (a.put op.dst v) w) : wpList Try.prog ops Q (op :: rest) a w := by
 refine wpList_val hw ?_ h
 have : (loadVar ty ⟨b, o, none⟩).run Try.prog w = .ok v w := by simp [loadVar, hg, hv]
 unfold execOp
 simp [ho, hx, Instr.loadAt, Instr.sureAddr, this]
end
theorem own_next {w w' : World} {base : Nat} {e : TypeId} {k : Nat} {v : Value} {n : Nat} {xs : List Value} (h : w.ownsRow base e k v n xs) (q : Below w.heap.size w w') : w'.ownsRow base e k v n xs := by
 refine ⟨h.1, ?_⟩
 rcases h.2 with r | ⟨g, c, cur, e1, e2, e3, e4⟩
 ·exact .inl r
 ·exact .inr ⟨g, c, cur, e1, e2, (q.block g (Array.getElem?_eq_some_iff.1 e3).1).trans e3, e4⟩
theorem row_one {W : World} {B : Nat} {C : Array Value} (h : Blk W B C 54) (hz : C.size = 51) : RowC 51 (LtN W) W (some ⟨B, 0, none⟩) 1 1 C.toList :=
 ⟨by simpa using hz, Nat.le_refl _, ⟨by omega, fun e => by cases e⟩, fun _ => ⟨B, 0, rfl, h.lt, h.range0⟩⟩
theorem obC_one {D : Nat → Prop} {w : World} {C : Array Value} {x : Ob} (h : ObD D w C x) : ∀ u ∈ C.toList, u.oneCell' = true := (RowO.single h).one
theorem obs_atD {E D : Nat → Prop} {w : World} {ao : Option Addr} {n cap : Nat} {l : List Ob} (h : ObsD E D w ao n cap l) {i : Nat} (hi : i < n) : ∃ b off C, ao = some ⟨b, off, none⟩ ∧ E b ∧ ObD D w C (oat l i) ∧ w.rangeAt b (off + i * 51) C.toList := by
 obtain ⟨b, off, e, hb, hc⟩ := h.2.2.2 (by omega)
 obtain ⟨C, hC, hr⟩ := hc i hi
 exact ⟨b, off, C, e, hb, hC, hr⟩
theorem fnd_first {X : List Ob} {i : Int} {k : Nat} (h : ∀ q, q < k → (oat X q).id ≠ i) (hk : k < X.length) (e : (oat X k).id = i) : fnd X i = some (oat X k) := by
 unfold fnd
 rw [List.find?_eq_some_iff_getElem]
 refine ⟨by simpa using e, k, hk, (oat_get hk).symm, fun j hj => ?_⟩
 have := h j hj
 rw [oat_get (by omega)] at this
 simpa using this
theorem rfind_d {w : World} {t ke ro : Int} {ao : Option Addr} {n cap : Nat} {X : List Ob} {i : Int} {D0 : Nat → Prop} (hD : ∀ b, D0 b → b < w.heap.size) (h : ObsD (LtN w) D0 w ao n cap X) : Calls Try.prog 16 #[.agg #[.int .i64 t, .int .u64 ke, .int .u64 ro, .slice ao n cap], .int .u64 i] w fun e w' => ∃ C', e = .returned (.tuple #[.agg C', .bool (fnd X i).isSome]) ∧ ObD D0 w' C' ((fnd X i).getD zOb) ∧ Below w.heap.size w w' := by
 have hn : Hid (X.length = n) := h.1
 have hnc := h.2.1
 have hcm := h.2.2.1.1
 have ga1 := Try.isAgg22
 have ga3 := Try.isAgg23
 have c3 : (#[.int .i64 t, .int .u64 ke, .int .u64 ro, .slice ao n cap] : Array Value)[3]? = some (.slice ao n cap) := rfl
 have hzG : (Try.prog.info? 25).map (·.size) = some (#[.int .i64 t, .int .u64 ke, .int .u64 ro, .slice ao n cap] : Array Value).size := size43
 obtain ⟨G, hG⟩ : ∃ G : Array Value, G = #[.int .i64 t, .int .u64 ke, .int .u64 ro, .slice ao n cap] := ⟨_, rfl⟩
 rw [← hG] at c3 hzG
 rw [← hG]
 clear hG
 go_enter Try.func16, Try.ntmps16
 go_wp2_with (first
  | (with_reducible refine wpList_box rfl _ _ rfl G rfl ?_; intro B W hB hb hk)
  | ((with_reducible refine wpList_alloc rfl _ rfl zC zero40 ?_); intro R W1 hB1 hR hk1; replace hb := hb.next hk1; replace hk := hk.trans (hk1.mono hk.size)))
 have hRl : Hid (w.heap.size ≤ R) := by have := hB.out; have := hB1.out; show _ ≤ _; omega
 clear hB hB1 hk1
 go_loopw [6] (fun j wr => ∃ k : Nat, k ≤ n ∧ j = .int .i64 k ∧ Hid (∀ q, q < k → (oat X q).id ≠ i) ∧ Blk wr B G 25 ∧ Blk wr R zC 54 ∧ Below w.heap.size w wr) (fun j _ => n - (intOf j).toNat)
 case atStart => exact ⟨0, Nat.zero_le _, rfl, fun q hq => absurd hq (by omega), hb, hR, hk⟩
 case round =>
  clear hb hR hk
  obtain ⟨k, hk, rfl, hal, hb, hR, hbw⟩ := hrel
  have hbs := hbw.size
  by_cases hkn : k < n
  ·obtain ⟨b, off, C, rfl, hbb, hC, hr⟩ := obs_atD (obsD_next h hD hbw) hkn
   have hkn' : (k : Int) < n := by omega
   have hz := hC.size
   have hid : wr.cell? ⟨b, off + k * 51, none⟩ = some (.int .u64 (oat X k).id) := by simpa using hr 0 _ (by simpa using hC.id)
   go_wp2_with (first
    | (with_reducible refine wpList_load1 (by kernel_rfl) _ _ rfl B _ rfl _ _ hb _ (by assumption) (by assumption) ?_)
    | (with_reducible refine wpList_loadc (by kernel_rfl) _ _ rfl b _ rfl _ hid ga1 ?_)
    | ((with_reducible refine wpList_test (by kernel_rfl) .eql _ _ _ _ rfl _ _ rfl rfl (eqg_int _ _ _ _ _ _) ?_ ?_) <;> intro hq)
    | (with_reducible refine wpList_loadm (by kernel_rfl) 54 _ rfl b _ rfl C hr _ Try.underlying54 (by kernel_rfl) (size40C hz) ?_)
    | ((with_reducible refine wpList_store_blk rfl _ _ _ rfl R rfl C rfl zC hR (size40C hz) (zC_size.trans hz.symm) hC.one ?_); intro W4 hR4 o4))
   ·refine bodyPost_ret (v := .tuple #[.agg C, .bool true]) (res40b Try.results16 rfl rfl hR4 hz) rfl ?_
    rw [fnd_first hal.out (by rw [hn.out]; exact hkn) hq.out]
    have hRo := hRl.out
    exact ⟨C, rfl, hC.laterK fun b hb => o4.block b (by have := hD b hb; omega), o4.below _ _ hRo hbw⟩
   ·go_roundw
    case rel => exact ⟨k + 1, by omega, by go_num, fn_succ hal.out hq.out, hb, hR, hbw⟩
    case measure => simp [intOf]; omega
  ·obtain rfl : k = n := by omega
   go_wp2_with (first
    | (with_reducible refine wpList_load1 (by kernel_rfl) _ _ rfl B _ rfl _ _ hb _ (by assumption) (by assumption) ?_)
    | ((with_reducible refine wpList_build rfl _ [] rfl zC ?hf ?_); (case hf => exact built_z))
    | ((with_reducible refine wpList_store_blk rfl _ _ _ rfl R rfl zC rfl zC hR (size40C zC_size) rfl (zC_d (fun _ => True) w).one ?_); intro W4 hR4 o4))
   have hx : fnd X i = none := fnd_none.2 fun x hx => by
    obtain ⟨q, hq, rfl⟩ := List.getElem_of_mem hx
    have := hal.out q (by rw [← hn.out]; exact hq)
    rwa [oat_get hq] at this
   refine bodyPost_ret (v := .tuple #[.agg zC, .bool false]) (res40b Try.results16 rfl rfl hR4 zC_size) rfl ?_
   rw [hx]
   exact ⟨zC, rfl, zC_d _ _, o4.below _ _ hRl.out hbw⟩
def rdr (X : List Ob) (i : Int) : List Ob := X.filter fun x => decide (x.id ≠ i)
theorem rdr_eq {X : List Ob} (h : Srt X) (i : Int) : rdr X i = drpL X i := by
 refine srt_ext (h.filter _) (srt_drp h i) fun x => ?_
 unfold rdr
 rw [List.mem_filter, mem_drp, decide_eq_true_iff]
theorem rdr_succ {X : List Ob} {i : Int} {k : Nat} (hk : k < X.length) : rdr (X.take (k + 1)) i = rdr (X.take k) i ++ (if (oat X k).id ≠ i then [oat X k] else []) := by
 unfold rdr
 rw [List.take_add_one, List.filter_append, List.getElem?_eq_getElem hk, oat_get hk]
 congr 1
 simp only [Option.toList_some, List.filter_cons, List.filter_nil, decide_eq_true_iff]
end Go.Proofs.Ytcmcakandbpjfaa
