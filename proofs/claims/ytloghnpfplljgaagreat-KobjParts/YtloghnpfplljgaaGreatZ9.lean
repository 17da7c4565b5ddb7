/-
 PROVED HERE: what package obj's exchanged returns when it is called: a world with other objects in the place of some, all i. What is asked stands at each.
-/
import Derived.RangeFuncNested
import Derived.Test.YtloghnpfplljgaaGreatZ8
namespace Go.Proofs.YtloghnpfplljgaaGreat
set_option maxRecDepth 100000
set_option maxHeartbeats 8000000
set_option linter.unusedVariables false
open Go.Proofs.Tryz
section
open Go.RowKit Go.Shelf
attribute [local go_sem] Oper.semAt_some
def g7z (ops : Array Oper) (o : Oper) (a : Act) : Option (TypeId × Nat × Nat × Option Tmp) :=
 if Region.wanted o (yielded ops a.tmps) then
  match o.op with
  | .load t x =>
   match a.eval x with
   | .pointer (some ⟨b, off, none⟩) => some (t, b, off, o.dst)
   | _ => none
  | _ => none
 else none
def bsOf (ops : Array Oper) (o : Oper) (a : Act) : Option (TypeId × Nat × List (Nat × Value) × Option Tmp) :=
 if Region.wanted o (yielded ops a.tmps) then
  match o.op with
  | .buildSlice t n ps => some (t, n, ps.toList.map (fun p => (p.1, a.eval p.2)), o.dst)
  | _ => none
 else none
section
variable {ops : Array Oper} {Q : Exit → Act → World → Prop} {S : World → Prop} {w : World} {m : Nat} {a : Act} {l : Array Bool}
theorem xlz {i : Nat} {ty : TypeId} {b off : Nat} {v : Value} {d : Option Tmp} {K : Act → World → Prop} (hi : (ops[i]?).bind (fun o => g7z ops o a) = some (ty, b, off, d)) (hr : (loadVar ty ⟨b, off, none⟩).run prog w = .ok v w)
  (h : K (a.put d v) w) : wpOp prog ops Q i K a w := by
 cases ho : ops[i]? with
 | none => rw [ho] at hi; cases hi
 | some o =>
  rw [ho] at hi
  have hi' : g7z ops o a = _ := hi
  unfold g7z at hi'
  split at hi'
  ·rename_i hw
   split at hi'
   ·rename_i t x hop
    split at hi'
    ·rename_i b' o' hx
     cases hi'
     unfold wpOp
     simp only [ho, hw, if_true]
     left
     unfold Oper.wp execOp
     simp only [hop, hx, Instr.loadAt, Instr.sureAddr, Sem.run_bind, Sem.run_pure, Result.andThen_ok, hr]
     exact h
    ·cases hi'
   ·cases hi'
  ·cases hi'
theorem jFz {i : Nat} {t : TypeId} {n : Nat} {vs : List (Nat × Value)} {v : Value} {W : World} {d : Option Tmp} {K : Act → World → Prop} (hi : (ops[i]?).bind (fun o => bsOf ops o a) = some (t, n, vs, d)) (hr : (Instr.buildSlice t n vs.toArray).run prog w = .ok v W)
  (h : K (a.put d v) W) : wpOp prog ops Q i K a w := by
 cases ho : ops[i]? with
 | none => rw [ho] at hi; cases hi
 | some o =>
  rw [ho] at hi
  have hi' : bsOf ops o a = _ := hi
  unfold bsOf at hi'
  split at hi'
  ·rename_i hw
   split at hi'
   ·rename_i t x ps hop
    cases hi'
    have e : (ps.map fun (i, x) => (i, a.eval x)) = (ps.toList.map (fun p => (p.1, a.eval p.2))).toArray := by
     apply Array.ext'
     simp
    unfold wpOp
    simp only [ho, hw, if_true]
    left
    unfold Oper.wp execOp
    simp only [hop, e, Sem.run_bind, hr, Result.andThen_ok]
    exact h
   ·cases hi'
  ·cases hi'
end
variable {w : World}
theorem xKz {ty t : TypeId} {B o : Nat} {C : Array Value} {v : Value} (hB : Blk w B C t) (hv : C[o]? = some v) (hg : ∀ w, (isAgg ty).run prog w = .ok false w) : (loadVar ty ⟨B, o, none⟩).run prog w = .ok v w := by
 have hc : w.cell? ⟨B, o, none⟩ = some v := (hB.cell o).trans hv
 simp [loadVar, hg, hc]
theorem infoS : (prog.info? 23).map (fun i => (i.zero, i.size, i.bytes)) = some (some (.slice none 0 0), 1, 24) := by kernel_rfl
theorem run_bs3 {a0 a1 a2 : Option Addr} {n0 n1 n2 c0 c1 c2 : Nat} (w : World) : (Instr.buildSlice 189 3 #[(0, .slice a0 n0 c0), (1, .slice a1 n1 c1), (2, .slice a2 n2 c2)]).run prog w = .ok (.slice (some ⟨w.heap.size, 0, none⟩) 3 3) (w.alloc (.cells #[.slice a0 n0 c0, .slice a1 n1 c1, .slice a2 n2 c2] 23)) := by
 obtain ⟨i0, hi, hz0, hz1, hz2⟩ := info_parts infoS
 refine run_buildSlice w _ _ 3 _ _ i0 _ underlying189 hi hz0 (by rw [hz1]; omega) (by rw [hz1]; omega) ?_
 rw [hz1]
 have := Great.fill_whole (s := 1) (by omega) [.slice a0 n0 c0, .slice a1 n1 c1, .slice a2 n2 c2] ((Array.range (3 * 1)).map ((Value.slice none 0 0).cells[· % (Value.slice none 0 0).cells.size]!)) (by simp [Value.cells]) (by simp)
 simpa [Value.cells] using this
def zW : Array Value := #[.int .i64 0, .int .u64 0, .int .u64 0, .slice none 0 0]
theorem wyz (w : World) : (zeroValue 25).run prog w = .ok (.agg zW) w := Tryz.zeroValue25 w
theorem q0z : (prog.info? 25).map (·.size) = some 4 := by kernel_rfl
theorem res43 {fn : Func} {p : Tmp} (h : fn.results = #[.cell p 25]) {tmps : Array Value} {B : Nat} {C : Array Value} (hp : tmps.getD p undef = .pointer (some ⟨B, 0, none⟩)) (hB : Blk w B C 25) (hs : C.size = 4) : (results fn tmps).run prog w = .ok (.agg C) w :=
 results_cell_row h tmps w B 25 C (0, 0) _ hp hB underlying25 rfl (by rw [hs]; exact q0z)
variable {old C : Array Value}
theorem jTz {o j : Nat} {v : Value} (hs : o + C.size ≤ old.size) (h : C[j]? = some v) : (old.extract 0 o ++ C ++ old.extract (o + C.size) old.size)[o + j]? = some v := by
 have hj : j < C.size := (Array.getElem?_eq_some_iff.1 h).1
 rw [Array.getElem?_append, if_pos (by simp; omega), Array.getElem?_append, if_neg (by simp; omega)]
 simp
 rw [show o + j - min o old.size = j by omega]
 exact h
theorem jSz {o j : Nat} (hs : o + C.size ≤ old.size) (h : j < o ∨ o + C.size ≤ j) : (old.extract 0 o ++ C ++ old.extract (o + C.size) old.size)[j]? = old[j]? := by
 rcases h with h | h
 ·rw [Array.getElem?_append, if_pos (by simp; omega), Array.getElem?_append, if_pos (by simp; omega), Array.getElem?_extract, if_pos (by omega)]
  simp
 ·rw [Array.getElem?_append, if_neg (by simp; omega), Array.getElem?_extract]
  have hz : (old.extract 0 o ++ C).size = o + C.size := by simp; omega
  rw [hz]
  by_cases hj : j < old.size
  ·rw [if_pos (by omega), show o + C.size + (j - (o + C.size)) = j by omega]
  ·rw [if_neg (by omega)]; simp; omega
theorem kSz {o : Nat} (hs : o + C.size ≤ old.size) : (old.extract 0 o ++ C ++ old.extract (o + C.size) old.size).size = old.size := by simp; omega
abbrev Ey (F : Nat → Prop) (g R : Nat) (W : World) : Nat → Prop := fun b => b < W.heap.size ∧ F b ∧ b ≠ g ∧ b ≠ R
def RowG (F : Nat → Prop) (g R cp : Nat) (w : World) (Y : List Ob) (cur : Array Value) : Prop := Blk w g cur 55 ∧ cur.size = cp * 51 ∧ ∀ i, i < Y.length → ∃ C, ObD (Ey F g R w) w C (oat Y i) ∧ ∀ j v, C[j]? = some v → cur[i * 51 + j]? = some v
variable {F : Nat → Prop} {Y : List Ob} {g R cp : Nat} {cur : Array Value}
theorem RowG.next {w w' : World} (h : RowG F g R cp w Y cur) (k : Below w.heap.size w w') : RowG F g R cp w' Y cur := by
 obtain ⟨h1, h2, h3⟩ := h
 refine ⟨h1.next k, h2, fun i hi => ?_⟩
 obtain ⟨C, c1, c2⟩ := h3 i hi
 exact ⟨C, (c1.laterK fun b hb => k.block b hb.1).wide fun b hb => ⟨ltz hb.1 k.size, hb.2⟩, c2⟩
theorem RowG.put {w w' : World} {cur C : Array Value} {i : Nat} (h : RowG F g R cp w Y cur) (hi : i < Y.length) (hc : Y.length ≤ cp) (hC : ObD (Ey F g R w) w C (oat Y i)) (k : Oth g w w') (hb : Blk w' g (cur.extract 0 (0 + i * 51) ++ C ++ cur.extract (0 + i * 51 + C.size) cur.size) 55) : RowG F g R cp w' Y (cur.extract 0 (0 + i * 51) ++ C ++ cur.extract (0 + i * 51 + C.size) cur.size) := by
 have hz := hC.size
 have hle : 0 + i * 51 + C.size ≤ cur.size := by rw [h.2.1, hz]; have : (i + 1) * 51 ≤ cp * 51 := Nat.mul_le_mul_right _ (by omega); omega
 refine ⟨hb, (kSz hle).trans h.2.1, fun i' hi' => ?_⟩
 by_cases e : i' = i
 ·subst e
  refine ⟨C, (hC.laterK fun b hb => k.block b hb.2.2.1).wide fun b hb => ⟨by rw [k.size]; exact hb.1, hb.2⟩, fun j v hv => ?_⟩
  rw [show i' * 51 + j = 0 + i' * 51 + j by omega]
  exact jTz hle hv
 ·obtain ⟨C', c1, c2⟩ := h.2.2 i' hi'
  refine ⟨C', (c1.laterK fun b hb => k.block b hb.2.2.1).wide fun b hb => ⟨by rw [k.size]; exact hb.1, hb.2⟩, fun j v hv => ?_⟩
  have hj : j < 51 := by rw [← c1.size]; exact (Array.getElem?_eq_some_iff.1 hv).1
  rw [jSz hle (by omega)]
  exact c2 j v hv
theorem RowG.obs {w w' : World} (h : RowG F g R cp w Y cur) (k : Oth R w w') (hne : g ≠ R) (hc : Y.length ≤ cp) (hm : cp ≤ 9223372036854775807) : ObsD (fun b => b = g ∧ g < w'.heap.size) (fun b => F b ∧ b < w'.heap.size) w' (some ⟨g, 0, none⟩) Y.length cp Y := by
 have hb := h.1.other k hne
 refine ⟨rfl, hc, ⟨hm, fun e => by cases e⟩, fun hn => ⟨g, 0, rfl, ⟨rfl, hb.lt⟩, fun i hi => ?_⟩⟩
 obtain ⟨C, c1, c2⟩ := h.2.2 i hi
 refine ⟨C, (c1.laterK fun b hb => k.block b hb.2.2.2).wide fun b hb => ⟨hb.2.1, by rw [k.size]; exact hb.1⟩, fun j v hv => ?_⟩
 rw [hb.cell, Nat.zero_add]
 exact c2 j v (by simpa using hv)
theorem RowG.oth {w w' : World} (h : RowG F g R cp w Y cur) (k : Oth R w w') (hne : g ≠ R) : RowG F g R cp w' Y cur := by
 obtain ⟨h1, h2, h3⟩ := h
 refine ⟨h1.other k hne, h2, fun i hi => ?_⟩
 obtain ⟨C, c1, c2⟩ := h3 i hi
 exact ⟨C, (c1.laterK fun b hb => k.block b hb.2.2.2).wide fun b hb => ⟨by rw [k.size]; exact hb.1, hb.2⟩, c2⟩
def OwnR (F : Nat → Prop) (N : Nat) (w : World) (ao : Option Addr) (n cap : Nat) (Y : List Ob) : Prop :=
 (Y = [] ∧ ao = none ∧ n = 0 ∧ cap = 0) ∨ ∃ g R cur, ao = some ⟨g, 0, none⟩ ∧ n = Y.length ∧ n ≤ cap ∧ cap ≤ 9223372036854775807 ∧ N ≤ g ∧ RowG F g R cap w Y cur
variable {ao : Option Addr} {n cap : Nat}
theorem OwnR.obs {N : Nat} (h : OwnR F N w ao n cap Y) : ObsD (fun b => N ≤ b ∧ b < w.heap.size) (fun b => F b ∧ b < w.heap.size) w ao n cap Y := by
 rcases h with ⟨rfl, rfl, rfl, rfl⟩ | ⟨g, R, cur, rfl, rfl, hc, hm, hN, h1, h2, h3⟩
 ·exact ObsD.nil _ _ _
 ·refine ⟨rfl, hc, ⟨hm, fun e => by cases e⟩, fun hn => ⟨g, 0, rfl, ⟨hN, h1.lt⟩, fun i hi => ?_⟩⟩
  obtain ⟨C, c1, c2⟩ := h3 i hi
  refine ⟨C, c1.wide fun b hb => ⟨hb.2.1, hb.1⟩, fun j v hv => ?_⟩
  rw [h1.cell, Nat.zero_add]
  exact c2 j v (by simpa using hv)
theorem OwnR.wide {F F' : Nat → Prop} {N N' : Nat} (h : OwnR F N w ao n cap Y) (hF : ∀ b, F b → F' b) (hN : N' ≤ N) : OwnR F' N' w ao n cap Y := by
 rcases h with h | ⟨g, R, cur, e, hn, hc, hm, hg, h1, h2, h3⟩
 ·exact .inl h
 ·refine .inr ⟨g, R, cur, e, hn, hc, hm, Nat.le_trans hN hg, h1, h2, fun i hi => ?_⟩
  obtain ⟨C, c1, c2⟩ := h3 i hi
  exact ⟨C, c1.wide fun b hb => ⟨hb.1, hF b hb.2.1, hb.2.2⟩, c2⟩
theorem OwnR.to {N P : Nat} {w w' : World} (h : OwnR F N w ao n cap Y) (k : Oth P w w') (hP : P < N) (hF : ¬ F P) : OwnR F N w' ao n cap Y := by
 rcases h with h | ⟨g, R, cur, e, hn, hc, hm, hN, h1, h2, h3⟩
 ·exact .inl h
 ·refine .inr ⟨g, R, cur, e, hn, hc, hm, hN, h1.other k (by omega), h2, fun i hi => ?_⟩
  obtain ⟨C, c1, c2⟩ := h3 i hi
  exact ⟨C, (c1.laterK fun b hb => k.block b fun q => hF (q ▸ hb.2.1)).wide fun b hb => ⟨by rw [k.size]; exact hb.1, hb.2⟩, c2⟩
theorem uqz {t ke ro : Int} {ao ao' : Option Addr} {n cap m cap' k f : Nat} {X O : List Ob} {D0 : Nat → Prop} (hD : ∀ b, D0 b → b < w.heap.size) (h : ObsD (LtN w) D0 w ao n cap X) (h' : ObsD (LtN w) D0 w ao' m cap' O) (hkn : k ≤ n) (hfn : f ≤ n) (hn16 : n ≤ 4096) (hm16 : m ≤ 4096) (hsm : q3z X) (hsm' : q3z O) : Calls prog 83 #[.agg #[.int .i64 t, .int .u64 ke, .int .u64 ro, .slice ao n cap], .int .i64 k, .int .i64 f, .slice ao' m cap'] w fun e w' => ∃ ao2 n2 cap2, e = .returned (.agg #[.int .i64 t, .int .u64 ke, .int .u64 ro, .slice ao2 n2 cap2]) ∧ OwnR (fun b => D0 b ∨ w.heap.size ≤ b) w.heap.size w' ao2 n2 cap2 (X.take k ++ O ++ X.drop f) ∧ Below w.heap.size w w' := by
 have hmx : prog.follows .mixedOrders = true := by kernel_rfl
 have ga3 := isAgg23
 have hnc := h.2.1
 have hX : Hid (X.length = n) := h.1
 have hO : Hid (O.length = m) := h'.1
 have hYs : Hid (q3z (X.take k ++ O ++ X.drop f)) := by
  refine (?_ : q3z (X.take k ++ O ++ X.drop f))
  intro x hx
  rw [List.mem_append, List.mem_append] at hx
  rcases hx with (q | q) | q
  ·exact hsm x (List.mem_of_mem_take q)
  ·exact hsm' x q
  ·exact hsm x (List.mem_of_mem_drop q)
 have h1 := ObsD.to h hkn
 obtain ⟨a3, h3, hsl⟩ := yhz h hfn
 have hn3 : n - f ≤ 4096 := by omega
 have hYl : Hid ((X.take k ++ O ++ X.drop f).length = k + m + (n - f)) := by show _ = _; simp [hX.out, hO.out]; omega
 generalize hne : n - f = n3 at h3 hsl hn3 hYl
 generalize cap - f = cap3 at h3 hsl
 clear hne hsm hsm'
 have c3 : (#[.int .i64 t, .int .u64 ke, .int .u64 ro, .slice ao n cap] : Array Value)[3]? = some (.slice ao n cap) := rfl
 have cS : ∀ v, (#[.int .i64 t, .int .u64 ke, .int .u64 ro, .slice ao n cap] : Array Value).setIfInBounds 3 v = #[.int .i64 t, .int .u64 ke, .int .u64 ro, v] := fun v => rfl
 have hzG : (#[.int .i64 t, .int .u64 ke, .int .u64 ro, .slice ao n cap] : Array Value).size = 4 := rfl
 obtain ⟨G, hG⟩ : ∃ G : Array Value, G = #[.int .i64 t, .int .u64 ke, .int .u64 ro, .slice ao n cap] := ⟨_, rfl⟩
 rw [← hG] at c3 cS hzG
 rw [← hG]
 clear hG
 generalize X.take k = X1 at h1 hYs hYl ⊢
 generalize X.drop f = X3 at h3 hYs hYl ⊢
 go_enter func83, ntmps83
 go_wp2_with (first
  | (with_reducible refine qcz rfl _ _ rfl G rfl ?_; intro B W hB hb hk)
  | ((with_reducible refine qdz rfl _ rfl zW wyz ?_); intro R W0 hB1 hR hk1; replace hb := hb.next hk1; have hkw := btz hk hk1; have hBR : Hid (B ≠ R ∧ w.heap.size ≤ B ∧ w.heap.size ≤ R ∧ B < W0.heap.size ∧ R < W0.heap.size) := (by have := hB.out; have := hB1.out; refine (⟨?_, ?_, ?_, ?_, ?_⟩ : _ ∧ _ ∧ _ ∧ _ ∧ _) <;> omega); clear hB hB1 hk hk1))
 refine PgM.region_out (S := fun _ => True) hmx trivial (fun _ => ?_)
 have hkd := (brz W0.heap.size W0).drew
 have hk := btz hkw hkd
 replace hb := hb.next hkd
 replace hR := hR.next hkd
 replace hBR : Hid (B ≠ R ∧ w.heap.size ≤ B ∧ w.heap.size ≤ R ∧ B < W0.drew.heap.size ∧ R < W0.drew.heap.size) := by have := hBR.out; have := hkd.size; refine (⟨?_, ?_, ?_, ?_, ?_⟩ : _ ∧ _ ∧ _ ∧ _ ∧ _) <;> omega
 generalize W0.drew = W1 at hb hR hBR hk ⊢
 clear hkd hkw
 refine qmz (by kernel_rfl) (fun _ _ _ _ _ h => h) trivial [(0, none), (2, none), (4, none), (5, none), (7, none)] (l' := #[tt, ff, tt, ff, tt, tt, ff, tt, ff, ff, ff, ff, ff]) (a' := { tmps := #[.agg G, .int .i64 k, .int .i64 f, .slice ao' m cap', .pointer (some ⟨B, 0, none⟩), undef, undef, undef, .pointer (some ⟨R, 0, none⟩), undef, undef, .pointer (some ⟨B, 3, none⟩), undef, .int .i64 k, undef, .slice ao' m cap', .pointer (some ⟨B, 3, none⟩), undef, .int .i64 f, undef, undef, undef, undef, undef, undef, undef, undef, undef, undef, undef, undef, undef, undef, undef, undef, undef, undef, undef, undef], defers := [] }) (obs := []) (n := 8) (by kernel_rfl) (by kernel_rfl) trivial ?_
 refine share 4 #[true, true, true, true, true, true, true, true, true, false, false, false, false] (fun A W => A = { tmps := #[.agg G, .int .i64 k, .int .i64 f, .slice ao' m cap', .pointer (some ⟨B, 0, none⟩), undef, undef, undef, .pointer (some ⟨R, 0, none⟩), undef, undef, .pointer (some ⟨B, 3, none⟩), .slice ao n cap, .int .i64 k, .slice ao k cap, .slice ao' m cap', .pointer (some ⟨B, 3, none⟩), .slice ao n cap, .int .i64 f, .slice a3 n3 cap3, undef, undef, undef, undef, undef, undef, undef, undef, undef, undef, undef, undef, undef, undef, undef, undef, undef, undef, undef], defers := [] } ∧ Blk W B G 25 ∧ Blk W R zW 25 ∧ Below w.heap.size w W) ?_ (fun rest => ?_)
 ·clear hb hR hk
  rintro A W ⟨rfl, hb, hR, hk⟩
  refine qkz (i := 9) (n := 3) rfl (by kernel_rfl) ?_
  refine jFz (t := 189) (n := 3) (vs := [(0, .slice ao k cap), (1, .slice ao' m cap'), (2, .slice a3 n3 cap3)]) (d := some 20) (by kernel_rfl) (run_bs3 W) ?_
  refine ⟨trivial, ?_⟩
  have kq := (brz W.heap.size W).alloc (lrz _) (.cells #[.slice ao k cap, .slice ao' m cap', .slice a3 n3 cap3] 23)
  have hq := Blk.new W #[.slice ao k cap, .slice ao' m cap', .slice a3 n3 cap3] 23
  generalize W.alloc (.cells #[.slice ao k cap, .slice ao' m cap', .slice a3 n3 cap3] 23) = W2 at kq hq ⊢
  generalize W.heap.size = Bq at hq ⊢
  replace hb := hb.next kq
  replace hR := hR.next kq
  replace hk := btz hk kq
  clear kq
  obtain ⟨s1, o1, r1⟩ := h1.rows
  obtain ⟨s2, o2, r2⟩ := h'.rows
  obtain ⟨s3, o3, r3⟩ := h3.rows
  have hBl : Hid (B < W2.heap.size ∧ R < W2.heap.size ∧ w.heap.size ≤ W2.heap.size) := ⟨hb.lt, hR.lt, hk.size⟩
  have hcat := gaz (w := W2) (Bq := Bq) (m := 3) (af := fun i => if i = 0 then ao else if i = 1 then ao' else a3) (nf := fun i => if i = 0 then k else if i = 1 then m else n3) (cf := fun i => if i = 0 then cap else if i = 1 then cap' else cap3) (sf := fun i => if i = 0 then s1 else if i = 1 then s2 else s3) hq
   (fun i hi => by rcases i with _ | _ | _ | i <;> first | rfl | (exfalso; omega))
   (fun i hi => by rcases i with _ | _ | _ | i <;> first | exact r1.next hk | exact r2.next hk | exact r3.next hk | (exfalso; omega))
   (fun i hi => by rcases i with _ | _ | _ | i <;> first | exact o1.one | exact o2.one | exact o3.one | (exfalso; omega)) (by omega) (by show 0 + k + m + n3 < 4294967296; omega)
  refine qrz (i := 10) (fuel := 2) (f := 135) (vs := [.slice (some ⟨Bq, 0, none⟩) 3 3]) (d := some 21) (by kernel_rfl) (by kernel_rfl) (by kernel_rfl) call135 hcat ?_
  rintro e W3 ⟨V, rfl, hown, kb⟩
  refine ⟨_, rfl, trivial, ?_⟩
  replace hb := hb.next kb
  replace hR := hR.next kb
  have hk3 := btz hk kb
  refine qmz (by kernel_rfl) (fun _ _ _ _ _ h => h) trivial [(11, none)] (l' := #[tt, tt, tt, tt, tt, tt, tt, tt, tt, tt, tt, tt, ff]) (a' := { tmps := #[.agg G, .int .i64 k, .int .i64 f, .slice ao' m cap', .pointer (some ⟨B, 0, none⟩), undef, undef, undef, .pointer (some ⟨R, 0, none⟩), undef, undef, .pointer (some ⟨B, 3, none⟩), .slice ao n cap, .int .i64 k, .slice ao k cap, .slice ao' m cap', .pointer (some ⟨B, 3, none⟩), .slice ao n cap, .int .i64 f, .slice a3 n3 cap3, .slice (some ⟨Bq, 0, none⟩) 3 3, V, .pointer (some ⟨B, 3, none⟩), undef, undef, undef, undef, undef, undef, undef, undef, undef, undef, undef, undef, undef, undef, undef, undef], defers := [] }) (obs := []) (n := 1) (by kernel_rfl) (by kernel_rfl) trivial ?_
  have hVc : V.cells = #[V] ∧ V.oneCell' = true := by rcases hown.2 with ⟨q, _⟩ | ⟨g, c, cur, q, _⟩ <;> subst q <;> exact ⟨rfl, rfl⟩
  obtain ⟨W5, hst, hb5, o5⟩ := jdz (ty := 23) (j := 3) (v := V) hb hVc.1 (by kernel_rfl) (by rw [hzG]; omega) hVc.2
  refine qkz (i := 12) (n := 0) rfl (by kernel_rfl) ?_
  refine qQz (ty := 23) (B := B) (off := 3) (v := V) (d := none) (by kernel_rfl) hst ?_
  refine ⟨trivial, wpAnyH_done (by kernel_rfl) ?_ _⟩
  rw [cS] at hb5
  have hk5 := o5.below w.heap.size w hBR.out.2.1 hk3
  have hR5 := hR.other o5 (Ne.symm hBR.out.1)
  have hY := (((o1.app o2).app o3).laterK (w' := W5) fun b hb => hk5.block b (hD b hb))
  have hown' : W3.ownsRow W2.heap.size 55 51 V (k + m + n3) (s1 ++ s2 ++ s3) := by simpa [psum, pcat] using hown
  generalize k + m + n3 = N at hown' hYl
  obtain ⟨Y, hYe⟩ : ∃ Y, Hid (Y = X1 ++ O ++ X3) := ⟨_, rfl⟩
  rw [← hYe.out] at hYs hYl hY
  generalize s1 ++ s2 ++ s3 = cs at hY hown'
  have hB5 : Hid (B < W5.heap.size ∧ R < W5.heap.size) := ⟨hb5.lt, hR5.lt⟩
  have hRB := hBR.out.2.2.1
  clear hown hcat o1 o2 o3 r1 r2 r3 hst hq hb hR
  rcases hown'.2 with ⟨rfl, h0⟩ | ⟨g, cp, cur, rfl, hgb, hgk, hNc, hcm, hcs, htk⟩
  ·subst h0
   have hz43 : (prog.info? 25).map (·.size) = some (#[.int .i64 t, .int .u64 ke, .int .u64 ro, .slice none 0 0] : Array Value).size := q0z
   have hG1 : (#[.int .i64 t, .int .u64 ke, .int .u64 ro, .slice none 0 0] : Array Value).all (·.oneCell') = true := by kernel_rfl
   have c3' : (#[.int .i64 t, .int .u64 ke, .int .u64 ro, .slice none 0 0] : Array Value)[3]? = some (.slice none 0 0) := rfl
   obtain ⟨G2, hG2⟩ : ∃ G2 : Array Value, G2 = #[.int .i64 t, .int .u64 ke, .int .u64 ro, .slice none 0 0] := ⟨_, rfl⟩
   have hzz : zW.size = G2.size := by rw [hG2]; rfl
   rw [← hG2] at hb5 hz43 hG1 c3'
   go_wp2_with (first
    | (with_reducible refine qaz (by kernel_rfl) _ _ rfl B _ rfl _ _ hb5 _ c3' ga3 ?_))
   go_loopw [26] (fun i wr => i = .int .i64 0 ∧ Blk wr B G2 25 ∧ Blk wr R zW 25 ∧ Below w.heap.size w wr) (fun _ _ => 0)
   case atStart => exact ⟨rfl, hb5, hR5, hk5⟩
   case round =>
    obtain ⟨rfl, hbx, hRx, hbw⟩ := hrel
    go_wp2_with (first
     | (with_reducible refine qlz rfl _ _ rfl B rfl _ hbx _ underlying25 rfl hz43 ?_)
     | ((with_reducible refine qbz rfl _ _ _ rfl R rfl _ rfl zW hRx hz43 hzz hG1 ?_); intro W9 hR9 o9))
    refine bodyPost_ret (v := .agg _) (res43 results83 rfl hR9 (hzz.symm.trans rfl)) rfl ?_
    have hk9 := o9.below w.heap.size w hRB hbw
    rw [hG2]
    have hl : Y = [] := List.eq_nil_of_length_eq_zero hYl.out
    exact ⟨none, 0, 0, rfl, .inl ⟨by rw [← hYe.out]; exact hl, rfl, rfl, rfl⟩, hk9⟩
  ·have hz43 : (prog.info? 25).map (·.size) = some (#[.int .i64 t, .int .u64 ke, .int .u64 ro, .slice (some ⟨g, 0, none⟩) N cp] : Array Value).size := q0z
   have hG1 : (#[.int .i64 t, .int .u64 ke, .int .u64 ro, .slice (some ⟨g, 0, none⟩) N cp] : Array Value).all (·.oneCell') = true := by kernel_rfl
   have hzz : zW.size = (#[.int .i64 t, .int .u64 ke, .int .u64 ro, .slice (some ⟨g, 0, none⟩) N cp] : Array Value).size := rfl
   have c3' : (#[.int .i64 t, .int .u64 ke, .int .u64 ro, .slice (some ⟨g, 0, none⟩) N cp] : Array Value)[3]? = some (.slice (some ⟨g, 0, none⟩) N cp) := rfl
   have hgB : g ≠ B := by have := hBl.out; omega
   have hgR : g ≠ R := by have := hBl.out; omega
   have hgl : w.heap.size ≤ g := by have := hBl.out; omega
   have hrow : RowG (fun b => D0 b ∨ w.heap.size ≤ b) g R cp W5 Y cur := by
    refine ⟨(o5.block g hgB).trans hgk, hcs, fun i hi => ?_⟩
    obtain ⟨C, q1, q2⟩ := hY.at i hi
    refine ⟨C, q1.wide fun b hb => ⟨ltz (hD b hb) hk5.size, .inl hb, by have := hD b hb; omega, by have := hD b hb; omega⟩, fun j v hv => ?_⟩
    have hx := q2 j v hv
    rw [← htk, List.getElem?_take] at hx
    split at hx
    ·simpa using hx
    ·cases hx
   have hcm' : cp ≤ 9223372036854775807 := by unfold maxLen at hcm; omega
   have hYN : Y.length = N := hYl.out
   have hYH : Hid (Y.length = N) := hYN
   clear hY htk hgk hown' hcs hcm
   obtain ⟨G2, hG2⟩ : ∃ G2 : Array Value, Hid (G2 = #[.int .i64 t, .int .u64 ke, .int .u64 ro, .slice (some ⟨g, 0, none⟩) N cp]) := ⟨_, rfl⟩
   rw [← hG2.out] at hb5 hz43 hG1 c3' hzz
   go_wp2_with (first
    | (with_reducible refine qaz (by kernel_rfl) _ _ rfl B _ rfl _ _ hb5 _ c3' ga3 ?_))
   go_loopw [26] (fun i wr => ∃ (j : Nat) (cur : Array Value), j ≤ N ∧ i = .int .i64 j ∧ RowG (fun b => D0 b ∨ w.heap.size ≤ b) g R cp wr Y cur ∧ Blk wr B G2 25 ∧ Blk wr R zW 25 ∧ Below w.heap.size w wr) (fun i _ => N - (intOf i).toNat)
   case atStart => exact ⟨0, cur, Nat.zero_le _, rfl, hrow, hb5, hR5, hk5⟩
   case round =>
    clear hrow hb5 hR5 hk5 hk3 hk
    obtain ⟨j, cur, hjN1, rfl, hrow, hbx, hRx, hbw⟩ := hrel
    by_cases hjN : j < N
    ·have hjN' : (j : Int) < N := by omega
     have hbs := hbw.size
     obtain ⟨C, hC, hCc⟩ := hrow.2.2 j (by rw [hYN]; exact hjN)
     have hz := hC.size
     have hr : wr.rangeAt g (j * 51) C.toList := fun q v hv => by
      rw [hrow.1.cell]
      exact hCc q v (by simpa using hv)
     have hxs : Small (oat Y j) := hYs.out _ (wxz (by rw [hYN]; exact hjN))
     go_wp2_with (first
      | (with_reducible refine qxz (by kernel_rfl) 55 _ rfl g _ rfl C hr _ underlying55 (by kernel_rfl) (qfz hz) ?_)
      | ((with_reducible refine qdz rfl _ rfl zC qsz ?_); intro R1 W6 hB6 hR6 hk6)
      | ((with_reducible refine qbz rfl _ _ _ rfl R1 rfl C rfl zC hR6 (qfz hz) (qoz.trans hz.symm) hC.one ?_); intro W7 hR7 o7; have k7 := o7.below wr.heap.size wr (by have := hB6.out.1; omega) hk6))
     have hb7 := hbx.next k7
     have hrow7 := hrow.next k7
     have hRx7 := hRx.next k7
     refine PgM.region_out (S := fun W => Blk W B G2 25 ∧ Blk W R1 C 55) hmx ⟨hb7.next (brz _ _).drew, hR7.next (brz _ _).drew⟩ (fun hS => ?_)
     have hkd := (brz W7.heap.size W7).drew
     have hrow8 := hrow7.next hkd
     have hRx8 := hRx7.next hkd
     have k8 := btz k7 hkd
     have hR1g : Hid (R1 ≠ g ∧ R1 ≠ R) := by have h1 := hB6.out.1; have h2 := hrow.1.lt; have h3 := hRx.lt; refine (⟨?_, ?_⟩ : _ ∧ _) <;> omega
     generalize W7.drew = W8 at hS hrow8 hRx8 k8 ⊢
     clear hkd hrow7 hRx7 hb7 k7 hR6 hk6 hR7 o7 hB6
     refine qGz (by kernel_rfl) (fun _ _ _ _ _ h => h) hS [(0, none), (1, some (.slice (some ⟨g, 0, none⟩) N cp)), (2, none), (3, some (.agg C))] (obs := [.load 23 B 3 (.slice (some ⟨g, 0, none⟩) N cp), .load 55 R1 0 (.agg C)]) (n := 3) (by kernel_rfl) (by kernel_rfl) ⟨qez (fun _ h => h.1) c3' isAgg23, qBz (fun _ h => h.2) underlying55 (by kernel_rfl) (qfz hz), trivial⟩ ?_
     refine qrz (i := 4) (fuel := 2) (f := 82) (vs := [.agg C]) (d := some 35) (by kernel_rfl) (by kernel_rfl) (by kernel_rfl) call82 (j9z (ObD.next (hC.wide fun b hb => hb.1) k8) hxs) ?_
     rintro e W9 ⟨C', rfl, hC', hb9⟩
     have hS9 : Blk W9 B G2 25 ∧ Blk W9 R1 C 55 := ⟨hS.1.next hb9, hS.2.next hb9⟩
     refine ⟨_, rfl, hS9, ?_⟩
     refine qmz (by kernel_rfl) (fun _ _ _ _ _ h => h) hS9 [(5, some (.pointer (some ⟨g, 0 + j * 51, none⟩)))] (l' := #[tt, tt, tt, tt, tt, tt, ff]) (a' := { tmps := #[.agg G, .int .i64 k, .int .i64 f, .slice ao' m cap', .pointer (some ⟨B, 0, none⟩), undef, undef, undef, .pointer (some ⟨R, 0, none⟩), .int .i64 j, .pointer (some ⟨R1, 0, none⟩), .pointer (some ⟨B, 3, none⟩), .slice ao n cap, .int .i64 k, .slice ao k cap, .slice ao' m cap', .pointer (some ⟨B, 3, none⟩), .slice ao n cap, .int .i64 f, .slice a3 n3 cap3, .slice (some ⟨Bq, 0, none⟩) 3 3, .slice (some ⟨g, 0, none⟩) N cp, .pointer (some ⟨B, 3, none⟩), .pointer (some ⟨B, 3, none⟩), .slice (some ⟨g, 0, none⟩) N cp, .int .i64 N, .int .i64 j, .bool true, .int .i64 j, .pointer (some ⟨g, j * 51, none⟩), .agg C, .pointer (some ⟨B, 3, none⟩), .slice (some ⟨g, 0, none⟩) N cp, .int .i64 j, .agg C, .agg C', .pointer (some ⟨g, 0 + j * 51, none⟩), u37, undef], defers := [] }) (obs := [.ia 23 (.slice (some ⟨g, 0, none⟩) N cp) (.int .i64 j) (.pointer (some ⟨g, 0 + j * 51, none⟩))]) (n := 1) (by kernel_rfl) (by kernel_rfl) ⟨kZz hjN, trivial⟩ ?_
     have hrow9 := hrow8.next hb9
     have hz9 := hC'.size
     obtain ⟨W10, hst, hg10, o10⟩ := xxz (ty := 55) (o := 0 + j * 51) hrow9.1 (qfz hz9) (by rw [hrow9.2.1, hz9]; have : (j + 1) * 51 ≤ cp * 51 := Nat.mul_le_mul_right _ (by omega); omega) hC'.one
     have hb10 := (hS.1.next hb9).other o10 (Ne.symm hgB)
     refine qkz (i := 6) (n := 0) rfl (by kernel_rfl) ?_
     refine qQz (ty := 55) (B := g) (off := 0 + j * 51) (v := .agg C') (d := none) (by kernel_rfl) hst ?_
     refine ⟨⟨hb10, (hS.2.next hb9).other o10 hR1g.out.1⟩, wpAnyH_done (by kernel_rfl) ?_ _⟩
     have hrow10 := hrow9.put (by rw [hYN]; exact hjN) (by rw [hYN]; exact hNc) (hC'.wide fun b hb => ⟨hb.2, .inr (by have := hb.1; have := k8.size; omega), by have := hb.1; have := hrow8.1.lt; omega, by have := hb.1; have := hRx8.lt; omega⟩) o10 hg10
     have hR10 := (hRx8.next hb9).other o10 (Ne.symm hgR)
     have hk10 := o10.below w.heap.size w hgl (hbw.trans ((btz k8 hb9).mono hbs))
     clear hS hrow8 hRx8 hrow9 hg10 hst hC' hb9
     go_wp2
     go_roundw
     case rel => exact ⟨j + 1, _, by omega, by go_num, hrow10, hb10, hR10, hk10⟩
     case measure => simp [intOf]; omega
    ·obtain rfl : j = N := by omega
     go_wp2_with (first
      | (with_reducible refine qlz rfl _ _ rfl B rfl _ hbx _ underlying25 rfl hz43 ?_)
      | ((with_reducible refine qbz rfl _ _ _ rfl R rfl _ rfl zW hRx hz43 hzz hG1 ?_); intro W9 hR9 o9))
     refine bodyPost_ret (v := .agg _) (res43 results83 rfl hR9 (hzz.symm.trans rfl)) rfl ?_
     have hk9 := o9.below w.heap.size w hRB hbw
     exact ⟨some ⟨g, 0, none⟩, _, cp, by rw [hG2.out], .inr ⟨g, R, cur, rfl, by rw [← hYe.out]; exact hYN.symm, hNc, hcm', hgl, by rw [← hYe.out]; exact hrow.oth o9 hgR⟩, hk9⟩
 ·refine wBz (i := 1) (j := 6) (n := 7) rfl (by kernel_rfl) ?_ ?_
  ·refine xlz (ty := 23) (b := B) (off := 3) (v := .slice ao n cap) (d := some 12) (by kernel_rfl) (xKz hb c3 ga3) ?_
   refine ⟨trivial, ?_⟩
   refine qGz (by kernel_rfl) (fun _ _ _ _ _ h => h) trivial [(3, some (.slice ao k cap))] (obs := [.sl 23 (.slice ao n cap) (none) (some (.int .i64 k)) (none) (.slice ao k cap)]) (n := 6) (by kernel_rfl) (by kernel_rfl) ⟨fun W _ => vsz hkn hnc W, trivial⟩ ?_
   refine qkz (i := 6) (n := 5) rfl (by kernel_rfl) ?_
   refine xlz (ty := 23) (b := B) (off := 3) (v := .slice ao n cap) (d := some 17) (by kernel_rfl) (xKz hb c3 ga3) ?_
   refine ⟨trivial, ?_⟩
   refine qmz (by kernel_rfl) (fun _ _ _ _ _ h => h) trivial [(8, some (.slice a3 n3 cap3))] (l' := #[tt, tt, tt, tt, tt, tt, tt, tt, tt, ff, ff, ff, ff]) (a' := { tmps := #[.agg G, .int .i64 k, .int .i64 f, .slice ao' m cap', .pointer (some ⟨B, 0, none⟩), undef, undef, undef, .pointer (some ⟨R, 0, none⟩), undef, undef, .pointer (some ⟨B, 3, none⟩), .slice ao n cap, .int .i64 k, .slice ao k cap, .slice ao' m cap', .pointer (some ⟨B, 3, none⟩), .slice ao n cap, .int .i64 f, .slice a3 n3 cap3, undef, undef, undef, undef, undef, undef, undef, undef, undef, undef, undef, undef, undef, undef, undef, undef, undef, undef, undef], defers := [] }) (obs := [.sl 23 (.slice ao n cap) (some (.int .i64 f)) (none) (none) (.slice a3 n3 cap3)]) (n := 4) (by kernel_rfl) (by kernel_rfl) ⟨fun W _ => hsl W, trivial⟩ ?_
   exact rest _ _ ⟨rfl, hb, hR, hk⟩
  ·refine xlz (ty := 23) (b := B) (off := 3) (v := .slice ao n cap) (d := some 17) (by kernel_rfl) (xKz hb c3 ga3) ?_
   refine ⟨trivial, ?_⟩
   refine qGz (by kernel_rfl) (fun _ _ _ _ _ h => h) trivial [(8, some (.slice a3 n3 cap3))] (obs := [.sl 23 (.slice ao n cap) (some (.int .i64 f)) (none) (none) (.slice a3 n3 cap3)]) (n := 6) (by kernel_rfl) (by kernel_rfl) ⟨fun W _ => hsl W, trivial⟩ ?_
   refine qkz (i := 1) (n := 5) rfl (by kernel_rfl) ?_
   refine xlz (ty := 23) (b := B) (off := 3) (v := .slice ao n cap) (d := some 12) (by kernel_rfl) (xKz hb c3 ga3) ?_
   refine ⟨trivial, ?_⟩
   refine qmz (by kernel_rfl) (fun _ _ _ _ _ h => h) trivial [(3, some (.slice ao k cap))] (l' := #[tt, tt, tt, tt, tt, tt, tt, tt, tt, ff, ff, ff, ff]) (a' := { tmps := #[.agg G, .int .i64 k, .int .i64 f, .slice ao' m cap', .pointer (some ⟨B, 0, none⟩), undef, undef, undef, .pointer (some ⟨R, 0, none⟩), undef, undef, .pointer (some ⟨B, 3, none⟩), .slice ao n cap, .int .i64 k, .slice ao k cap, .slice ao' m cap', .pointer (some ⟨B, 3, none⟩), .slice ao n cap, .int .i64 f, .slice a3 n3 cap3, undef, undef, undef, undef, undef, undef, undef, undef, undef, undef, undef, undef, undef, undef, undef, undef, undef, undef, undef], defers := [] }) (obs := [.sl 23 (.slice ao n cap) (none) (some (.int .i64 k)) (none) (.slice ao k cap)]) (n := 4) (by kernel_rfl) (by kernel_rfl) ⟨fun W _ => vsz hkn hnc W, trivial⟩ ?_
   exact rest _ _ ⟨rfl, hb, hR, hk⟩
theorem exch_any {t ke ro : Int} {ao ao' : Option Addr} {n cap m cap' k f : Nat} {X O : List Ob} {D0 : Nat → Prop} (hD : ∀ b, D0 b → b < w.heap.size) (h : ObsD (LtN w) D0 w ao n cap X) (h' : ObsD (LtN w) D0 w ao' m cap' O) (hkn : k ≤ n) (hfn : f ≤ n) (hn16 : n ≤ 4096) (hm16 : m ≤ 4096) (hsm : q3z X) (hsm' : q3z O) : Calls prog 83 #[.agg #[.int .i64 t, .int .u64 ke, .int .u64 ro, .slice ao n cap], .int .i64 k, .int .i64 f, .slice ao' m cap'] w fun e w' => ∃ ao2 n2 cap2, e = .returned (.agg #[.int .i64 t, .int .u64 ke, .int .u64 ro, .slice ao2 n2 cap2]) ∧ ObsD (New w w') (fun b => D0 b ∨ New w w' b) w' ao2 n2 cap2 (X.take k ++ O ++ X.drop f) ∧ Below w.heap.size w w' :=
 (uqz hD h h' hkn hfn hn16 hm16 hsm hsm').mono fun _ _ ⟨a, n2, c, e, o, b⟩ => ⟨a, n2, c, e, o.obs.wide (fun _ hb => hb.1.elim .inl fun q => .inr ⟨q, hb.2⟩) (fun _ hb => hb), b⟩
def pureV (o : Oper) (a : Act) : Option Value :=
 match o.op with
 | .move x => some (a.eval x)
 | .assign x => some (a.eval x)
 | .extract x i =>
  match a.eval x with
  | .tuple vs => vs[i]?
  | _ => none
 | _ => none
def pureH (md : Region.Mode) (ops : Array Oper) : List Nat → Array Bool → Act → Option (Array Bool × Act)
 | [], l, a => some (l, a)
 | i :: r, l, a =>
  match ops[i]? with
  | none => none
  | some o =>
   if (Region.free md ops l i && (Region.ready md ops l).contains i && Region.wanted o (yielded ops a.tmps)) = true then
    match pureV o a with
    | none => none
    | some v => pureH md ops r (l.setIfInBounds i true) (a.put o.dst v)
   else none
section
variable {P : Program} {ops : Array Oper} {Q : Exit → Act → World → Prop} {w : World} {md : Region.Mode} {S : World → Prop}
theorem gSz {o : Oper} {a : Act} {v : Value} (h : pureV o a = some v) (w : World) : (execOp a.eval o).run P w = .ok (.value v) w := by
 unfold pureV at h
 split at h
 ·rename_i x ho; cases h; unfold execOp; simp [ho]
 ·rename_i x ho; cases h; unfold execOp; simp [ho]
 ·rename_i x i ho
  split at h
  ·rename_i vs hx
   unfold execOp; simp [ho, hx, h, Instr.extract]
  ·cases h
 ·cases h
theorem qXz (hs : Region.noSelect ops = true) (hQ : ∀ c a d v w, Q (.panic c) (Act.put a (some d) v) w → Q (.panic c) a w) (hS : S w) : ∀ (is : List Nat) {l l' : Array Bool} {a a' : Act} {n m : Nat}, m = n + is.length → pureH md ops is l a = some (l', a') → wpAnyH P md ops Q S n l' a' w → wpAnyH P md ops Q S m l a w
 | [], l, l', a, a', n, m, hm, h, q => by cases h; subst hm; exact q
 | i :: r, l, l', a, a', n, m, hm, h, q => by
  subst hm
  unfold pureH at h
  split at h
  ·cases h
  ·rename_i o ho
   split at h
   ·rename_i hf
    rw [Bool.and_eq_true, Bool.and_eq_true] at hf
    split at h
    ·cases h
    ·rename_i v hv
     exact wpAnyH_take ho hs hf.1.1 hf.1.2 (fun c a w h => putQ hQ h) (.inl ⟨hf.2, fun w _ => gSz hv w⟩) hS (qXz hs hQ hS r rfl h q)
   ·cases h
end
section
variable {ops : Array Oper} {rest : List Oper} {op : Oper} {a : Act} {Q : Exit → Act → World → Prop} {w : World}
theorem uEz (hgd : op.guard = none) (x : Operand) (ho : op.op = .buildSlice 23 1 #[(0, x)]) (C : Array Value) (hx : a.eval x = .agg C) (hz : C.size = 51)
  (h : ∀ B W, Hid (w.heap.size = B ∧ W.heap.size = B + 1) → Blk W B C 55 → Below w.heap.size w W → wpList prog ops Q rest (a.put op.dst (.slice (some ⟨B, 0, none⟩) 1 1)) W) : wpList prog ops Q (op :: rest) a w :=
 wpList_plain hgd fun K hK => by
  have e : (#[(0, x)].map fun ((i : Nat), x) => (i, a.eval x)) = #[(0, Value.agg C)] := by simp [hx]
  unfold Oper.wp execOp
  simp only [ho, e, Sem.run_bind, run_bs1 hz, Result.andThen_ok]
  exact hK _ _ (h _ _ ⟨rfl, by simp⟩ (Blk.new w C 55) ((brz _ w).alloc (lrz _) _))
end
variable {C : Array Value}
theorem obs_one {W : World} {B : Nat} {x : Ob} {D : Nat → Prop} (h : Blk W B C 55) (k : ObD D W C x) : ObsD (LtN W) D W (some ⟨B, 0, none⟩) 1 1 [x] :=
 ⟨rfl, lrz _, ⟨by omega, fun e => by cases e⟩, fun _ => ⟨B, 0, rfl, h.lt, fun i hi => by
  obtain rfl : i = 0 := by omega
  exact ⟨C, k, by simpa using h.range0⟩⟩⟩
variable {D0 : Nat → Prop} {ao : Option Addr} {n cap : Nat}
theorem wtz {w w' : World} {l : List Ob} (h : ObsD (LtN w) D0 w ao n cap l) (hD : ∀ b, D0 b → b < w.heap.size) (k : Below w.heap.size w w') : ObsD (LtN w') D0 w' ao n cap l :=
 (ObsD.laterK h (fun b hb => k.block b (hD b hb)) (fun b hb => k.block b hb)).wide (fun _ hb => hb) (fun b hb => ltz hb k.size)
variable {t ke ro : Int} {X : List Ob} {w : World}
theorem drop_w {i : Int} (hD : ∀ b, D0 b → b < w.heap.size) (h : ObsD (LtN w) D0 w ao n cap X) (hs : Srt X) (hn16 : n < 1024) (hsm : q3z X) : Calls prog 49 #[.agg #[.int .i64 t, .int .u64 ke, .int .u64 ro, .slice ao n cap], .int .u64 i] w fun e w' => ∃ ao2 n2 cap2, e = .returned (.agg #[.int .i64 t, .int .u64 ke, .int .u64 ro, .slice ao2 n2 cap2]) ∧ ObsD (New w w') (fun b => D0 b ∨ New w w' b) w' ao2 n2 cap2 (drpL X i) ∧ Below w.heap.size w w' := by
 have hn : Hid (X.length = n) := h.1
 have hsH : Hid (Srt X) := hs
 have hsmH : Hid (q3z X) := hsm
 have hle : ahd X i ≤ n := by rw [← hn.out]; exact k9z X i
 have hlf : fin X i ≤ n := by rw [← hn.out]; exact fin_le hs i
 have hwh := fun (W : World) (hk : Below w.heap.size w W) => x1z (i := i) (qwz (h.wide hD fun _ hb => hb) hk) hs (by omega)
 have c3 : (#[.int .i64 t, .int .u64 ke, .int .u64 ro, .slice ao n cap] : Array Value)[3]? = some (.slice ao n cap) := rfl
 have hzG : (prog.info? 25).map (·.size) = some (#[.int .i64 t, .int .u64 ke, .int .u64 ro, .slice ao n cap] : Array Value).size := q0z
 have hz2 : ∀ v, (prog.info? 25).map (·.size) = some (#[.int .i64 t, .int .u64 ke, .int .u64 ro, v] : Array Value).size := fun _ => q0z
 have hs2 : ∀ v, zW.size = (#[.int .i64 t, .int .u64 ke, .int .u64 ro, v] : Array Value).size := fun _ => rfl
 have h12 : ∀ ao n cap, (#[.int .i64 t, .int .u64 ke, .int .u64 ro, .slice ao n cap] : Array Value).all (·.oneCell') = true := fun _ _ _ => by kernel_rfl
 have hpt : Hid (X.take (ahd X i) ++ [] ++ X.drop (fin X i) = drpL X i) := gVz hs i
 generalize ahd X i = k at hle hpt hwh
 generalize fin X i = f at hlf hpt hwh
 have hex := fun (W : World) (hk : Below w.heap.size w W) => exch_any (t := t) (ke := ke) (ro := ro) (fun b hb => ltz (hD b hb) hk.size) (wtz h hD hk) (ObsD.nil _ _ W) hle hlf (by omega) (by omega) hsm (fun _ h => by cases h)
 obtain ⟨G, hG⟩ : ∃ G : Array Value, G = #[.int .i64 t, .int .u64 ke, .int .u64 ro, .slice ao n cap] := ⟨_, rfl⟩
 rw [← hG] at c3 hzG hex
 rw [← hG]
 clear hG hs hsm
 go_enter func49, ntmps49
 go_wp2_with (first
  | (with_reducible refine qcz rfl _ _ rfl G rfl ?_; intro B W hB hb hk)
  | ((with_reducible refine qdz rfl _ rfl zW wyz ?_); intro R W1 hB1 hR hk1; replace hb := hb.next hk1; replace hk := btz hk hk1)
  | (with_reducible refine qlz rfl _ _ rfl B rfl _ hb _ underlying25 rfl hzG ?_)
  | (go_at_call 80; (with_reducible refine (xez c3).mono ?_); rintro e w1 ⟨rfl, hb1⟩; replace hb := hb.next hb1; replace hR := hR.next hb1; replace hk := btz hk hb1)
  | (go_at_call 81; (with_reducible refine (hwh _ hk).mono ?_); rintro e w2 ⟨rfl, hb2⟩; replace hb := hb.next hb2; replace hR := hR.next hb2; replace hk := btz hk hb2)
  | (go_at_call 83; (with_reducible refine (hex _ hk).mono ?_); rintro e w3 ⟨ao2, n2, cap2, rfl, hO, hb3⟩; replace hR := hR.next hb3; have hkf := btz hk hb3)
  | ((with_reducible refine qbz rfl _ _ _ rfl R rfl _ rfl zW hR (hz2 _) (hs2 _) (h12 _ _ _) ?_); intro W4 hR4 o4))
 have hRl : w.heap.size ≤ R ∧ R < w2.heap.size := by have := hB.out; have := hB1.out; have := hb1.size; have := hb2.size; omega
 refine bodyPost_ret (v := .agg _) (res43 results49 rfl hR4 rfl) rfl ?_
 refine ⟨ao2, n2, cap2, rfl, ?_, o4.below _ _ hRl.1 hkf⟩
 rw [← hpt.out]
 have hsz := hk.size
 exact (hO.laterK (fun b hb => o4.block b (by rcases hb with q | q; have := hD b q; omega; have := q.1; omega)) (fun b hb => o4.block b (by have := hb.1; omega))).wide (fun b hb => by rcases hb with q | q; exact .inl q; exact .inr ⟨by have := q.1; omega, by rw [o4.size]; exact q.2⟩) (fun b hb => ⟨by have := hb.1; omega, by rw [o4.size]; exact hb.2⟩)
theorem put_own {x : Ob} (hD : ∀ b, D0 b → b < w.heap.size) (h : ObsD (LtN w) D0 w ao n cap X) (hs : Srt X) (hn16 : n < 1024) (hsm : q3z X) (hx : ObD D0 w C x) (hxs : Small x) : Calls prog 142 #[.agg #[.int .i64 t, .int .u64 ke, .int .u64 ro, .slice ao n cap], .agg C] w fun e w' => ∃ ao2 n2 cap2, e = .returned (.agg #[.int .i64 t, .int .u64 ke, .int .u64 ro, .slice ao2 n2 cap2]) ∧ OwnR (fun b => D0 b ∨ w.heap.size ≤ b) w.heap.size w' ao2 n2 cap2 (puR X x) ∧ Below w.heap.size w w' := by
 have hmx : prog.follows .mixedOrders = true := by kernel_rfl
 have ga3 := isAgg23
 have d0 := hx.id
 have hz := hx.size
 have hn : Hid (X.length = n) := h.1
 have hsH : Hid (Srt X) := hs
 have hsmH : Hid (q3z X) := hsm
 have hle : ahd X x.id ≤ n := by rw [← hn.out]; exact k9z X x.id
 have hlf : fin X x.id ≤ n := by rw [← hn.out]; exact fin_le hs x.id
 have hwh := fun (W : World) (hk : Below w.heap.size w W) => x1z (i := x.id) (qwz (h.wide hD fun _ hb => hb) hk) hs (by omega)
 have c3 : (#[.int .i64 t, .int .u64 ke, .int .u64 ro, .slice ao n cap] : Array Value)[3]? = some (.slice ao n cap) := rfl
 have hzG : (prog.info? 25).map (·.size) = some (#[.int .i64 t, .int .u64 ke, .int .u64 ro, .slice ao n cap] : Array Value).size := q0z
 have hz2 : ∀ v, (prog.info? 25).map (·.size) = some (#[.int .i64 t, .int .u64 ke, .int .u64 ro, v] : Array Value).size := fun _ => q0z
 have hs2 : ∀ v, zW.size = (#[.int .i64 t, .int .u64 ke, .int .u64 ro, v] : Array Value).size := fun _ => rfl
 have h12 : ∀ ao n cap, (#[.int .i64 t, .int .u64 ke, .int .u64 ro, .slice ao n cap] : Array Value).all (·.oneCell') = true := fun _ _ _ => by kernel_rfl
 have hpt : Hid (X.take (ahd X x.id) ++ [x] ++ X.drop (fin X x.id) = puR X x) := gUz hs x
 generalize ahd X x.id = k at hle hpt hwh
 generalize fin X x.id = f at hlf hpt hwh
 have hex := fun (W : World) (hk : Below w.heap.size w W) (a1 : Option Addr) (hO : ObsD (LtN W) D0 W a1 1 1 [x]) => uqz (t := t) (ke := ke) (ro := ro) (fun b hb => ltz (hD b hb) hk.size) (wtz h hD hk) hO hle hlf (by omega) (by omega) hsm (fun y h => by rw [List.mem_singleton] at h; rw [h]; exact hxs)
 obtain ⟨G, hG⟩ : ∃ G : Array Value, G = #[.int .i64 t, .int .u64 ke, .int .u64 ro, .slice ao n cap] := ⟨_, rfl⟩
 rw [← hG] at c3 hzG hex
 rw [← hG]
 clear hG hs hsm
 go_enter func142, ntmps142
 go_wp2_with (first
  | (with_reducible refine qcz rfl _ _ rfl G rfl ?_; intro B W hB hb hk)
  | (with_reducible refine qcz rfl _ _ rfl C rfl ?_; intro B2 W2 hB2 hb2 hk2; replace hb := hb.next hk2; replace hk := btz hk hk2)
  | ((with_reducible refine qdz rfl _ rfl zW wyz ?_); intro R W1 hB1 hR hk1; replace hb := hb.next hk1; replace hb2 := hb2.next hk1; replace hk := btz hk hk1)
  | (with_reducible refine qlz rfl _ _ rfl B rfl _ hb _ underlying25 rfl hzG ?_))
 have hRl : w.heap.size ≤ R ∧ R < W1.heap.size ∧ w.heap.size ≤ B ∧ w.heap.size ≤ B2 := by have := hB.out; have := hB1.out; have := hB2.out; omega
 refine PgM.region_out (S := fun W => Blk W B G 25 ∧ Blk W B2 C 55) hmx ⟨hb.next (brz _ _).drew, hb2.next (brz _ _).drew⟩ (fun hS => ?_)
 have hkd := (brz W1.heap.size W1).drew
 replace hR := hR.next hkd
 replace hk := btz hk hkd
 replace hRl : w.heap.size ≤ R ∧ R < W1.drew.heap.size := by have := hkd.size; omega
 generalize W1.drew = W5 at hS hR hk hRl ⊢
 clear hkd hb hb2 hB hB1 hB2 hk1 hk2
 refine qGz (by kernel_rfl) (fun _ _ _ _ _ h => h) hS [(0, some (.agg G)), (2, none), (3, some (.int .u64 x.id))] (obs := [.load 25 B 0 (.agg G), .load 22 B2 0 (.int .u64 x.id)]) (n := 7) (by kernel_rfl) (by kernel_rfl) ⟨qBz (fun _ h => h.1) underlying25 (by kernel_rfl) hzG, qez (fun _ h => h.2) d0 isAgg22, trivial⟩ ?_
 refine qrz (i := 1) (fuel := 6) (f := 80) (vs := [.agg G]) (d := some 9) (by kernel_rfl) (by kernel_rfl) (by kernel_rfl) call80 (xez c3) ?_
 rintro e W6 ⟨rfl, hb6⟩
 refine ⟨_, rfl, ⟨hS.1.next hb6, hS.2.next hb6⟩, ?_⟩
 replace hS : Blk W6 B G 25 ∧ Blk W6 B2 C 55 := ⟨hS.1.next hb6, hS.2.next hb6⟩
 replace hR := hR.next hb6
 replace hk := btz hk hb6
 refine qrz (i := 4) (fuel := 5) (f := 81) (vs := [.agg #[.slice ao n cap, .func (.func 130) #[] #[]], .int .u64 x.id]) (d := some 12) (by kernel_rfl) (by kernel_rfl) (by kernel_rfl) call81 (hwh _ hk) ?_
 rintro e W7 ⟨rfl, hb7⟩
 refine ⟨_, rfl, ⟨hS.1.next hb7, hS.2.next hb7⟩, ?_⟩
 replace hS : Blk W7 B G 25 ∧ Blk W7 B2 C 55 := ⟨hS.1.next hb7, hS.2.next hb7⟩
 replace hR := hR.next hb7
 replace hk := btz hk hb7
 replace hRl : w.heap.size ≤ R ∧ R < W7.heap.size := ⟨hRl.1, hR.lt⟩
 refine qXz (by kernel_rfl) (fun _ _ _ _ _ h => h) hS [5, 6, 7, 8, 9] (l' := #[tt, tt, tt, tt, tt, tt, tt, tt, tt, tt]) (a' := { tmps := #[.agg G, .agg C, .pointer (some ⟨B, 0, none⟩), .pointer (some ⟨B2, 0, none⟩), .pointer (some ⟨R, 0, none⟩), .int .i64 k, .int .i64 f, .tuple #[.int .i64 k, .int .i64 f], .agg G, .agg #[.slice ao n cap, .func (.func 130) #[] #[]], .pointer (some ⟨B2, 0, none⟩), .int .u64 x.id, .tuple #[.int .i64 k, .int .i64 f], .int .i64 k, .int .i64 f, ud, ud, ud, ud, ud, ud, ud, ud, ud, ud, ud, ud, ud, ud, ud, ud, ud, ud, undef], defers := [] }) (n := 0) (by kernel_rfl) (by kernel_rfl) ?_
 refine wpAnyH_done (by kernel_rfl) ?_ _
 obtain ⟨hb, hb2⟩ := hS
 clear hb6 hb7 hwh
 go_wp2_with (first
  | go_skip
  | (with_reducible refine qaz (by kernel_rfl) _ _ rfl B _ rfl _ _ hb _ c3 ga3 ?_)
  | ((with_reducible refine qgz (by kernel_rfl) .eql _ _ _ _ rfl _ _ rfl rfl (qtz _ _ _ _ _ _) ?_ ?_) <;> intro hq)
  | ((with_reducible refine qgz (by kernel_rfl) .geq _ _ _ _ rfl _ _ rfl rfl (w6z _ _ _ _ _ _) ?_ ?_) <;> first | (intro hq2; exfalso; have h9 : (1024 : Int) ≤ n := hq2.out; omega) | (intro hq2))
  | (with_reducible refine qlz rfl _ _ rfl B rfl _ hb _ underlying25 rfl hzG ?_)
  | (with_reducible refine qlz rfl _ _ rfl B2 rfl _ hb2 _ underlying55 rfl (qfz hz) ?_)
  | ((with_reducible refine uEz rfl _ rfl C rfl hz ?_); intro Bq W8 hBq hbq hk8; replace hR := hR.next hk8; replace hk := btz hk hk8; have hO1 := obs_one hbq (hx.laterK fun b hb => hk.block b (hD b hb)))
  | (go_at_call 83; (with_reducible refine (hex _ hk _ hO1).mono ?_); rintro e w3 ⟨ao2, n2, cap2, rfl, hO, hb3⟩; replace hR := hR.next hb3; have hkf := btz hk hb3)
  | ((with_reducible refine qbz rfl _ _ _ rfl R rfl _ rfl zW hR (hz2 _) (hs2 _) (h12 _ _ _) ?_); intro W4 hR4 o4))
 all_goals
  have hRl' : w.heap.size ≤ R ∧ R < W8.heap.size := ⟨hRl.1, ltz hRl.2 hk8.size⟩
  refine bodyPost_ret (v := .agg _) (res43 results142 rfl hR4 rfl) rfl ?_
  refine ⟨ao2, n2, cap2, rfl, ?_, o4.below _ _ hRl.1 hkf⟩
  rw [← hpt.out]
  have hsz := hk.size
  exact (hO.to o4 hRl'.2 fun q => by rcases q with q | q; have := hD _ q; omega; omega).wide (fun b hb => hb.elim .inl fun q => .inr (by omega)) (by omega)
theorem put_w {x : Ob} (hD : ∀ b, D0 b → b < w.heap.size) (h : ObsD (LtN w) D0 w ao n cap X) (hs : Srt X) (hn16 : n < 1024) (hsm : q3z X) (hx : ObD D0 w C x) (hxs : Small x) : Calls prog 142 #[.agg #[.int .i64 t, .int .u64 ke, .int .u64 ro, .slice ao n cap], .agg C] w fun e w' => ∃ ao2 n2 cap2, e = .returned (.agg #[.int .i64 t, .int .u64 ke, .int .u64 ro, .slice ao2 n2 cap2]) ∧ ObsD (New w w') (fun b => D0 b ∨ New w w' b) w' ao2 n2 cap2 (puR X x) ∧ Below w.heap.size w w' :=
 (put_own hD h hs hn16 hsm hx hxs).mono fun _ _ ⟨a, n2, c, e, o, b⟩ => ⟨a, n2, c, e, o.obs.wide (fun _ hb => hb.1.elim .inl fun q => .inr ⟨q, hb.2⟩) (fun _ hb => hb), b⟩
section
variable {ops : Array Oper} {rest : List Oper} {op : Oper} {a : Act} {Q : Exit → Act → World → Prop} {w : World}
theorem qWz (hw : Region.wanted op (yielded ops a.tmps) = true) (ty : TypeId) (x : Operand) (ho : op.op = .load ty x) (b o : Nat) (hx : a.eval x = .pointer (some ⟨b, o, none⟩)) (v : Value) (hv : w.cell? ⟨b, o, none⟩ = some v) (hg : ∀ w, (isAgg ty).run prog w = .ok false w) (h : wpList prog ops Q rest (a.put op.dst v) w) : wpList prog ops Q (op :: rest) a w := by
 refine q7z hw ?_ h
 have : (loadVar ty ⟨b, o, none⟩).run prog w = .ok v w := by simp [loadVar, hg, hv]
 unfold execOp
 simp [ho, hx, Instr.loadAt, Instr.sureAddr, this]
end
theorem xrz {w w' : World} {base : Nat} {e : TypeId} {k : Nat} {v : Value} {n : Nat} {xs : List Value} (h : w.ownsRow base e k v n xs) (q : Below w.heap.size w w') : w'.ownsRow base e k v n xs := by
 refine ⟨h.1, ?_⟩
 rcases h.2 with r | ⟨g, c, cur, e1, e2, e3, e4⟩
 ·exact .inl r
 ·exact .inr ⟨g, c, cur, e1, e2, (q.block g (Array.getElem?_eq_some_iff.1 e3).1).trans e3, e4⟩
variable {ao : Option Addr} {n cap : Nat} {w : World}
theorem obs_atD {E D : Nat → Prop} {l : List Ob} (h : ObsD E D w ao n cap l) {i : Nat} (hi : i < n) : ∃ b off C, ao = some ⟨b, off, none⟩ ∧ E b ∧ ObD D w C (oat l i) ∧ w.rangeAt b (off + i * 51) C.toList := by
 obtain ⟨b, off, e, hb, hc⟩ := h.2.2.2 (by omega)
 obtain ⟨C, hC, hr⟩ := hc i hi
 exact ⟨b, off, C, e, hb, hC, hr⟩
variable {X : List Ob}
theorem bBz {i : Int} {k : Nat} (h : ∀ q, q < k → (oat X q).id ≠ i) (hk : k < X.length) (e : (oat X k).id = i) : fnd X i = some (oat X k) := by
 unfold fnd
 rw [List.find?_eq_some_iff_getElem]
 refine ⟨by simpa using e, k, hk, (qMz hk).symm, fun j hj => ?_⟩
 have := h j hj
 rw [qMz (by omega)] at this
 simpa using this
variable {t ke ro : Int}
theorem gOz {i : Int} {D0 : Nat → Prop} (hD : ∀ b, D0 b → b < w.heap.size) (h : ObsD (LtN w) D0 w ao n cap X) : Calls prog 14 #[.agg #[.int .i64 t, .int .u64 ke, .int .u64 ro, .slice ao n cap], .int .u64 i] w fun e w' => ∃ C', e = .returned (.tuple #[.agg C', .bool (fnd X i).isSome]) ∧ ObD D0 w' C' ((fnd X i).getD zOb) ∧ Below w.heap.size w w' := by
 have hn : Hid (X.length = n) := h.1
 have hnc := h.2.1
 have hcm := h.2.2.1.1
 have ga1 := isAgg22
 have ga3 := isAgg23
 have c3 : (#[.int .i64 t, .int .u64 ke, .int .u64 ro, .slice ao n cap] : Array Value)[3]? = some (.slice ao n cap) := rfl
 have hzG : (prog.info? 25).map (·.size) = some (#[.int .i64 t, .int .u64 ke, .int .u64 ro, .slice ao n cap] : Array Value).size := q0z
 obtain ⟨G, hG⟩ : ∃ G : Array Value, G = #[.int .i64 t, .int .u64 ke, .int .u64 ro, .slice ao n cap] := ⟨_, rfl⟩
 rw [← hG] at c3 hzG
 rw [← hG]
 clear hG
 go_enter func14, ntmps14
 go_wp2_with (first
  | (with_reducible refine qcz rfl _ _ rfl G rfl ?_; intro B W hB hb hk)
  | ((with_reducible refine qdz rfl _ rfl zC qsz ?_); intro R W1 hB1 hR hk1; replace hb := hb.next hk1; replace hk := btz hk hk1))
 have hRl : Hid (w.heap.size ≤ R) := by have := hB.out; have := hB1.out; show _ ≤ _; omega
 clear hB hB1 hk1
 go_loopw [6] (fun j wr => ∃ k : Nat, k ≤ n ∧ j = .int .i64 k ∧ Hid (∀ q, q < k → (oat X q).id ≠ i) ∧ Blk wr B G 25 ∧ Blk wr R zC 55 ∧ Below w.heap.size w wr) (fun j _ => n - (intOf j).toNat)
 case atStart => exact ⟨0, Nat.zero_le _, rfl, fun q hq => absurd hq (by omega), hb, hR, hk⟩
 case round =>
  clear hb hR hk
  obtain ⟨k, hk, rfl, hal, hb, hR, hbw⟩ := hrel
  have hbs := hbw.size
  by_cases hkn : k < n
  ·obtain ⟨b, off, C, rfl, hbb, hC, hr⟩ := obs_atD (wtz h hD hbw) hkn
   have hkn' : (k : Int) < n := by omega
   have hz := hC.size
   have hid : wr.cell? ⟨b, off + k * 51, none⟩ = some (.int .u64 (oat X k).id) := by simpa using hr 0 _ (by simpa using hC.id)
   go_wp2_with (first
    | (with_reducible refine qaz (by kernel_rfl) _ _ rfl B _ rfl _ _ hb _ (by assumption) (by assumption) ?_)
    | (with_reducible refine qWz (by kernel_rfl) _ _ rfl b _ rfl _ hid ga1 ?_)
    | ((with_reducible refine qgz (by kernel_rfl) .eql _ _ _ _ rfl _ _ rfl rfl (qtz _ _ _ _ _ _) ?_ ?_) <;> intro hq)
    | (with_reducible refine qxz (by kernel_rfl) 55 _ rfl b _ rfl C hr _ underlying55 (by kernel_rfl) (qfz hz) ?_)
    | ((with_reducible refine qbz rfl _ _ _ rfl R rfl C rfl zC hR (qfz hz) (qoz.trans hz.symm) hC.one ?_); intro W4 hR4 o4))
   ·refine bodyPost_ret (v := .tuple #[.agg C, .bool true]) (kRz results14 rfl rfl hR4 hz) rfl ?_
    rw [bBz hal.out (by rw [hn.out]; exact hkn) hq.out]
    have hRo := hRl.out
    exact ⟨C, rfl, hC.laterK fun b hb => o4.block b (by have := hD b hb; omega), o4.below _ _ hRo hbw⟩
   ·go_roundw
    case rel => exact ⟨k + 1, by omega, by go_num, wKz hal.out hq.out, hb, hR, hbw⟩
    case measure => simp [intOf]; omega
  ·obtain rfl : k = n := by omega
   go_wp2_with (first
    | (with_reducible refine qaz (by kernel_rfl) _ _ rfl B _ rfl _ _ hb _ (by assumption) (by assumption) ?_)
    | ((with_reducible refine qyz rfl _ [] rfl zC ?hf ?_); (case hf => exact yHz))
    | ((with_reducible refine qbz rfl _ _ _ rfl R rfl zC rfl zC hR (qfz qoz) rfl (zC_d (fun _ => True) w).one ?_); intro W4 hR4 o4))
   have hx : fnd X i = none := kxz.2 fun x hx => by
    obtain ⟨q, hq, rfl⟩ := List.getElem_of_mem hx
    have := hal.out q (by rw [← hn.out]; exact hq)
    rwa [qMz hq] at this
   refine bodyPost_ret (v := .tuple #[.agg zC, .bool false]) (kRz results14 rfl rfl hR4 qoz) rfl ?_
   rw [hx]
   exact ⟨zC, rfl, zC_d _ _, o4.below _ _ hRl.out hbw⟩
theorem rfind_u {i : Int} (h : Obs w ao n cap X) : Calls prog 14 #[.agg #[.int .i64 t, .int .u64 ke, .int .u64 ro, .slice ao n cap], .int .u64 i] w fun e w' => ∃ C', e = .returned (.tuple #[.agg C', .bool (fnd X i).isSome]) ∧ ObD (LtN w') w' C' ((fnd X i).getD zOb) ∧ Below w.heap.size w w' :=
 (gOz (D0 := LtN w) (fun _ h => h) h).mono fun _ _ ⟨C, e, ho, hb⟩ => ⟨C, e, ho.wide fun b hb' => ltz hb' hb.size, hb⟩
theorem jVz {S : World → Prop} {P : Program} {ty : TypeId} {b o j : Nat} {v : Value} {C : Array Value} (hr : ∀ w, S w → w.rangeAt b o C.toList) (hv : C[j]? = some v) (hg : ∀ w, (isAgg ty).run P w = .ok false w) : Obl.holds P S (.load ty b (o + j) v) := fun w hS => by
 have hc : w.cell? ⟨b, o + j, none⟩ = some v := hr w hS j v (by simpa using hv)
 simp [loadVar, hg, hc]
theorem rfit_w (h : Obs w ao n cap X) : Asks 36 #[.agg #[.int .i64 t, .int .u64 ke, .int .u64 ro, .slice ao n cap]] (fitW ⟨t, ke, ro, X⟩ = true) w := by
 have hmx : prog.follows .mixedOrders = true := by kernel_rfl
 have hn : Hid (X.length = n) := h.1
 have hnc := h.2.1
 have hcm := h.2.2.1.1
 have ga1 := isAgg22
 have ga2 := isAgg3
 have ga3 := isAgg23
 have c0 : (#[.int .i64 t, .int .u64 ke, .int .u64 ro, .slice ao n cap] : Array Value)[0]? = some (.int .i64 t) := rfl
 have c3 : (#[.int .i64 t, .int .u64 ke, .int .u64 ro, .slice ao n cap] : Array Value)[3]? = some (.slice ao n cap) := rfl
 obtain ⟨G, hG⟩ : ∃ G : Array Value, G = #[.int .i64 t, .int .u64 ke, .int .u64 ro, .slice ao n cap] := ⟨_, rfl⟩
 rw [← hG] at c0 c3
 rw [← hG]
 clear hG
 unfold Asks
 go_enter func36, ntmps36
 go_wp2_with (first
  | go_skip
  | (with_reducible refine qcz rfl _ _ rfl G rfl ?_; intro B W hB hb hk)
  | (with_reducible refine qaz (by kernel_rfl) _ _ rfl B _ rfl _ _ hb _ (by assumption) (by assumption) ?_)
  | ((with_reducible refine qgz (by kernel_rfl) .lss _ _ _ _ rfl _ _ rfl rfl (wnz _ _ _ _ _ _) ?_ ?_) <;> intro hq)
  | ((with_reducible refine qgz (by kernel_rfl) .gtr _ _ _ _ rfl _ _ rfl rfl (qLz _ _ _ _ _ _) ?_ ?_) <;> intro hq))
 all_goals (try (go_ret; first
  | (have hl : t < 0 := Hid.out (by assumption); refine ⟨false, rfl, ⟨fun e => absurd e Bool.false_ne_true, fun e => ?_⟩, hk⟩; exfalso; have := (xsz.1 e).1; omega)
  | (have hl : 1099511627776 < t := Hid.out (by assumption); refine ⟨false, rfl, ⟨fun e => absurd e Bool.false_ne_true, fun e => ?_⟩, hk⟩; exfalso; have := (xsz.1 e).2.1; omega)
  | (have hl : 1024 < (n : Int) := Hid.out (by assumption); refine ⟨false, rfl, ⟨fun e => absurd e Bool.false_ne_true, fun e => ?_⟩, hk⟩; exfalso; have := (xsz.1 e).2.2.1; rw [hn.out] at this; omega)
  | fail))
 have a1 : 0 ≤ t := Hid.out (by assumption)
 have a2 : t ≤ 1099511627776 := Hid.out (by assumption)
 have a3 : (n : Int) ≤ 1024 := Hid.out (by assumption)
 have hes : Hid (0 ≤ t ∧ t ≤ 1099511627776 ∧ n ≤ 1024) := ⟨by omega, by omega, by omega⟩
 clear a1 a2 a3
 clear hB
 go_loopw [3] (fun i wr => ∃ k : Nat, k ≤ n ∧ i = .int .i64 k ∧ Hid (∀ j, j < k → q9z (oat X j) = true) ∧ Hid (∀ j, j + 1 < k → (oat X j).id < (oat X (j + 1)).id) ∧ Blk wr B G 25 ∧ Below w.heap.size w wr) (fun i _ => n - (intOf i).toNat)
 case atStart => exact ⟨0, Nat.zero_le _, rfl, fun j hj => absurd hj (by omega), fun j hj => absurd hj (by omega), hb, hk⟩
 case round =>
  clear hb hk
  obtain ⟨k, hk, rfl, hal, hri, hb, hbw⟩ := hrel
  have hbs := hbw.size
  by_cases hkn : k < n
  ·obtain ⟨j, hj0⟩ : ∃ j, Hid (j = k - 1) := ⟨_, rfl⟩
   have hjn : j < n := by have := hj0.out; omega
   obtain ⟨b, off, C, rfl, hbb, hC, hr⟩ := w3z (qwz h hbw) hkn
   obtain ⟨b', off', C', e', hbb', hC', hr'⟩ := w3z (qwz h hbw) hjn
   cases e'
   have hkn' : (k : Int) < n := by omega
   have hz := hC.size
   go_wp2_with (first
    | (with_reducible refine qaz (by kernel_rfl) _ _ rfl B _ rfl _ _ hb _ (by assumption) (by assumption) ?_))
   refine PgM.region_out (S := fun W => Blk W B G 25 ∧ W.rangeAt b (off + k * 51) C.toList ∧ W.rangeAt b (off + j * 51) C'.toList) hmx ⟨hb.next (brz _ _).drew, qHz hr ((brz _ wr).drew.block b hbb), qHz hr' ((brz _ wr).drew.block b hbb)⟩ (fun hS => ?_)
   have hkd := (brz wr.heap.size wr).drew
   have hC0 := hC.next hkd
   have hb1 := hbw.trans (hkd.mono hbs)
   have hbb1 : b < wr.drew.heap.size := ltz hbb hkd.size
   generalize wr.drew = W1 at hS hC0 hb1 hbb1 ⊢
   clear hkd
   refine qGz (by kernel_rfl) (fun _ _ _ _ _ h => h) hS [(0, none), (1, some (.slice (some ⟨b, off, none⟩) n cap)), (2, none), (3, some (.pointer (some ⟨b, off + k * 51, none⟩))), (4, some (.agg C))] (obs := [.load 23 B 3 (.slice (some ⟨b, off, none⟩) n cap), .ia 23 (.slice (some ⟨b, off, none⟩) n cap) (.int .i64 k) (.pointer (some ⟨b, off + k * 51, none⟩)), .load 55 b (off + k * 51) (.agg C)]) (n := 22) (by kernel_rfl) (by kernel_rfl) ⟨qez (fun _ h => h.1) c3 isAgg23, kZz hkn, wHz (fun _ h => h.2.1) underlying55 (by kernel_rfl) (qfz hz), trivial⟩ ?_
   refine wTz (i := 5) (fuel := 21) (f := 74) (vs := [.agg C]) (d := some 30) (by kernel_rfl) (by kernel_rfl) (by kernel_rfl) call74 (uJz hC0) (fun W2 hk2 => (⟨hS.1.next hk2, qHz hS.2.1 (hk2.block b hbb1), qHz hS.2.2 (hk2.block b hbb1)⟩ : Blk W2 B G 25 ∧ W2.rangeAt b (off + k * 51) C.toList ∧ W2.rangeAt b (off + j * 51) C'.toList)) ?_ ?_
   ·intro W2 hq hk2 hS2
    have hb2 := btz hb1 hk2
    rcases Nat.eq_zero_or_pos k with h0 | h0
    ·have hk0 : Hid (¬ (0 : Int) < k) := by show ¬ _; omega
     have hup : Hid (∀ j, j + 1 < k + 1 → (oat X j).id < (oat X (j + 1)).id) := by
      refine (?_ : ∀ j, j + 1 < k + 1 → (oat X j).id < (oat X (j + 1)).id)
      intro i hi; omega
     refine qmz (by kernel_rfl) (fun _ _ _ _ _ h => h) hS2 [(6, none), (7, none), (8, none), (9, some (.bool false)), (10, none), (11, none), (12, none), (13, none), (14, none), (15, none), (16, none), (17, none), (18, none), (19, none), (20, none), (21, none), (22, none), (23, none), (24, none), (25, none), (26, none)] (l' := #[tt, tt, tt, tt, tt, tt, tt, tt, tt, tt, tt, tt, tt, tt, tt, tt, tt, tt, tt, tt, tt, tt, tt, tt, tt, tt, tt]) (a' := { tmps := #[.agg G, .pointer (some ⟨B, 0, none⟩), u2, .int .i64 k, .pointer (some ⟨B, 0, none⟩), .int .i64 t, .bool false, .bool false, .pointer (some ⟨B, 0, none⟩), .int .i64 t, .bool false, .bool false, .bool false, .pointer (some ⟨B, 3, none⟩), .slice (some ⟨b, off, none⟩) n cap, .int .i64 n, .bool false, .bool false, .int .i64 k, .pointer (some ⟨B, 3, none⟩), .slice (some ⟨b, off, none⟩) n cap, .int .i64 n, .bool true, u23, u24, .pointer (some ⟨B, 3, none⟩), .slice (some ⟨b, off, none⟩) n cap, .int .i64 k, .pointer (some ⟨b, off + k * 51, none⟩), .agg C, .bool true, .bool false, .bool false, .int .i64 k, .bool false, .bool false, undef, undef, undef, undef, undef, undef, undef, undef, undef, undef, undef, undef, undef, undef, .bool false, .bool false], defers := [] }) (obs := [.test .gtr 3 (.tmp 33) (.const (.int .i64 0)) (.int .i64 k) (.int .i64 0) (.bool false)]) (n := 0) (by kernel_rfl) (by kernel_rfl) ⟨q2z (fun _ => qLz _ _ _ _ _ _) hk0, trivial⟩ ?_
     refine wpAnyH_done (by kernel_rfl) ?_ _
     have hx1 := hS2.1
     clear hS hS2 hC0
     go_wp2
     go_roundw
     case rel => exact ⟨k + 1, by omega, by go_num, wKz hal.out hq.out, hup, hx1, hb2⟩
     case measure => simp [intOf]; omega
    ·have hk0 : Hid ((0 : Int) < k) := by show _ < _; omega
     have hj : Hid (k = j + 1) := by have := hj0.out; show _ = _; omega
     have hw : IntKind.i64.wrap ((k : Int) - 1) = (j : Int) := by have := hj.out; rw [IntKind.wrap_i64]; omega
     by_cases hxy : (oat X j).id < (oat X k).id
     ·have hup : Hid (∀ i, i + 1 < k + 1 → (oat X i).id < (oat X (i + 1)).id) := by
       refine (?_ : ∀ i, i + 1 < k + 1 → (oat X i).id < (oat X (i + 1)).id)
       intro i hi
       rcases Nat.lt_or_ge (i + 1) k with h | h
       ·exact hri.out i h
       ·have hij : i = j := by have := hj.out; omega
        rw [hij, ← hj.out]; exact hxy
      have hd : Hid (¬ (oat X k).id ≤ (oat X j).id) := by show ¬ _; omega
      refine qmz (by kernel_rfl) (fun _ _ _ _ _ h => h) hS2 [(6, none), (7, none), (8, none), (9, some (.bool true)), (10, none), (11, none), (12, some (.slice (some ⟨b, off, none⟩) n cap)), (13, none), (14, some (.int .i64 j)), (15, some (.pointer (some ⟨b, off + j * 51, none⟩))), (16, none), (17, some (.int .u64 (oat X j).id)), (18, none), (19, some (.slice (some ⟨b, off, none⟩) n cap)), (20, none), (21, some (.pointer (some ⟨b, off + k * 51, none⟩))), (22, none), (23, some (.int .u64 (oat X k).id)), (24, some (.bool false)), (25, none), (26, none)] (l' := #[tt, tt, tt, tt, tt, tt, tt, tt, tt, tt, tt, tt, tt, tt, tt, tt, tt, tt, tt, tt, tt, tt, tt, tt, tt, tt, tt]) (a' := { tmps := #[.agg G, .pointer (some ⟨B, 0, none⟩), u2, .int .i64 k, .pointer (some ⟨B, 0, none⟩), .int .i64 t, .bool false, .bool false, .pointer (some ⟨B, 0, none⟩), .int .i64 t, .bool false, .bool false, .bool false, .pointer (some ⟨B, 3, none⟩), .slice (some ⟨b, off, none⟩) n cap, .int .i64 n, .bool false, .bool false, .int .i64 k, .pointer (some ⟨B, 3, none⟩), .slice (some ⟨b, off, none⟩) n cap, .int .i64 n, .bool true, u23, u24, .pointer (some ⟨B, 3, none⟩), .slice (some ⟨b, off, none⟩) n cap, .int .i64 k, .pointer (some ⟨b, off + k * 51, none⟩), .agg C, .bool true, .bool false, .bool false, .int .i64 k, .bool true, .bool true, .pointer (some ⟨B, 3, none⟩), .slice (some ⟨b, off, none⟩) n cap, .int .i64 k, .int .i64 j, .pointer (some ⟨b, off + j * 51, none⟩), .pointer (some ⟨b, off + j * 51 + 0, none⟩), .int .u64 (oat X j).id, .pointer (some ⟨B, 3, none⟩), .slice (some ⟨b, off, none⟩) n cap, .int .i64 k, .pointer (some ⟨b, off + k * 51, none⟩), .pointer (some ⟨b, off + k * 51 + 0, none⟩), .int .u64 (oat X k).id, .bool false, .bool false, .bool false], defers := [] }) (obs := [.test .gtr 3 (.tmp 33) (.const (.int .i64 0)) (.int .i64 k) (.int .i64 0) (.bool true), .load 23 B 3 (.slice (some ⟨b, off, none⟩) n cap), .test .sub 3 (.tmp 38) (.const (.int .i64 1)) (.int .i64 k) (.int .i64 1) (.int .i64 j), .ia 23 (.slice (some ⟨b, off, none⟩) n cap) (.int .i64 j) (.pointer (some ⟨b, off + j * 51, none⟩)), .load 22 b (off + j * 51 + 0) (.int .u64 (oat X j).id), .load 23 B 3 (.slice (some ⟨b, off, none⟩) n cap), .ia 23 (.slice (some ⟨b, off, none⟩) n cap) (.int .i64 k) (.pointer (some ⟨b, off + k * 51, none⟩)), .load 22 b (off + k * 51 + 0) (.int .u64 (oat X k).id), .test .geq 22 (.tmp 42) (.tmp 48) (.int .u64 (oat X j).id) (.int .u64 (oat X k).id) (.bool false)]) (n := 0) (by kernel_rfl) (by kernel_rfl) ⟨qJz (fun _ => qLz _ _ _ _ _ _) hk0, qez (fun _ h => h.1) c3 isAgg23, jjz hj hw, kZz hjn, jVz (j := 0) (fun _ h => h.2.2) hC'.id isAgg22, qez (fun _ h => h.1) c3 isAgg23, kZz hkn, jVz (j := 0) (fun _ h => h.2.1) hC.id isAgg22, q2z (fun _ => w6z _ _ _ _ _ _) hd, trivial⟩ ?_
      refine wpAnyH_done (by kernel_rfl) ?_ _
      have hx1 := hS2.1
      clear hS hS2 hC0
      go_wp2
      go_roundw
      case rel => exact ⟨k + 1, by omega, by go_num, wKz hal.out hq.out, hup, hx1, hb2⟩
      case measure => simp [intOf]; omega
     ·have hd : Hid ((oat X k).id ≤ (oat X j).id) := by show _ ≤ _; omega
      have hno : Hid (¬ idsB X = true) := by
       refine (?_ : ¬ idsB X = true)
       intro e
       have := bsz.1 e j (by rw [hn.out, ← hj.out]; exact hkn)
       rw [← hj.out] at this
       exact hxy this
      refine qmz (by kernel_rfl) (fun _ _ _ _ _ h => h) hS2 [(6, none), (7, none), (8, none), (9, some (.bool true)), (10, none), (11, none), (12, some (.slice (some ⟨b, off, none⟩) n cap)), (13, none), (14, some (.int .i64 j)), (15, some (.pointer (some ⟨b, off + j * 51, none⟩))), (16, none), (17, some (.int .u64 (oat X j).id)), (18, none), (19, some (.slice (some ⟨b, off, none⟩) n cap)), (20, none), (21, some (.pointer (some ⟨b, off + k * 51, none⟩))), (22, none), (23, some (.int .u64 (oat X k).id)), (24, some (.bool true)), (25, none), (26, none)] (l' := #[tt, tt, tt, tt, tt, tt, tt, tt, tt, tt, tt, tt, tt, tt, tt, tt, tt, tt, tt, tt, tt, tt, tt, tt, tt, tt, tt]) (a' := { tmps := #[.agg G, .pointer (some ⟨B, 0, none⟩), u2, .int .i64 k, .pointer (some ⟨B, 0, none⟩), .int .i64 t, .bool false, .bool false, .pointer (some ⟨B, 0, none⟩), .int .i64 t, .bool false, .bool false, .bool false, .pointer (some ⟨B, 3, none⟩), .slice (some ⟨b, off, none⟩) n cap, .int .i64 n, .bool false, .bool false, .int .i64 k, .pointer (some ⟨B, 3, none⟩), .slice (some ⟨b, off, none⟩) n cap, .int .i64 n, .bool true, u23, u24, .pointer (some ⟨B, 3, none⟩), .slice (some ⟨b, off, none⟩) n cap, .int .i64 k, .pointer (some ⟨b, off + k * 51, none⟩), .agg C, .bool true, .bool false, .bool false, .int .i64 k, .bool true, .bool true, .pointer (some ⟨B, 3, none⟩), .slice (some ⟨b, off, none⟩) n cap, .int .i64 k, .int .i64 j, .pointer (some ⟨b, off + j * 51, none⟩), .pointer (some ⟨b, off + j * 51 + 0, none⟩), .int .u64 (oat X j).id, .pointer (some ⟨B, 3, none⟩), .slice (some ⟨b, off, none⟩) n cap, .int .i64 k, .pointer (some ⟨b, off + k * 51, none⟩), .pointer (some ⟨b, off + k * 51 + 0, none⟩), .int .u64 (oat X k).id, .bool true, .bool true, .bool true], defers := [] }) (obs := [.test .gtr 3 (.tmp 33) (.const (.int .i64 0)) (.int .i64 k) (.int .i64 0) (.bool true), .load 23 B 3 (.slice (some ⟨b, off, none⟩) n cap), .test .sub 3 (.tmp 38) (.const (.int .i64 1)) (.int .i64 k) (.int .i64 1) (.int .i64 j), .ia 23 (.slice (some ⟨b, off, none⟩) n cap) (.int .i64 j) (.pointer (some ⟨b, off + j * 51, none⟩)), .load 22 b (off + j * 51 + 0) (.int .u64 (oat X j).id), .load 23 B 3 (.slice (some ⟨b, off, none⟩) n cap), .ia 23 (.slice (some ⟨b, off, none⟩) n cap) (.int .i64 k) (.pointer (some ⟨b, off + k * 51, none⟩)), .load 22 b (off + k * 51 + 0) (.int .u64 (oat X k).id), .test .geq 22 (.tmp 42) (.tmp 48) (.int .u64 (oat X j).id) (.int .u64 (oat X k).id) (.bool true)]) (n := 0) (by kernel_rfl) (by kernel_rfl) ⟨qJz (fun _ => qLz _ _ _ _ _ _) hk0, qez (fun _ h => h.1) c3 isAgg23, jjz hj hw, kZz hjn, jVz (j := 0) (fun _ h => h.2.2) hC'.id isAgg22, qez (fun _ h => h.1) c3 isAgg23, kZz hkn, jVz (j := 0) (fun _ h => h.2.1) hC.id isAgg22, qJz (fun _ => w6z _ _ _ _ _ _) hd, trivial⟩ ?_
      refine wpAnyH_done (by kernel_rfl) ?_ _
      have hx1 := hS2.1
      clear hS hS2 hC0
      go_wp2
      go_ret
      exact qjz hno hb2 (fun e => (xsz.1 e).2.2.2.1)
   ·intro W2 hq hk2 hS2
    have hb2 := btz hb1 hk2
    refine qmz (by kernel_rfl) (fun _ _ _ _ _ h => h) hS2 [(6, none), (7, none), (8, none), (9, none), (10, none), (11, none), (12, none), (13, none), (14, none), (15, none), (16, none), (17, none), (18, none), (19, none), (20, none), (21, none), (22, none), (23, none), (24, none), (25, none), (26, none)] (l' := #[tt, tt, tt, tt, tt, tt, tt, tt, tt, tt, tt, tt, tt, tt, tt, tt, tt, tt, tt, tt, tt, tt, tt, tt, tt, tt, tt]) (a' := { tmps := #[.agg G, .pointer (some ⟨B, 0, none⟩), u2, .int .i64 k, .pointer (some ⟨B, 0, none⟩), .int .i64 t, .bool false, .bool false, .pointer (some ⟨B, 0, none⟩), .int .i64 t, .bool false, .bool false, .bool false, .pointer (some ⟨B, 3, none⟩), .slice (some ⟨b, off, none⟩) n cap, .int .i64 n, .bool false, .bool false, .int .i64 k, .pointer (some ⟨B, 3, none⟩), .slice (some ⟨b, off, none⟩) n cap, .int .i64 n, .bool true, u23, u24, .pointer (some ⟨B, 3, none⟩), .slice (some ⟨b, off, none⟩) n cap, .int .i64 k, .pointer (some ⟨b, off + k * 51, none⟩), .agg C, .bool false, .bool true, .bool true, undef, undef, undef, undef, undef, undef, undef, undef, undef, undef, undef, undef, undef, undef, undef, undef, undef, undef, .bool true], defers := [] }) (obs := []) (n := 0) (by kernel_rfl) (by kernel_rfl) trivial ?_
    refine wpAnyH_done (by kernel_rfl) ?_ _
    have hx1 := hS2.1
    clear hS hS2 hC0
    go_wp2
    go_ret
    exact qjz hq hb2 (fun e => (xsz.1 e).2.2.2.2 k (by rw [hn.out]; exact hkn))
  ·obtain rfl : k = n := by omega
   go_wp2_with (first
    | (with_reducible refine qaz (by kernel_rfl) _ _ rfl B _ rfl _ _ hb _ (by assumption) (by assumption) ?_))
   go_ret
   exact qpz (xsz.2 ⟨hes.out.1, hes.out.2.1, by rw [hn.out]; exact hes.out.2.2, bsz.2 fun i hi => hri.out i (by rw [hn.out] at hi; exact hi), fun i hi => hal.out i (by rw [hn.out] at hi; exact hi)⟩) hbw
theorem Asks.val {f : FuncId} {args : Array Value} {X : Prop} {W : World} {b : Bool} (h : Asks f args X W) (hb : Hid (b = true ↔ X)) : Calls prog f args W fun e w' => e = .returned (.bool b) ∧ Below W.heap.size W w' := by
 refine h.mono ?_
 rintro e w' ⟨b', rfl, h', k⟩
 refine ⟨?_, k⟩
 have := hb.out
 have := h'.out
 cases b <;> cases b' <;> simp_all
theorem uHz {x : Ob} (h : q3z X) (k : Small x) : q3z (puR X x) := fun y hy => by
 rcases xGz.1 hy with rfl | ⟨q, _⟩
 ·exact k
 ·exact h y q
end
section
def qOf (X : List Ob) (i : Int) : Int := match fnd X i with
 | some x => x.quota
 | none => 0
def v8z (X : List Ob) (o : Ob) : Int := pagN o + (o.links.map (qOf X)).sum
def holL (X : List Ob) (i : Int) : List Int := (X.filter fun d => decide (i ∈ d.links)).map Ob.id
def abvL (X : List Ob) : Nat → Int → List Int
 | 0, _ => []
 | f + 1, i => match holL X i with
  | [] => []
  | h :: _ => h :: abvL X f h
def rabv (X : List Ob) (i : Int) : List Int := if (abvL X (X.length + 1) i).length ≤ X.length then abvL X (X.length + 1) i else []
theorem sum_le {l : List Int} {f : Int → Int} {k : Int} (h : ∀ i ∈ l, 0 ≤ f i ∧ f i ≤ k) : 0 ≤ (l.map f).sum ∧ (l.map f).sum ≤ k * l.length := by
 induction l with
 | nil => simp
 | cons a r ih =>
  have h1 := h a (List.mem_cons_self ..)
  have h2 := ih fun i hi => h i (List.mem_cons_of_mem _ hi)
  rw [List.map_cons, List.sum_cons, List.length_cons]
  have e : k * ((r.length + 1 : Nat) : Int) = k * (r.length : Int) + k := by rw [Int.natCast_add, Int.mul_add]; simp
  rw [e]
  omega
end
section
open Go.RowKit Go.Shelf
attribute [local go_sem] Oper.semAt_some
variable {w : World}
theorem vWz {D : Nat → Prop} {ao : Option Addr} {n cap : Nat} {L : List Int} (h : CtD D w ao n cap L) {i : Nat} (hi : i < n) : ∃ b off, ao = some ⟨b, off, none⟩ ∧ D b ∧ w.cell? ⟨b, off + i, none⟩ = some (.int .u64 (L.getD i 0)) := by
 obtain ⟨b, off, e, hb, hc⟩ := h.2.2.2 (by omega)
 exact ⟨b, off, e, hb, hc i hi⟩
theorem umz {L : List Int} {i : Nat} (h : i < L.length) : L.getD i 0 ∈ L := by
 rw [List.getD_eq_getElem?_getD, List.getElem?_eq_getElem h]; exact List.getElem_mem h
def cmpI (a b : Int) : Int := if a < b then -1 else if b < a then 1 else 0
variable {a b : Int}
theorem bMz : cmpI a b < 0 ↔ a < b := by unfold cmpI; split <;> (try split) <;> omega
theorem bNz : cmpI a b = 0 ↔ a = b := by unfold cmpI; split <;> (try split) <;> omega
theorem xgz {a : Int} : Calls prog 238 #[.int .u64 a] w fun e w' => e = .returned (.bool false) ∧ w' = w := by
 go_enter func238, ntmps238
 go_wp2
 go_ret
 exact ⟨rfl, rfl⟩
theorem cmp_any : Calls prog 239 #[.int .u64 a, .int .u64 b] w fun e w' => e = .returned (.int .i64 (cmpI a b)) ∧ w' = w := by
 by_cases h1 : a < b
 ·have e1 : cmpI a b = -1 := by unfold cmpI; rw [if_pos h1]
  rw [e1]
  go_enter func239, ntmps239
  go_wp2_with (go_at_call 238; refine xgz.mono ?_; rintro e w1 ⟨rfl, rfl⟩)
  go_ret
  exact ⟨rfl, rfl⟩
 ·by_cases h2 : b < a
  ·have e1 : cmpI a b = 1 := by unfold cmpI; rw [if_neg h1, if_pos h2]
   rw [e1]
   go_enter func239, ntmps239
   go_wp2_with (go_at_call 238; refine xgz.mono ?_; rintro e w1 ⟨rfl, rfl⟩)
   go_ret
   exact ⟨rfl, rfl⟩
  ·have e1 : cmpI a b = 0 := by unfold cmpI; rw [if_neg h1, if_neg h2]
   rw [e1]
   go_enter func239, ntmps239
   go_wp2_with (go_at_call 238; refine xgz.mono ?_; rintro e w1 ⟨rfl, rfl⟩)
   go_ret
   exact ⟨rfl, rfl⟩
theorem vaz {C : Array Value} {x : Ob} {i : Int} (h : ObD (LtN w) w C x) : Calls prog 196 #[.agg C, .int .u64 i] w fun e w' => e = .returned (.int .i64 (cmpI x.id i)) ∧ Below w.heap.size w w' := by
 have c0 := h.id
 have ga1 := isAgg22
 go_enter func196, ntmps196
 go_wp2_with (first
  | (with_reducible refine qcz rfl _ _ rfl C rfl ?_; intro B W hB hb hk)
  | (with_reducible refine qaz (by kernel_rfl) _ _ rfl B _ rfl _ _ hb _ (by assumption) (by assumption) ?_)
  | (go_at_call 239; (with_reducible refine cmp_any.mono ?_); rintro e w1 ⟨rfl, rfl⟩))
 go_ret
 exact ⟨rfl, hk⟩
theorem yiz (w : World) (t : TypeId) (x y : Operand) {v r : Int} (hr : v / 2 = r) : (do eqGuard .shr t x y (.int .u64 v) (.int .u64 1); binOp .shr t (.int .u64 v) (.int .u64 1)).run prog w = .ok (.int .u64 r) w := by
 subst hr
 have e : Op.shift .shr .u64 v .u64 1 = pure (.int .u64 (v / 2)) := shift_shr .u64 .u64 v 1 (by decide) (by decide)
 simp [eqGuard_shr, binOp_shr, e]
theorem yEz (w : World) {m : Nat} (h : m ≤ 4096) : (convert 116 3 (.int .u64 (m : Int))).run prog w = Result.ok (.int .i64 (m : Int)) w := by
 have hw : IntKind.i64.wrap (m : Int) = m := by rw [IntKind.wrap_i64]; omega
 simp [go_sem, convert, run_underlying underlying116, run_underlying underlying3, hw]
section
variable {ops : Array Oper} {rest : List Oper} {op : Oper} {a : Act} {Q : Exit → Act → World → Prop} {w : World}
theorem xzz (hw : Region.wanted op (yielded ops a.tmps) = true) (t d : TypeId) (x : Operand) (ho : op.op = .convert t d x) (u : Value) (hx : a.eval x = u) {r : Value} (hr : (convert t d u).run prog w = .ok r w) (h : wpList prog ops Q rest (a.put op.dst r) w) : wpList prog ops Q (op :: rest) a w := by
 refine q7z hw ?_ h
 subst hx
 unfold execOp
 simp only [ho]
 rw [Sem.run_bind, hr]
 rfl
theorem x0z (hw : Region.wanted op (yielded ops a.tmps) = true) (f : BinOp) (t : TypeId) (x y : Operand) (t' : TypeId) (ho : op.op = .binOp f t x y t') (u v : Value) (hx : a.eval x = u) (hy : a.eval y = v) {r : Value} (hr : (do eqGuard f t x y u v; binOp f t u v).run prog w = .ok r w) (h : wpList prog ops Q rest (a.put op.dst r) w) : wpList prog ops Q (op :: rest) a w := by
 refine q7z hw ?_ h
 subst hx hy
 unfold execOp
 simp only [ho]
 rw [Sem.run_bind, hr]
 rfl
end
theorem bsf_any {w : World} {ao : Option Addr} {n cap : Nat} {X : List Ob} {i : Int} (h : Obs w ao n cap X) (hs : Srt X) (hn16 : n ≤ 4096) : Calls prog 195 #[.slice ao n cap, .int .u64 i, .func (.func 196) #[] #[]] w fun e w' => e = .returned (.tuple #[.int .i64 (ahd X i : Nat), .bool (fnd X i).isSome]) ∧ Below w.heap.size w w' := by
 have hn : Hid (X.length = n) := h.1
 have hnc := h.2.1
 have hcm := h.2.2.1.1
 have hsH : Hid (Srt X) := hs
 clear hs
 go_enter func195, ntmps195
 go_wp2
 go_loopw [9, 10] (fun vl vh wr => ∃ lo hi : Nat, lo ≤ hi ∧ hi ≤ n ∧ vl = .int .i64 lo ∧ vh = .int .i64 hi ∧ Hid (∀ j, j < lo → (oat X j).id < i) ∧ Hid (∀ j, hi ≤ j → j < n → i ≤ (oat X j).id) ∧ Below w.heap.size w wr) (fun vl vh _ => (intOf vh).toNat - (intOf vl).toNat)
 case atStart => exact ⟨0, n, Nat.zero_le _, lrz _, rfl, rfl, fun j hj => absurd hj (by omega), fun j h1 h2 => absurd h2 (by omega), brz _ _⟩
 case round =>
  obtain ⟨lo, hi, hlh, hhn, rfl, rfl, hlo, hhi, hb⟩ := hrel
  have hbs := hb.size
  by_cases hlt : lo < hi
  ·obtain ⟨m, hm⟩ : ∃ m : Nat, m = (lo + hi) / 2 := ⟨_, rfl⟩
   have hmi : ((lo : Int) + hi) / 2 = m := by omega
   have hmn : m < n := by omega
   have hm1 : lo ≤ m := by omega
   have hm2 : m < hi := by omega
   have hmn' : (m : Int) < n := by omega
   have hm96 : m ≤ 4096 := by omega
   obtain ⟨b, off, C, rfl, hbb, hC, hr⟩ := w3z (qwz h hb) hmn
   have hz := hC.size
   clear hm
   go_wp2_with (first
    | (with_reducible refine x0z (by kernel_rfl) .shr _ _ _ _ rfl _ _ rfl rfl (yiz _ _ _ _ hmi) ?_)
    | (with_reducible refine xzz (by kernel_rfl) 116 3 _ rfl (.int .u64 (m : Int)) rfl (yEz _ hm96) ?_)
    | (with_reducible refine qxz (by kernel_rfl) 55 _ rfl b _ rfl C hr _ underlying55 (by kernel_rfl) (qfz hz) ?_)
    | (go_at_call 196; (with_reducible refine (vaz hC).mono ?_); rintro e w1 ⟨rfl, hb1⟩))
   ·rename_i hcmp
    have hxi := bMz.1 hcmp
    have hlo2 : Hid (∀ j, j < m + 1 → (oat X j).id < i) := by
     refine (?_ : ∀ j, j < m + 1 → (oat X j).id < i)
     intro j hj
     rcases Nat.lt_or_ge j m with q | q
     ·have hl := hn.out
      have := List.pairwise_iff_getElem.1 hsH.out j m (by omega) (by omega) q
      rw [← qMz (by omega), ← qMz (by omega)] at this
      omega
     ·obtain rfl : j = m := by omega
      exact hxi
    go_roundw
    case rel => exact ⟨m + 1, hi, by omega, hhn, by go_num, rfl, hlo2, hhi, hb.trans (hb1.mono hbs)⟩
    case measure => simp [intOf]; omega
   ·rename_i hcmp
    have hxi : ¬ (oat X m).id < i := fun q => by have := bMz.2 q; omega
    have hhi2 : Hid (∀ j, m ≤ j → j < n → i ≤ (oat X j).id) := by
     refine (?_ : ∀ j, m ≤ j → j < n → i ≤ (oat X j).id)
     intro j hj hjn
     rcases Nat.lt_or_ge m j with q | q
     ·have hl := hn.out
      have := List.pairwise_iff_getElem.1 hsH.out m j (by omega) (by omega) q
      rw [← qMz (by omega), ← qMz (by omega)] at this
      omega
     ·obtain rfl : j = m := by omega
      omega
    go_roundw
    case rel => exact ⟨lo, m, by omega, by omega, rfl, rfl, hlo, hhi2, hb.trans (hb1.mono hbs)⟩
    case measure => simp [intOf]; omega
  ·obtain rfl : lo = hi := by omega
   have hke : Hid (ahd X i = lo) := ahd_of (by rw [hn.out]; exact hhn) hlo.out (fun j h1 h2 => hhi.out j h1 (by rw [← hn.out]; exact h2))
   by_cases hln : lo < n
   ·obtain ⟨b, off, C, rfl, hbb, hC, hr⟩ := w3z (qwz h hb) hln
    have hz := hC.size
    have hln' : (lo : Int) < n := by omega
    by_cases hxi : (oat X lo).id = i
    ·have hf : Hid ((fnd X i).isSome = true) := by show _ = _; rw [jAz hsH.out (by rw [hke.out, hn.out]; exact hln) (by rw [hke.out]; exact hxi)]; rfl
     have hc0 : cmpI (oat X lo).id i = 0 := bNz.2 hxi
     have hby := vaz (i := i) hC
     rw [hc0] at hby
     clear hc0 hxi
     go_wp2_with (first
      | (with_reducible refine qxz (by kernel_rfl) 55 _ rfl b _ rfl C hr _ underlying55 (by kernel_rfl) (qfz hz) ?_)
      | (go_at_call 196; (with_reducible refine hby.mono ?_); rintro e w1 ⟨rfl, hb1⟩))
     go_ret2
     refine ⟨?_, hb.trans (hb1.mono hbs)⟩
     rw [hf.out, hke.out]; rfl
    ·have hf : Hid ((fnd X i).isSome = false) := by show _ = _; rw [wJz hsH.out (by rw [hke.out]; exact fun q => hxi q.2)]; rfl
     have hc0 : (cmpI (oat X lo).id i == 0) = false := by rw [beq_eq_false_iff_ne]; exact fun q => hxi (bNz.1 q)
     clear hxi
     go_wp2_with (first
      | (with_reducible refine qxz (by kernel_rfl) 55 _ rfl b _ rfl C hr _ underlying55 (by kernel_rfl) (qfz hz) ?_)
      | (go_at_call 196; (with_reducible refine (vaz hC).mono ?_); rintro e w1 ⟨rfl, hb1⟩))
     go_ret2
     refine ⟨?_, hb.trans (hb1.mono hbs)⟩
     rw [hf.out, hke.out]; rfl
   ·have hf : Hid ((fnd X i).isSome = false) := by show _ = _; rw [wJz hsH.out (by rw [hke.out, hn.out]; exact fun q => hln q.1)]; rfl
    have hln' : ¬ (lo : Int) < n := by omega
    go_wp2
    go_ret2
    refine ⟨?_, hb⟩
    rw [hf.out, hke.out]; rfl
def ObsF (E D : Nat → Prop) (w : World) (ao : Option Addr) (n cap : Nat) (X : List Ob) (Cf : Nat → Array Value) : Prop :=
 X.length = n ∧ n ≤ cap ∧ (cap ≤ 9223372036854775807 ∧ (ao = none → cap = 0)) ∧
 (0 < n → ∃ b off, ao = some ⟨b, off, none⟩ ∧ E b ∧ ∀ i, i < n → w.rangeAt b (off + i * 51) (Cf i).toList) ∧ ∀ i, i < n → ObD D w (Cf i) (oat X i)
section
variable {E E' D D' : Nat → Prop} {w w' : World} {ao : Option Addr} {n cap : Nat} {X : List Ob} {Cf : Nat → Array Value}
theorem ObsD.fam (h : ObsD E D w ao n cap X) : ∃ Cf, ObsF E D w ao n cap X Cf := by
 obtain ⟨h1, h2, h3, h4⟩ := h
 rcases Nat.eq_zero_or_pos n with h0 | h0
 ·exact ⟨fun _ => #[], h1, h2, h3, fun q => absurd q (by omega), fun i hi => absurd hi (by omega)⟩
 ·obtain ⟨b, off, e, hb, hc⟩ := h4 h0
  have key : ∀ i, ∃ C, i < n → ObD D w C (oat X i) ∧ w.rangeAt b (off + i * 51) C.toList := fun i => by
   by_cases hi : i < n
   ·obtain ⟨C, hC⟩ := hc i hi; exact ⟨C, fun _ => hC⟩
   ·exact ⟨#[], fun q => absurd q hi⟩
  exact ⟨fun i => Classical.choose (key i), h1, h2, h3, fun _ => ⟨b, off, e, hb, fun i hi => (Classical.choose_spec (key i) hi).2⟩, fun i hi => (Classical.choose_spec (key i) hi).1⟩
theorem ObsF.obs (h : ObsF E D w ao n cap X Cf) : ObsD E D w ao n cap X := by
 obtain ⟨h1, h2, h3, h4, h5⟩ := h
 refine ⟨h1, h2, h3, fun h0 => ?_⟩
 obtain ⟨b, off, e, hb, hc⟩ := h4 h0
 exact ⟨b, off, e, hb, fun i hi => ⟨Cf i, h5 i hi, hc i hi⟩⟩
theorem ObsF.laterK (h : ObsF E D w ao n cap X Cf) (k : ∀ b, D b → w'.heap[b]? = w.heap[b]?) (k' : ∀ b, E b → w'.heap[b]? = w.heap[b]?) : ObsF E D w' ao n cap X Cf := by
 obtain ⟨h1, h2, h3, h4, h5⟩ := h
 refine ⟨h1, h2, h3, fun h0 => ?_, fun i hi => (h5 i hi).laterK k⟩
 obtain ⟨b, off, e, hb, hc⟩ := h4 h0
 exact ⟨b, off, e, hb, fun i hi => qHz (hc i hi) (k' b hb)⟩
theorem ObsF.wide (h : ObsF E D w ao n cap X Cf) (k : ∀ b, D b → D' b) (k' : ∀ b, E b → E' b) : ObsF E' D' w ao n cap X Cf := by
 obtain ⟨h1, h2, h3, h4, h5⟩ := h
 refine ⟨h1, h2, h3, fun h0 => ?_, fun i hi => (h5 i hi).wide k⟩
 obtain ⟨b, off, e, hb, hc⟩ := h4 h0
 exact ⟨b, off, e, k' b hb, hc⟩
theorem ObsF.next (h : ObsF (LtN w) (LtN w) w ao n cap X Cf) (k : Below w.heap.size w w') : ObsF (LtN w') (LtN w') w' ao n cap X Cf :=
 (h.laterK (fun b hb => k.block b hb) (fun b hb => k.block b hb)).wide (fun b hb => ltz hb k.size) (fun b hb => ltz hb k.size)
end
def fC (X : List Ob) (Cf : Nat → Array Value) (i : Int) : Array Value := if (fnd X i).isSome = true then Cf (ahd X i) else zC
theorem bCz {w : World} {t ke ro : Int} {ao : Option Addr} {n cap : Nat} {X : List Ob} {Cf : Nat → Array Value} {i : Int} (h : ObsF (LtN w) (LtN w) w ao n cap X Cf) (hs : Srt X) (hn16 : n ≤ 4096) : Calls prog 153 #[.agg #[.int .i64 t, .int .u64 ke, .int .u64 ro, .slice ao n cap], .int .u64 i] w fun e w' => e = .returned (.tuple #[.agg (fC X Cf i), .bool (fnd X i).isSome]) ∧ Below w.heap.size w w' := by
 have hn : Hid (X.length = n) := h.1
 have hsH : Hid (Srt X) := hs
 have hle : ahd X i ≤ n := by rw [← hn.out]; exact k9z X i
 have ga3 := isAgg23
 have hbs := fun (W : World) (hk : Below w.heap.size w W) => bsf_any (i := i) (ObsF.obs (h.next hk)) hs hn16
 have c3 : (#[.int .i64 t, .int .u64 ke, .int .u64 ro, .slice ao n cap] : Array Value)[3]? = some (.slice ao n cap) := rfl
 obtain ⟨G, hG⟩ : ∃ G : Array Value, G = #[.int .i64 t, .int .u64 ke, .int .u64 ro, .slice ao n cap] := ⟨_, rfl⟩
 rw [← hG] at c3
 rw [← hG]
 clear hG
 obtain ⟨k, hke⟩ : ∃ k, Hid (ahd X i = k) := ⟨_, rfl⟩
 rw [hke.out] at hbs hle
 clear hs
 by_cases hf : (fnd X i).isSome = true
 obtain ⟨x, hx⟩ := Option.isSome_iff_exists.1 hf
 have hq : ahd X i < X.length ∧ (oat X (ahd X i)).id = i := Classical.byContradiction fun q => by rw [wJz hsH.out q] at hx; cases hx
 have hkn : k < n := by have := hq.1; rw [hke.out, hn.out] at this; exact this
 have hfC : Hid (fC X Cf i = Cf k) := by show _ = _; unfold fC; rw [if_pos hf, hke.out]
 rw [hf] at hbs ⊢
 rw [hfC.out]
 obtain ⟨b, off, rfl, hbb, hrr⟩ := h.2.2.2.1 (by omega)
 have hr := hrr k hkn
 have hz := (h.2.2.2.2 k hkn).size
 have h1c := (h.2.2.2.2 k hkn).one
 have hkn' : (k : Int) < n := by omega
 generalize Cf k = C at hr hz h1c ⊢
 clear hx hq hf hrr
 rotate_left
 have hx : (fnd X i).isSome = false := by simpa using hf
 have hfC : Hid (fC X Cf i = zC) := by show _ = _; unfold fC; rw [if_neg hf]
 rw [hx] at hbs ⊢
 rw [hfC.out]
 clear hx hf
 rotate_left
 all_goals go_enter func153, ntmps153
 all_goals go_wp2_with (first
  | go_skip
  | (with_reducible refine qcz rfl _ _ rfl G rfl ?_; intro B W hB hb hk)
  | ((with_reducible refine qdz rfl _ rfl zC qsz ?_); intro R W1 hB1 hR hk1; replace hb := hb.next hk1; replace hk := btz hk hk1)
  | (with_reducible refine qaz (by kernel_rfl) _ _ rfl B _ rfl _ _ hb _ c3 ga3 ?_)
  | (go_at_call 195; (with_reducible refine (hbs _ hk).mono ?_); rintro e w2 ⟨rfl, hb2⟩; replace hb := hb.next hb2; replace hR := hR.next hb2; replace hk := btz hk hb2; replace hr := qHz hr (hk.block b hbb))
  | (go_at_call 195; (with_reducible refine (hbs _ hk).mono ?_); rintro e w2 ⟨rfl, hb2⟩; replace hb := hb.next hb2; replace hR := hR.next hb2; replace hk := btz hk hb2)
  | ((with_reducible refine qyz rfl _ [] rfl zC ?hf ?_); (case hf => exact yHz))
  | ((with_reducible refine qbz rfl _ _ _ rfl R rfl zC rfl zC hR (qfz qoz) rfl (zC_d (fun _ => True) w).one ?_); intro W4 hR4 o4)
  | (with_reducible refine qxz (by kernel_rfl) 55 _ rfl b _ rfl C hr _ underlying55 (by kernel_rfl) (qfz hz) ?_)
  | ((with_reducible refine qbz rfl _ _ _ rfl R rfl C rfl zC hR (qfz hz) (qoz.trans hz.symm) h1c ?_); intro W4 hR4 o4))
 ·have hRl : w.heap.size ≤ R := by have := hB.out; have := hB1.out; omega
  refine bodyPost_ret (v := .tuple #[.agg C, .bool true]) (kRz results153 rfl rfl hR4 hz) rfl ?_
  exact ⟨rfl, o4.below _ _ hRl hk⟩
 ·have hRl : w.heap.size ≤ R := by have := hB.out; have := hB1.out; omega
  refine bodyPost_ret (v := .tuple #[.agg zC, .bool false]) (kRz results153 rfl rfl hR4 qoz) rfl ?_
  exact ⟨rfl, o4.below _ _ hRl hk⟩
section
variable {F : Fence} (hF : ∀ f, F.fn f) {N : Nat} {ops : Array Oper} {rest : List Oper} {op : Oper} {a : Act} {Q : Exit → Act → World → Prop} {w w' : World}
include hF
theorem yyz {v : Value} (hd : ∀ c, op.op ≠ .defer c) (hw : Region.wanted op (yielded ops a.tmps) = true) (hr : (execOp a.eval op).run prog w = .ok (.value v) w') (h : wpListIn F N prog ops Q rest (a.put op.dst v) w') : wpListIn F N prog ops Q (op :: rest) a w := by
 simp only [wpListIn, hw, if_true]
 refine ⟨fun f _ => hF f, ?_⟩
 rw [Oper.semAt_plain F _ _ hd, hr, Oper.uponIn_value]
 exact h
theorem inL_skip (hd : ∀ c, op.op ≠ .defer c) (hw : Region.wanted op (yielded ops a.tmps) = true) (hr : (execOp a.eval op).run prog w = .ok .skip w') (h : wpListIn F N prog ops Q rest (a.put op.dst undef) w') : wpListIn F N prog ops Q (op :: rest) a w := by
 simp only [wpListIn, hw, if_true]
 refine ⟨fun f _ => hF f, ?_⟩
 rw [Oper.semAt_plain F _ _ hd, hr, Oper.uponIn_skip]
 exact h
theorem bpz (hw : Region.wanted op (yielded ops a.tmps) = true) (ty : TypeId) (x : Operand) (ho : op.op = .load ty x) (b o : Nat) (hx : a.eval x = .pointer (some ⟨b, o, none⟩)) (C : Array Value) (hr : w.rangeAt b o C.toList) (d : TypeDesc)
  (hu : prog.underlying ty = some d) (hd : d.isRow = true) (hi : (prog.info? ty).map (·.size) = some C.size) (h : wpListIn F N prog ops Q rest (a.put op.dst (.agg C)) w) : wpListIn F N prog ops Q (op :: rest) a w := by
 refine yyz hF (by rw [ho]; intro c hc; cases hc) hw ?_ h
 have := run_loadVar_mid (P := prog) w b o ty C.toList d hr hu hd (by simpa using hi)
 rw [Array.toArray_toList] at this
 unfold execOp
 simp [ho, hx, Instr.loadAt, Instr.sureAddr, this]
theorem wuz (hw : Region.wanted op (yielded ops a.tmps) = true) (ty : TypeId) (x : Operand) (ho : op.op = .load ty x) (B : Nat) (hx : a.eval x = .pointer (some ⟨B, 0, none⟩)) (C : Array Value) (t : TypeId) (hB : Blk w B C t) (d : TypeDesc)
  (hu : prog.underlying ty = some d) (hd : d.isRow = true) (hi : (prog.info? ty).map (·.size) = some C.size) (h : wpListIn F N prog ops Q rest (a.put op.dst (.agg C)) w) : wpListIn F N prog ops Q (op :: rest) a w :=
 bpz hF hw ty x ho B 0 hx C hB.range0 d hu hd hi h
theorem kYz (hw : Region.wanted op (yielded ops a.tmps) = true) (ty : TypeId) (ho : op.op = .alloc ty) (z : Array Value) (hz : ∀ w, (zeroValue ty).run prog w = .ok (.agg z) w)
  (h : ∀ B W, Hid (w.heap.size = B ∧ W.heap.size = B + 1) → Blk W B z ty → Below w.heap.size w W → wpListIn F N prog ops Q rest (a.put op.dst (.pointer (some ⟨B, 0, none⟩))) W) : wpListIn F N prog ops Q (op :: rest) a w := by
 refine yyz hF (by rw [ho]; intro c hc; cases hc) hw (w' := w.alloc (.cells z ty)) (v := .pointer (some ⟨w.heap.size, 0, none⟩)) ?_ (h _ _ ⟨rfl, by simp⟩ (Blk.new w z ty) ((brz _ w).alloc (lrz _) _))
 unfold execOp
 simp [ho, Instr.alloc, hz, newVar, newRow, newObj, Value.cells]
 rfl
theorem bqz (hw : Region.wanted op (yielded ops a.tmps) = true) (ty : TypeId) (x : Operand) (ho : op.op = .box ty x) (C : Array Value) (hx : a.eval x = .agg C)
  (h : ∀ B W, Hid (w.heap.size = B ∧ W.heap.size = B + 1) → Blk W B C ty → Below w.heap.size w W → wpListIn F N prog ops Q rest (a.put op.dst (.pointer (some ⟨B, 0, none⟩))) W) : wpListIn F N prog ops Q (op :: rest) a w := by
 refine yyz hF (by rw [ho]; intro c hc; cases hc) hw (w' := w.alloc (.cells C ty)) (v := .pointer (some ⟨w.heap.size, 0, none⟩)) ?_ (h _ _ ⟨rfl, by simp⟩ (Blk.new w C ty) ((brz _ w).alloc (lrz _) _))
 unfold execOp
 simp [ho, hx, Instr.box, newVar, newRow, newObj, Value.cells]
 rfl
theorem wXz (hw : Region.wanted op (yielded ops a.tmps) = true) (ty : TypeId) (x y : Operand) (ho : op.op = .store ty x y) (B : Nat) (hx : a.eval x = .pointer (some ⟨B, 0, none⟩)) (C : Array Value) (hy : a.eval y = .agg C) (old : Array Value) (hB : Blk w B old ty)
  (hi : (prog.info? ty).map (·.size) = some C.size) (hs : old.size = C.size) (h1 : C.all (·.oneCell') = true)
  (h : ∀ W, Blk W B C ty → Oth B w W → wpListIn F N prog ops Q rest (a.put op.dst undef) W) : wpListIn F N prog ops Q (op :: rest) a w := by
 obtain ⟨W, hr, hb, ho'⟩ := qPz hB hi hs h1
 refine inL_skip hF (by rw [ho]; intro c hc; cases hc) hw (w' := W) ?_ (h W hb ho')
 unfold execOp
 simp only [ho, hx, hy, Instr.storeAt, Instr.sureAddr, Sem.run_bind, Sem.run_pure, Result.andThen_ok, hr]
end
def cfo (X : List Ob) (Cf : Nat → Array Value) (i : Nat) : Array Value := if i < X.length then Cf i else zC
variable {X : List Ob} {Cf : Nat → Array Value}
theorem cfo_lt {i : Nat} (h : i < X.length) : cfo X Cf i = Cf i := if_pos h
variable {ao : Option Addr} {w : World} {n cap : Nat}
theorem cfo_ob {E D : Nat → Prop} (h : ObsF E D w ao n cap X Cf) (i : Nat) : ObD D w (cfo X Cf i) (oat X i) := by
 unfold cfo
 split
 ·rename_i q; exact h.2.2.2.2 i (by rw [← h.1]; exact q)
 ·rename_i q
  have : oat X i = zOb := by unfold oat; rw [List.getD_eq_getElem?_getD, List.getElem?_eq_none (by omega)]; rfl
  rw [this]; exact zC_d D w
def wh (X : List Ob) (i : Int) : Option Nat := if (fnd X i).isSome = true then some (ahd X i) else none
def hitO (X : List Ob) (l : List Int) : List Nat := l.filterMap (wh X)
theorem bvz {l : List Int} {k : Nat} (h : k < l.length) : hitO X (l.take (k + 1)) = hitO X (l.take k) ++ (wh X (l.getD k 0)).toList := by
 unfold hitO
 have e : ([l[k]] : List Int).filterMap (wh X) = (wh X l[k]).toList := by
  simp only [List.filterMap_cons, List.filterMap_nil]
  cases wh X l[k] <;> rfl
 rw [List.take_add_one, List.getElem?_eq_getElem h, Option.toList_some, List.filterMap_append, List.getD_eq_getElem?_getD, List.getElem?_eq_getElem h, e]
 rfl
theorem hitO_pre {l : List Int} {k : Nat} : hitO X (l.take k) <+: hitO X l := by
 unfold hitO
 conv => rhs; rw [← List.take_append_drop k l]
 rw [List.filterMap_append]
 exact List.prefix_append _ _
theorem wh_lt (hs : Srt X) {i : Int} {k : Nat} (h : wh X i = some k) : k < X.length ∧ fnd X i = some (oat X k) := by
 unfold wh at h
 split at h
 ·rename_i hf
  cases h
  obtain ⟨x, hx⟩ := Option.isSome_iff_exists.1 hf
  have hq : ahd X i < X.length ∧ (oat X (ahd X i)).id = i := Classical.byContradiction fun q => by rw [wJz hs q] at hx; cases hx
  exact ⟨hq.1, jAz hs hq.1 hq.2⟩
 ·cases h
def encO (X : List Ob) (Cf : Nat → Array Value) (i : Nat) : Array Value := #[.agg (cfo X Cf i)]
variable {t ke ro : Int}
theorem u1z (N : Nat) (hN : 1 ≤ N) (l Bd Bv : Nat) (D : Nat → Prop) {ao al : Option Addr} {n cap nl cl : Nat} {Cd : Array Value} {L : List Int} (hs : Srt X) (hn16 : n ≤ 4096) (J Jx : List Nat → World → Prop)
  (hY : ∀ pre x W, J pre W → pre.length < (hitO X L).length → YieldAt Fence.wide (N - 1) prog l (encO X Cf x) W fun e W' =>
   (e = .returned (.bool true) ∧ J (pre ++ [x]) W' ∧ Keeps D W W') ∨ (e = .returned (.bool false) ∧ Jx (pre ++ [x]) W'))
  (W : World) (hJ : AbidesFrom W.heap.size J) (hD : ∀ b, D b → b < W.heap.size) (hDd : D Bd) (hDv : D Bv) (hBd : Blk W Bd Cd 55) (hc5 : Cd[5]? = some (.slice al nl cl)) (hBv : Blk W Bv #[.int .i64 t, .int .u64 ke, .int .u64 ro, .slice ao n cap] 180)
  (hX : ObsF D D W ao n cap X Cf) (hL : CtD D W al nl cl L) (h0 : J [] W) :
  CallsIn Fence.wide N prog 245 #[.func (.yield l) #[] #[], .pointer (some ⟨Bd, 0, none⟩), .pointer (some ⟨Bv, 0, none⟩)] W fun e W' => (∃ v, e = .returned v) ∧
   ((∃ ys, ys = hitO X L ∧ J ys W') ∨ (∃ pre, pre <+: hitO X L ∧ Jx pre W')) := by
 have hln : Hid (L.length = nl) := hL.1
 have hlc := hL.2.1
 have hlm := hL.2.2.1.1
 have ga4 := isAgg40
 have ga1 := isAgg22
 have hzv : (prog.info? 180).map (·.size) = some (#[.int .i64 t, .int .u64 ke, .int .u64 ro, .slice ao n cap] : Array Value).size := by kernel_rfl
 have hfd := fun (W' : World) (i : Int) (hk : Keeps D W W') => bCz (t := t) (ke := ke) (ro := ro) (i := i) ((hX.laterK (fun b hb => hk.2 b hb) (fun b hb => hk.2 b hb)).wide (D' := LtN W') (E' := LtN W') (fun b hb => ltz (hD b hb) hk.1) (fun b hb => ltz (hD b hb) hk.1)) hs hn16
 obtain ⟨G, hG⟩ : ∃ G : Array Value, G = #[.int .i64 t, .int .u64 ke, .int .u64 ro, .slice ao n cap] := ⟨_, rfl⟩
 rw [← hG] at hBv hzv hfd
 clear hG
 have hc : W.cell? ⟨Bd, 5, none⟩ = some (.slice al nl cl) := (hBd.cell 5).trans hc5
 refine callsIn_of_wp func245 rfl trivial ?_ rfl
 simp only [ntmps245, List.size_toArray, List.length_cons, List.length_nil, Nat.reduceAdd, Nat.reduceSub, Array.replicate_succ, Array.replicate_zero, List.push_toArray, List.append_toArray, List.nil_append, List.cons_append]
 gi_wp2
 gi_loopw [11] (fun i wr => ∃ k : Nat, k ≤ nl ∧ i = .int .i64 k ∧ Keeps D W wr ∧ J (hitO X (L.take k)) wr) (fun i _ => nl - (intOf i).toNat)
 case atStart => exact ⟨0, Nat.zero_le _, rfl, Keeps.refl _ _, h0⟩
 case round =>
  obtain ⟨k, hk, rfl, hkp, hJk⟩ := hrel
  by_cases hkn : k < nl
  ·obtain ⟨bl, offl, rfl, hbl, hcl⟩ := vWz (CtD.laterK hL fun b hb => hkp.2 b hb) hkn
   have hv : Blk wr Bv G 180 := (hkp.2 Bv hDv).trans hBv
   have hkn' : (k : Int) < nl := by omega
   have hsu := bvz (X := X) (show k < L.length by rw [hln.out]; exact hkn)
   have hpre : Hid (hitO X (L.take (k + 1)) <+: hitO X L) := hitO_pre
   generalize L.getD k 0 = i at hcl hsu
   have hfi := hfd wr i hkp
   have hzf : (fC X Cf i).size = 51 ∧ (fC X Cf i).all (·.oneCell') = true := by
    unfold fC
    split
    ·rename_i hf
     have := (wh_lt hs (show wh X i = some (ahd X i) by unfold wh; rw [if_pos hf])).1
     exact ⟨(hX.2.2.2.2 _ (by rw [← hX.1]; exact this)).size, (hX.2.2.2.2 _ (by rw [← hX.1]; exact this)).one⟩
    ·exact ⟨qoz, (zC_d (fun _ => True) wr).one⟩
   cases hw : wh X i with
   | none =>
    have hf : (fnd X i).isSome = false := by unfold wh at hw; split at hw; cases hw; rename_i q; simpa using q
    rw [hf] at hfi
    rw [hw] at hsu
    simp only [Option.toList_none, List.append_nil] at hsu
    generalize fC X Cf i = C at hfi hzf
    clear hfd hw hf
    gi_wp2_with (first
     | (with_reducible refine wuz (fun _ => trivial) (by kernel_rfl) _ _ rfl Bv rfl G _ hv _ underlying180 (by kernel_rfl) hzv ?_)
     | (refine ⟨trivial, ?_⟩; gi_at_call 153; (with_reducible refine (callsIn_wide.2 hfi).mono ?_); rintro e w1 ⟨rfl, hb1⟩)
     | ((with_reducible refine kYz (fun _ => trivial) (by kernel_rfl) _ rfl zC qsz ?_); intro R W5 hN5 hR5 hk5)
     | ((with_reducible refine wXz (fun _ => trivial) (by kernel_rfl) _ _ _ rfl R rfl C rfl zC hR5 (qfz hzf.1) (qoz.trans hzf.1.symm) hzf.2 ?_); intro W6 hR6 o6)
     | (with_reducible refine wuz (fun _ => trivial) (by kernel_rfl) _ _ rfl R rfl C _ hR6 _ underlying55 (by kernel_rfl) (qfz hzf.1) ?_))
    have kb : Below wr.heap.size wr W6 := o6.below wr.heap.size wr (by have := hN5.out; have := hb1.size; omega) (btz hb1 hk5)
    have hk1 : Keeps D wr W6 := ⟨kb.size, fun b hb => kb.block b (ltz (hD b hb) hkp.1)⟩
    have hJ1 := hJ _ wr W6 none hJk (below_grown kb) (fun r e => by cases e)
    refine ⟨fun f e => (by cases e), ?_⟩
    gi_wp2
    go_roundw
    case rel => exact ⟨k + 1, by omega, by go_num, hkp.trans hk1, by rw [hsu]; exact hJ1⟩
    case measure => simp [intOf]; omega
   | some m =>
    have hm := wh_lt hs hw
    have hf : (fnd X i).isSome = true := by rw [hm.2]; rfl
    have hmm : m = ahd X i := by unfold wh at hw; rw [if_pos hf] at hw; cases hw; rfl
    have hfc : fC X Cf i = Cf m := by unfold fC; rw [if_pos hf, hmm]
    have hix : Hid (cfo X Cf m = Cf m) := cfo_lt hm.1
    rw [hfc] at hfi hzf
    rw [hf] at hfi
    rw [hw] at hsu
    simp only [Option.toList_some] at hsu
    have hsu' : Hid (hitO X (L.take (k + 1)) = hitO X (L.take k) ++ [m]) := hsu
    obtain ⟨C, hC⟩ : ∃ C, Hid (C = Cf m) := ⟨_, rfl⟩
    rw [← hC.out] at hfi hzf
    clear hfd hw hf hfc hmm hm hsu
    gi_wp2_with (first
     | (with_reducible refine wuz (fun _ => trivial) (by kernel_rfl) _ _ rfl Bv rfl G _ hv _ underlying180 (by kernel_rfl) hzv ?_)
     | (refine ⟨trivial, ?_⟩; gi_at_call 153; (with_reducible refine (callsIn_wide.2 hfi).mono ?_); rintro e w1 ⟨rfl, hb1⟩)
     | ((with_reducible refine kYz (fun _ => trivial) (by kernel_rfl) _ rfl zC qsz ?_); intro R W5 hN5 hR5 hk5)
     | ((with_reducible refine wXz (fun _ => trivial) (by kernel_rfl) _ _ _ rfl R rfl C rfl zC hR5 (qfz hzf.1) (qoz.trans hzf.1.symm) hzf.2 ?_); intro W6 hR6 o6)
     | (with_reducible refine wuz (fun _ => trivial) (by kernel_rfl) _ _ rfl R rfl C _ hR6 _ underlying55 (by kernel_rfl) (qfz hzf.1) ?_))
    have kb : Below wr.heap.size wr W6 := o6.below wr.heap.size wr (by have := hN5.out; have := hb1.size; omega) (btz hb1 hk5)
    have hk1 : Keeps D wr W6 := ⟨kb.size, fun b hb => kb.block b (ltz (hD b hb) hkp.1)⟩
    have hJ1 := hJ _ wr W6 none hJk (below_grown kb) (fun r e => by cases e)
    obtain ⟨fn, tmps, assign, body, hyy, hR⟩ := hY (hitO X (L.take k)) m W6 hJ1 (by have := hpre.out.length_le; rw [hsu'.out] at this; simp at this; omega)
    dsimp only [encO] at hyy
    rw [hix.out, ← hC.out] at hyy
    rw [hyy]
    gi_wp2
    refine hR.mono ?_
    rintro e W3 (⟨rfl, hJ3, hk3⟩ | ⟨rfl, hJx3⟩)
    ·gi_wp2
     go_roundw
     case rel => exact ⟨k + 1, by omega, by go_num, (hkp.trans hk1).trans hk3, by rw [hsu'.out]; exact hJ3⟩
     case measure => simp [intOf]; omega
    ·gi_wp2
     refine bodyPost_ret (results_none rfl _ _ _) rfl ?_
     exact ⟨⟨_, rfl⟩, .inr ⟨_, by have h1 := hpre.out; rw [hsu'.out] at h1; exact h1, hJx3⟩⟩
  ·obtain rfl : k = nl := by omega
   gi_wp2
   go_end0
   exact ⟨⟨_, rfl⟩, .inl ⟨_, rfl, by rw [← hln.out, List.take_length] at hJk; exact hJk⟩⟩
theorem vOz (N : Nat) (hN : 1 ≤ N) (Bd Bv : Nat) (D : Nat → Prop) {ao al : Option Addr} {n cap nl cl : Nat} {Cd : Array Value} {L : List Int} (hs : Srt X) (hn16 : n ≤ 4096) (w : World)
  (hD : ∀ b, D b → b < w.heap.size) (hDd : D Bd) (hDv : D Bv) (hBd : Blk w Bd Cd 55) (hc5 : Cd[5]? = some (.slice al nl cl)) (hBv : Blk w Bv #[.int .i64 t, .int .u64 ke, .int .u64 ro, .slice ao n cap] 180) (hX : ObsF D D w ao n cap X Cf) (hL : CtD D w al nl cl L) :
  SeqStopsK Fence.wide N prog 245 #[.pointer (some ⟨Bd, 0, none⟩), .pointer (some ⟨Bv, 0, none⟩)] (encO X Cf) (Keeps D) (fun ys => ys = hitO X L) (fun pre => pre <+: hitO X L) (hitO X L).length w := fun l J Jx W hW hJ _ hY h0 =>
 u1z N hN l Bd Bv D hs hn16 J Jx hY W hJ (fun b hb => ltz (hD b hb) hW.size) hDd hDv ((hW.block Bd (hD Bd hDd)).trans hBd) hc5 ((hW.block Bv (hD Bv hDv)).trans hBv) (hX.laterK (fun b hb => hW.block b (hD b hb)) (fun b hb => hW.block b (hD b hb))) (hL.laterK fun b hb => hW.block b (hD b hb)) h0
variable {C : Array Value}
theorem Blk.own {X Y : World} {R : Nat} {t : TypeId} {row : Option Nat} (h : Blk X R C t) (hg : X.grownBy Y row) (hr : ∀ r, row = some r → ∃ o : Obj, X.heap[r]? = some o ∧ o.isCells = false) : Blk Y R C t :=
 (hg.block R h.lt (fun e => by obtain ⟨o, ho, hc⟩ := hr R e.symm; rw [show X.heap[R]? = _ from h] at ho; cases ho; cases hc)).trans h
theorem u0z {G C : Array Value} : Calls prog 201 #[.agg G, .agg C] w fun e w' => ∃ Bv Bd, e = .returned (.func (.func 245) #[] #[.pointer (some ⟨Bd, 0, none⟩), .pointer (some ⟨Bv, 0, none⟩)]) ∧ Blk w' Bv G 180 ∧ Blk w' Bd C 55 ∧ Bv ≠ Bd ∧ w.heap.size ≤ Bv ∧ w.heap.size ≤ Bd ∧ Below w.heap.size w w' := by
 go_enter func201, ntmps201
 go_wp2_with (first
  | (with_reducible refine qcz rfl 180 _ rfl G rfl ?_; intro Bv W hB hb hk)
  | (with_reducible refine qcz rfl 55 _ rfl C rfl ?_; intro Bd W2 hB2 hb2 hk2; replace hb := hb.next hk2; replace hk := btz hk hk2))
 go_ret
 exact ⟨Bv, Bd, rfl, hb, hb2, by have := hB.out; have := hB2.out; omega, by have := hB.out; omega, by have := hB.out; have := hB2.out; omega, hk⟩
theorem sum_hits (hs : Srt X) (L : List Int) : ((hitO X L).map fun m => (oat X m).quota).sum = (L.map (qOf X)).sum := by
 induction L with
 | nil => rfl
 | cons a r ih =>
  unfold hitO at ih ⊢
  rw [List.map_cons, List.sum_cons, ← ih, List.filterMap_cons]
  cases hw : wh X a with
  | none =>
   have hf : fnd X a = none := by
    unfold wh at hw
    split at hw
    ·cases hw
    ·rename_i q; cases hq : fnd X a with | none => rfl | some x => rw [hq] at q; exact absurd rfl q
   have : qOf X a = 0 := by unfold qOf; rw [hf]
   rw [this]; simp
  | some m =>
   obtain ⟨h1, h2⟩ := wh_lt hs hw
   have : qOf X a = (oat X m).quota := by unfold qOf; rw [h2]
   rw [this]
   simp only [List.map_cons, List.sum_cons]
theorem sumq (hq : ∀ x ∈ X, 0 ≤ x.quota ∧ x.quota ≤ 4096) (pre : List Nat) : 0 ≤ (pre.map fun m => (oat X m).quota).sum ∧ (pre.map fun m => (oat X m).quota).sum ≤ 4096 * pre.length := by
 induction pre with
 | nil => simp
 | cons a r ih =>
  have h1 : 0 ≤ (oat X a).quota ∧ (oat X a).quota ≤ 4096 := by
   by_cases q : a < X.length
   ·exact hq _ (wxz q)
   ·have : oat X a = zOb := by unfold oat; rw [List.getD_eq_getElem?_getD, List.getElem?_eq_none (by omega)]; rfl
    rw [this]; decide
  rw [List.map_cons, List.sum_cons, List.length_cons]
  omega
variable {o : Ob}
theorem gXz (h : Small o) : 0 ≤ pagO o ∧ pagO o ≤ 4294967296 := by
 have := h.c6
 unfold pagO
 split
 ·unfold pagN; omega
 ·omega
theorem uses_v (h : ObsF (LtN w) (LtN w) w ao n cap X Cf) (hs : Srt X) (hn16 : n ≤ 4096) (hq : ∀ x ∈ X, 0 ≤ x.quota ∧ x.quota ≤ 4096) (ho : ObD (LtN w) w C o) (hsm : Small o) : Calls prog 160 #[.agg #[.int .i64 t, .int .u64 ke, .int .u64 ro, .slice ao n cap], .agg C] w fun e w' => e = .returned (.int .i64 (pagO o + (o.links.map (qOf X)).sum)) ∧ Below w.heap.size w w' := by
 have hz := ho.size
 obtain ⟨al, nl, cl, c5, hL⟩ := ho.links
 have hzv : (prog.info? 180).map (·.size) = some (#[.int .i64 t, .int .u64 ke, .int .u64 ro, .slice ao n cap] : Array Value).size := by kernel_rfl
 obtain ⟨G, hG⟩ : ∃ G : Array Value, Hid (G = #[.int .i64 t, .int .u64 ke, .int .u64 ro, .slice ao n cap]) := ⟨_, rfl⟩
 rw [← hG.out] at hzv
 rw [← hG.out]
 refine (callsIn_wide (n := 5)).1 ?_
 refine callsIn_of_wp_marks func160 rfl trivial ?_ rfl
 simp only [ntmps160, List.size_toArray, List.length_cons, List.length_nil, Nat.reduceAdd, Nat.reduceSub, Array.replicate_succ, Array.replicate_zero, List.push_toArray, List.append_toArray, List.nil_append, List.cons_append]
 gi_wp2_with (first
  | (with_reducible refine bqz (fun _ => trivial) (by kernel_rfl) _ _ rfl G rfl ?_; intro B2 W2 hN2 hB2 hk)
  | (with_reducible refine bqz (fun _ => trivial) (by kernel_rfl) _ _ rfl C rfl ?_; intro B3 W3 hN3 hB3 hk3; replace hB2 := hB2.next hk3; replace hk := btz hk hk3)
  | (with_reducible refine wuz (fun _ => trivial) (by kernel_rfl) _ _ rfl B3 rfl C _ hB3 _ underlying55 (by kernel_rfl) (qfz hz) ?_)
  | (with_reducible refine wuz (fun _ => trivial) (by kernel_rfl) _ _ rfl B2 rfl G _ hB2 _ underlying180 (by kernel_rfl) hzv ?_)
  | (refine ⟨trivial, ?_⟩; gi_at_call 200; (with_reducible refine (callsIn_wide.2 (gWz (ho.next hk) hsm)).mono ?_); rintro e w1 ⟨rfl, hb1⟩; replace hB2 := hB2.next hb1; replace hB3 := hB3.next hb1; replace hk := btz hk hb1; have hka := (brz w1.heap.size w1).alloc (lrz _) (.cells #[.int .i64 (pagO o)] 3); have hU := Boxed.new w1 3 (.int .i64 (pagO o)); have hB2a := hB2.next hka; have hB3a := hB3.next hka; have hkw := btz hk hka)
  | (with_reducible refine wuz (fun _ => trivial) (by kernel_rfl) _ _ rfl B3 rfl C _ hB3a _ underlying55 (by kernel_rfl) (qfz hz) ?_)
  | (with_reducible refine wuz (fun _ => trivial) (by kernel_rfl) _ _ rfl B2 rfl G _ hB2a _ underlying180 (by kernel_rfl) hzv ?_)
  | (refine ⟨trivial, ?_⟩; gi_at_call 201; (with_reducible refine (callsIn_wide.2 u0z).mono ?_); rintro e w2 ⟨Bv, Bd, rfl, hBv, hBd, hvd, hv1, hd1, hb2⟩))
 have hwU : w.heap.size ≤ w1.heap.size := hk.size
 have hsz : (w1.alloc (.cells #[.int .i64 (pagO o)] 3)).heap.size = w1.heap.size + 1 := by simp
 rw [hsz] at hv1 hd1 hb2
 have hU2 : Boxed w2 w1.heap.size 3 (.int .i64 (pagO o)) := (hb2.block _ (by omega)).trans hU
 have hk2 : Below w.heap.size w w2 := hkw.trans (hb2.mono (by omega))
 generalize w1.heap.size = U at hwU hv1 hd1 hU2 ⊢
 clear hU hB2a hB3a hka hkw hb2 hB2 hB3 hb1 hk hk3 hN2 hN3 hsz
 have hD : ∀ b, (b < w.heap.size ∨ b = Bd ∨ b = Bv) → b < w2.heap.size := fun b hb => by
  rcases hb with q | q | q
  ·exact ltz q hk2.size
  ·rw [q]; exact hBd.lt
  ·rw [q]; exact hBv.lt
 have hX2 : ObsF (fun b => b < w.heap.size ∨ b = Bd ∨ b = Bv) (fun b => b < w.heap.size ∨ b = Bd ∨ b = Bv) w2 ao n cap X Cf := (h.laterK (fun b hb => hk2.block b hb) (fun b hb => hk2.block b hb)).wide (fun b hb => .inl hb) (fun b hb => .inl hb)
 have hL2 : CtD (fun b => b < w.heap.size ∨ b = Bd ∨ b = Bv) w2 al nl cl o.links := (hL.laterK fun b hb => hk2.block b hb).wide fun b hb => .inl hb
 refine wpIn_rangeFunc_ownH rfl (by omega) (gf := 245) (lb := #[.pointer (some ⟨Bd, 0, none⟩), .pointer (some ⟨Bv, 0, none⟩)]) rfl trivial (enters_of func245 (by kernel_rfl) rfl)
  (vOz _ (by omega) Bd Bv (fun b => b < w.heap.size ∨ b = Bd ∨ b = Bv) hs hn16 w2 hD (.inr (.inl rfl)) (.inr (.inr rfl)) hBd c5 (by rw [← hG.out]; exact hBv) hX2 hL2) keepsK_t (keepsK_b hD) (brz _ _) (fun _ => rfl)
  (fun pre W => Boxed W U 3 (.int .i64 (pagO o + (pre.map fun m => (oat X m).quota).sum)) ∧ Below w.heap.size w2 W)
  (fun cd pre W => False ∧ Below w.heap.size w2 W)
  (OwnFrom.and (Own.from (boxed_own _ _ _) _) (ownFrom_below hk2.size hk2.size))
  (fun cd => OwnFrom.and (ownFrom_pure _ _) (ownFrom_below hk2.size hk2.size))
  ⟨by simpa using hU2, brz _ _⟩
  (fun x a2 W => ∃ R, a2 = { tmps := #[.agg G, .agg C, .pointer (some ⟨B2, 0, none⟩), .pointer (some ⟨B3, 0, none⟩), .int .i64 0, .pointer (some ⟨U, 0, none⟩), .pointer (some ⟨R, 0, none⟩), .agg C, .int .i64 (pagO o), .agg G, .agg C, .func (.func 245) #[] #[.pointer (some ⟨Bd, 0, none⟩), .pointer (some ⟨Bv, 0, none⟩)], .agg (cfo X Cf x), undef, undef, undef, undef, undef], defers := [] } ∧ Blk W R (cfo X Cf x) 55 ∧ R ≠ U)
  (fun x a2 s A B row ⟨R, e, hb, hn⟩ hg hr => ⟨R, e, hb.own hg (fun r q => (hr r q).2), hn⟩)
  ?assign ?body ?done ?stop
 case assign =>
  rintro l pre x W K ⟨hI1, hI2⟩ hK
  have hco := cfo_ob h x
  dsimp only [encO]
  generalize cfo X Cf x = Cx at hco hK ⊢
  refine (fun (hh : ∀ T : Array Value, T = #[.agg G, .agg C, .pointer (some ⟨B2, 0, none⟩), .pointer (some ⟨B3, 0, none⟩), .int .i64 0, .pointer (some ⟨U, 0, none⟩), undef, .agg C, .int .i64 (pagO o), .agg G, .agg C, .func (.func 245) #[] #[.pointer (some ⟨Bd, 0, none⟩), .pointer (some ⟨Bv, 0, none⟩)], .agg Cx, undef, undef, undef, undef, undef] → Code.wpIn _ _ _ _ _ { tmps := T, defers := [] } W) => hh _ (by kernel_rfl)) ?_
  rintro T rfl
  have hsx := hco.size
  have h1x := hco.one
  clear hco
  gi_wp2_with (first
   | ((with_reducible refine kYz (fun _ => trivial) (by kernel_rfl) _ rfl zC qsz ?_); intro R W5 hN5 hR5 hk5)
   | ((with_reducible refine wXz (fun _ => trivial) (by kernel_rfl) _ _ _ rfl R rfl Cx rfl zC hR5 (qfz hsx) (qoz.trans hsx.symm) h1x ?_); intro W6 hR6 o6))
  have kb : Below W.heap.size W W6 := o6.below W.heap.size W (by have := hN5.out; omega) hk5
  have hRU : R ≠ U := by have := hN5.out; have := hI1.lt; omega
  have hDW : ∀ b, (b < w.heap.size ∨ b = Bd ∨ b = Bv) → b < W.heap.size := fun b hb => ltz (hD b hb) hI2.size
  exact hK _ _ ⟨kb.size, fun k o' _ hk' _ => (kb.block k (Array.getElem?_eq_some_iff.1 hk').1).trans hk'⟩ ⟨kb.size, fun b hb => kb.block b (hDW b hb)⟩ ⟨(kb.block U hI1.lt).trans hI1, hI2.trans (kb.mono (Nat.le_trans hk2.size hI2.size))⟩ ⟨R, rfl, hR6, hRU⟩
 case body =>
  rintro l pre x a2 W hl ⟨r2, hr2⟩ ⟨d1, hB1⟩ ⟨R, rfl, hR, hRU⟩ hlt
  have hco := cfo_ob h x
  have c1 := d1.cell
  have f1 := d1.frozen
  have c2 : W.cell? ⟨R, 3, none⟩ = some (.int .i64 (oat X x).quota) := (hR.cell 3).trans hco.quota
  generalize cfo X Cf x = Cx at hR ⊢
  have hqx : 0 ≤ (oat X x).quota ∧ (oat X x).quota ≤ 4096 := by
   by_cases q : x < X.length
   ·exact hq _ (wxz q)
   ·have : oat X x = zOb := by unfold oat; rw [List.getD_eq_getElem?_getD, List.getElem?_eq_none (by omega)]; rfl
    rw [this]; decide
  have hsum := sumq hq pre
  have hle : (hitO X o.links).length ≤ o.links.length := List.length_filterMap_le ..
  have hlen := hsm.c5
  have hpg := gXz hsm
  have hw : IntKind.i64.wrap ((pagO o + (pre.map fun m => (oat X m).quota).sum) + (oat X x).quota) = pagO o + ((pre ++ [x]).map fun m => (oat X m).quota).sum := by
   rw [List.map_append, List.sum_append, IntKind.wrap_i64]
   simp only [List.map_cons, List.map_nil, List.sum_cons, List.sum_nil]
   omega
  clear hsum hle hlen hpg hqx
  gi_wp2
  exact ⟨(KeepsOthers.setCell _ _ _).from _, ⟨by simp, fun b hb => Below.heap_setCell _ _ _ _ (by show b ≠ U; rcases hb with q | q | q <;> omega)⟩, by simpa [hw] using d1.set _, hB1.setCell (p := ⟨U, 0, none⟩) (by show w.heap.size ≤ U; omega) _⟩
 case done =>
  rintro D ys W hD rfl ⟨d1, hB⟩ hK
  rw [sum_hits hs] at d1
  have c1 := d1.cell
  gi_wp2
  refine ⟨by simp, .inl ⟨_, _, rfl, run_takeDeferred hK, ?_⟩⟩
  refine ⟨.int .i64 (pagO o + (o.links.map (qOf X)).sum), ?_, rfl, (hk2.trans hB).trans (belowK_b (w := w) (lrz _) _ D _ _ (by have := hk2.size; omega) hK rfl rfl)⟩
  simp [results, Tryz.f160, go_sem]
 case stop =>
  rintro D cd pre W hD hpre ⟨h, _⟩ hK
  exact h.elim
theorem sub_any {S : World → Prop} {x y : Operand} {a b : Int} (hw : IntKind.i64.wrap (a - b) = a - b) : Obl.holds prog S (.test .sub 3 x y (.int .i64 a) (.int .i64 b) (.int .i64 (a - b))) := fun w hS => by
 go_simp
theorem qO_le (hq : ∀ x ∈ X, 0 ≤ x.quota ∧ x.quota ≤ 4096) (i : Int) : 0 ≤ qOf X i ∧ qOf X i ≤ 4096 := by
 unfold qOf
 cases hf : fnd X i with
 | none => exact ⟨by decide, by decide⟩
 | some x => exact hq x (List.mem_of_find?_eq_some (show X.find? _ = some x from hf))
theorem use_le (hq : ∀ x ∈ X, 0 ≤ x.quota ∧ x.quota ≤ 4096) (hsm : Small o) : 0 ≤ pagO o + (o.links.map (qOf X)).sum ∧ pagO o + (o.links.map (qOf X)).sum ≤ 17596481011712 := by
 have h1 := sum_le (l := o.links) (f := qOf X) (k := 4096) fun i _ => qO_le hq i
 have h2 := gXz hsm
 have h3 := hsm.c5
 omega
theorem room_v (h : ObsF (LtN w) (LtN w) w ao n cap X Cf) (hs : Srt X) (hn16 : n ≤ 4096) (hq : ∀ x ∈ X, 0 ≤ x.quota ∧ x.quota ≤ 4096) (ho : ObD (LtN w) w C o) (hsm : Small o) (hoq : 0 ≤ o.quota ∧ o.quota ≤ 4096) : Calls prog 159 #[.agg #[.int .i64 t, .int .u64 ke, .int .u64 ro, .slice ao n cap], .agg C] w fun e w' => e = .returned (.int .i64 (o.quota - (pagO o + (o.links.map (qOf X)).sum))) ∧ Below w.heap.size w w' := by
 have hmx : prog.follows .mixedOrders = true := by kernel_rfl
 have hz := ho.size
 have c3 := ho.quota
 have hul := use_le hq hsm
 have hzv : (prog.info? 180).map (·.size) = some (#[.int .i64 t, .int .u64 ke, .int .u64 ro, .slice ao n cap] : Array Value).size := by kernel_rfl
 have hus := fun (W : World) (hk : Below w.heap.size w W) => uses_v (t := t) (ke := ke) (ro := ro) (h.next hk) hs hn16 hq (ho.next hk) hsm
 obtain ⟨G, hG⟩ : ∃ G : Array Value, G = #[.int .i64 t, .int .u64 ke, .int .u64 ro, .slice ao n cap] := ⟨_, rfl⟩
 rw [← hG] at hzv hus
 rw [← hG]
 clear hG
 obtain ⟨u, hu⟩ : ∃ u, Hid ((pagO o + (o.links.map (qOf X)).sum) = u) := ⟨_, rfl⟩
 rw [hu.out] at hus hul ⊢
 have hw : IntKind.i64.wrap (o.quota - u) = o.quota - u := by rw [IntKind.wrap_i64]; omega
 go_enter func159, ntmps159
 go_wp2_with (first
  | (with_reducible refine qcz rfl 180 _ rfl G rfl ?_; intro B2 W2 hN2 hB2 hk)
  | (with_reducible refine qcz rfl 55 _ rfl C rfl ?_; intro B3 W3 hN3 hB3 hk3; replace hB2 := hB2.next hk3; replace hk := btz hk hk3))
 refine PgM.region_out (S := fun W => Blk W B2 G 180 ∧ Blk W B3 C 55) hmx ⟨hB2.next (brz _ _).drew, hB3.next (brz _ _).drew⟩ (fun hS => ?_)
 replace hk := hk.trans ((brz W3.heap.size W3).drew.mono hk.size)
 generalize W3.drew = W5 at hS hk ⊢
 clear hB2 hB3 hk3 hN2 hN3
 refine qGz (by kernel_rfl) (fun _ _ _ _ _ h => h) hS [(0, none), (1, some (.int .i64 o.quota)), (2, some (.agg G)), (3, some (.agg C))] (obs := [.load 3 B3 3 (.int .i64 o.quota), .load 180 B2 0 (.agg G), .load 55 B3 0 (.agg C)]) (n := 3) (by kernel_rfl) (by kernel_rfl) ⟨qez (fun _ h => h.2) c3 isAgg3, qBz (fun _ h => h.1) underlying180 (by kernel_rfl) hzv, qBz (fun _ h => h.2) underlying55 (by kernel_rfl) (qfz hz), trivial⟩ ?_
 refine qrz (i := 4) (fuel := 2) (f := 160) (vs := [.agg G, .agg C]) (d := some 9) (by kernel_rfl) (by kernel_rfl) (by kernel_rfl) call160 (hus _ hk) ?_
 rintro e W6 ⟨rfl, hb6⟩
 have hS2 : Blk W6 B2 G 180 ∧ Blk W6 B3 C 55 := ⟨hS.1.next hb6, hS.2.next hb6⟩
 refine ⟨_, rfl, hS2, ?_⟩
 refine qmz (by kernel_rfl) (fun _ _ _ _ _ h => h) hS2 [(5, some (.int .i64 (o.quota - u))), (6, none)] (l' := #[tt, tt, tt, tt, tt, tt, tt]) (a' := { tmps := #[.agg G, .agg C, .pointer (some ⟨B2, 0, none⟩), .pointer (some ⟨B3, 0, none⟩), .int .i64 (o.quota - u), .pointer (some ⟨B3, 3, none⟩), .int .i64 o.quota, .agg G, .agg C, .int .i64 u, .int .i64 (o.quota - u)], defers := [] }) (obs := [.test .sub 3 (.tmp 6) (.tmp 9) (.int .i64 o.quota) (.int .i64 u) (.int .i64 (o.quota - u))]) (n := 0) (by kernel_rfl) (by kernel_rfl) ⟨sub_any hw, trivial⟩ ?_
 refine wpAnyH_done (by kernel_rfl) ?_ _
 go_wp2
 go_ret
 exact ⟨rfl, btz hk hb6⟩
def sngO (o : Ob) : Bool := decide (o.kind = 2) || decide (o.kind = 4)
def fO (X : List Ob) (i : Int) : Ob := (fnd X i).getD zOb
theorem fC_ob {E D : Nat → Prop} (h : ObsF E D w ao n cap X Cf) (hs : Srt X) (i : Int) : ObD D w (fC X Cf i) (fO X i) := by
 unfold fC fO
 split
 ·rename_i hf
  obtain ⟨x, hx⟩ := Option.isSome_iff_exists.1 hf
  have hq : ahd X i < X.length ∧ (oat X (ahd X i)).id = i := Classical.byContradiction fun q => by rw [wJz hs q] at hx; cases hx
  rw [jAz hs hq.1 hq.2]
  exact h.2.2.2.2 _ (by rw [← h.1]; exact hq.1)
 ·rename_i hf
  have : fnd X i = none := by cases hq : fnd X i with | none => rfl | some x => rw [hq] at hf; exact absurd rfl hf
  rw [this]
  exact zC_d D w
theorem vUz {i : Int} (h : (fnd X i).isSome = true) : fO X i ∈ X ∧ (fO X i).id = i := by
 obtain ⟨x, hx⟩ := Option.isSome_iff_exists.1 h
 have e : fO X i = x := by unfold fO; rw [hx]; rfl
 unfold fnd at hx
 rw [e]
 exact ⟨List.mem_of_find?_eq_some hx, by simpa using List.find?_some hx⟩
end
end Go.Proofs.YtloghnpfplljgaaGreat
