/-
  PROVED HERE: memory's words for worlds (rows of objects), and what the law's few, package obj's Same and Fit, and the document's Head, Same and Fit return when they are called (contracts over this translation). No condition.
-/
import Derived.Test.YtfpmkihlfhpgdaaObE
import Derived.Test.YtfpmkihlfhpgdaaObOpen
namespace Go.Proofs.Ytfpmkihlfhpgdaa
section
open Go.ChangeShapes Go.WideShapes Go.ChangeAt Go.RowKit Go.Shelf
set_option linter.unusedVariables false
attribute [local go_sem] Oper.semAt_some

/-- The i-th object. -/
def oat (l : List Ob) (i : Nat) : Ob := l.getD i zOb
/-- The slice of n objects at ao holds l in w, in a block of which E holds, their lists in blocks of which D holds. -/
def ObsD (E D : Nat → Prop) (w : World) (ao : Option Addr) (n cap : Nat) (l : List Ob) : Prop :=
  l.length = n ∧ n ≤ cap ∧ (cap ≤ 9223372036854775807 ∧ (ao = none → cap = 0)) ∧
  (0 < n → ∃ b off, ao = some ⟨b, off, none⟩ ∧ E b ∧ ∀ i, i < n → ∃ C, ObD D w C (oat l i) ∧ w.rangeAt b (off + i * 51) C.toList)
theorem range_block {w w' : World} {b o : Nat} {cs : List Value} (h : w.rangeAt b o cs) (k : w'.heap[b]? = w.heap[b]?) : w'.rangeAt b o cs := fun j v hv => (World.cell?_of_block (w := w) (a := ⟨b, o + j, none⟩) k).trans (h j v hv)
section
variable {E E' D D' : Nat → Prop} {w w' : World} {ao : Option Addr} {n cap : Nat} {l : List Ob}
theorem ObsD.laterK (h : ObsD E D w ao n cap l) (k : ∀ b, D b → w'.heap[b]? = w.heap[b]?) (k' : ∀ b, E b → w'.heap[b]? = w.heap[b]?) : ObsD E D w' ao n cap l := by
  obtain ⟨h1, h2, h3, h4⟩ := h
  refine ⟨h1, h2, h3, fun hn => ?_⟩
  obtain ⟨b, off, e, hb, hc⟩ := h4 hn
  refine ⟨b, off, e, hb, fun i hi => ?_⟩
  obtain ⟨C, hC, hr⟩ := hc i hi
  exact ⟨C, hC.laterK k, range_block hr (k' b hb)⟩
theorem ObsD.wide (h : ObsD E D w ao n cap l) (k : ∀ b, D b → D' b) (k' : ∀ b, E b → E' b) : ObsD E' D' w ao n cap l := by
  obtain ⟨h1, h2, h3, h4⟩ := h
  refine ⟨h1, h2, h3, fun hn => ?_⟩
  obtain ⟨b, off, e, hb, hc⟩ := h4 hn
  refine ⟨b, off, e, k' b hb, fun i hi => ?_⟩
  obtain ⟨C, hC, hr⟩ := hc i hi
  exact ⟨C, hC.wide k, hr⟩
theorem ObsD.nil (E D : Nat → Prop) (w : World) : ObsD E D w none 0 0 [] := ⟨rfl, Nat.le_refl _, ⟨by omega, fun _ => rfl⟩, fun h => absurd h (by omega)⟩
end
abbrev Obs (w : World) (ao : Option Addr) (n cap : Nat) (l : List Ob) : Prop := ObsD (LtN w) (LtN w) w ao n cap l
theorem obs_next {w w' : World} {ao : Option Addr} {n cap : Nat} {l : List Ob} (h : Obs w ao n cap l) (k : Below w.heap.size w w') : Obs w' ao n cap l :=
  (ObsD.laterK h (fun b hb => k.block b hb) (fun b hb => k.block b hb)).wide (fun b hb => Nat.lt_of_lt_of_le hb k.size) (fun b hb => Nat.lt_of_lt_of_le hb k.size)
theorem obs_at {w : World} {ao : Option Addr} {n cap : Nat} {l : List Ob} (h : Obs w ao n cap l) {i : Nat} (hi : i < n) : ∃ b off C, ao = some ⟨b, off, none⟩ ∧ b < w.heap.size ∧ ObD (LtN w) w C (oat l i) ∧ w.rangeAt b (off + i * 51) C.toList := by
  obtain ⟨b, off, e, hb, hc⟩ := h.2.2.2 (by omega)
  obtain ⟨C, hC, hr⟩ := hc i hi
  exact ⟨b, off, C, e, hb, hC, hr⟩
section
variable {P : Program} {ops : Array Oper} {rest : List Oper} {op : Oper} {a : Act} {Q : Exit → Act → World → Prop} {w : World}
/-- A struct that lies somewhere is read. -/
theorem wpList_loadm (hw : Region.wanted op (yielded ops a.tmps) = true) (ty : TypeId) (x : Operand) (ho : op.op = .load ty x) (b o : Nat) (hx : a.eval x = .pointer (some ⟨b, o, none⟩)) (C : Array Value) (hr : w.rangeAt b o C.toList) (d : TypeDesc)
    (hu : P.underlying ty = some d) (hd : d.isRow = true) (hi : (P.info? ty).map (·.size) = some C.size) (h : wpList P ops Q rest (a.put op.dst (.agg C)) w) : wpList P ops Q (op :: rest) a w := by
  refine wpList_val hw ?_ h
  have := run_loadVar_mid (P := P) w b o ty C.toList d hr hu hd (by simpa using hi)
  rw [Array.toArray_toList] at this
  unfold execOp
  simp [ho, hx, Instr.loadAt, Instr.sureAddr, this]
end
theorem ob_loadm {S : World → Prop} {P : Program} {ty : TypeId} {b o : Nat} {C : Array Value} (hr : ∀ w, S w → w.rangeAt b o C.toList) {d : TypeDesc} (hu : P.underlying ty = some d) (hd : d.isRow = true) (hi : (P.info? ty).map (·.size) = some C.size) : Obl.holds P S (.load ty b o (.agg C)) := fun w hS => by
  have := run_loadVar_mid (P := P) w b o ty C.toList d (hr w hS) hu hd (by simpa using hi)
  rw [Array.toArray_toList] at this
  exact this
section
variable {H : Type} {enc : TypeId × Value → H} {w : World}
theorem obs_of_trod {ao : Option Addr} {n cap : Nat} {d : DataW H} {ps : List MemPlace} (h : DataW.Trod enc Try.prog w 0 (fun _ => true) true 41 (.slice ao n cap) d ps) : ∃ l, Obs w ao n cap l := by
  obtain ⟨fuel, hf⟩ := h
  have c51 : Try.prog.cellsOf 40 = 51 := by kernel_rfl
  rcases Go.Deep.open_slice Try.underlying41 hf with ⟨e, _⟩ | ⟨a, len, cap', m, n', D, Pl, e, hb, hl, hm, hmm, hdd, hx⟩
  · simp [Value.cells] at e
    obtain ⟨rfl, rfl, rfl⟩ := e
    exact ⟨[], ObsD.nil _ _ _⟩
  · simp [Value.cells] at e
    obtain ⟨rfl, rfl, rfl⟩ := e
    have hmc : m = cap := by rw [hmm]; rfl
    have key : ∀ i, ∃ (x : Ob) (C : Array Value), i < n → ObD (LtN w) w C x ∧ ∀ j v, C[j]? = some v → w.cell? ((a.add (i * 51)).add j) = some v := by
      intro i
      by_cases hi : i < n
      · obtain ⟨cs, h1, h2⟩ := hx i (by omega)
        rw [c51] at h1
        obtain ⟨_, hlen, hcell⟩ := World.cells?_some h1
        obtain ⟨x, hxx⟩ := ob_of_cells h2
        refine ⟨x, cs.toArray, fun _ => ⟨hxx, fun j v hv => ?_⟩⟩
        have hv' : cs[j]? = some v := by simpa using hv
        have hj : j < 51 := by rw [← hlen]; exact (List.getElem?_eq_some_iff.1 hv').1
        rw [hcell j hj, hv']
      · exact ⟨zOb, #[], fun h => absurd h hi⟩
    refine ⟨(List.range n).map fun i => Classical.choose (key i), by simp, hl, ⟨by unfold maxLen at hm; omega, fun e => by cases e⟩, fun hn => ?_⟩
    have hkey : ∀ i, i < n → ∃ C, ObD (LtN w) w C (Classical.choose (key i)) ∧ ∀ j v, C[j]? = some v → w.cell? ((a.add (i * 51)).add j) = some v := fun i hi => by
      obtain ⟨C, hC⟩ := Classical.choose_spec (key i)
      exact ⟨C, hC hi⟩
    obtain ⟨v0, z⟩ : ∃ v0, w.cell? ((a.add (0 * 51)).add 0) = some v0 := by
      obtain ⟨C, hC, hr⟩ := hkey 0 hn
      exact ⟨_, hr 0 _ hC.id⟩
    have ha0 : (a.add (0 * 51)).add 0 = a := by simp [Addr.add]
    rw [ha0] at z
    obtain ⟨hea, hadd⟩ := PgM.spotK z
    refine ⟨a.block, a.off, by rw [← hea], World.block_lt_of_cell? w _ z, fun i hi => ?_⟩
    have hg : oat ((List.range n).map fun i => Classical.choose (key i)) i = Classical.choose (key i) := by
      unfold oat; rw [List.getD_eq_getElem?_getD, List.getElem?_eq_getElem (by simpa using hi)]; simp
    obtain ⟨C, hC, hr⟩ := hkey i hi
    refine ⟨C, by rw [hg]; exact hC, fun j v hv => ?_⟩
    have q := hr j v (by simpa using hv)
    rw [hadd, Addr.add_mid] at q
    exact q
set_option maxRecDepth 100000 in
theorem world_of_trod {base : Nat} {v : Value} {d : DataW H} {ps : List MemPlace} (hv : Value.okWide Try.prog w .any base 43 v)
    (h : DataW.Trod enc Try.prog w 0 (fun _ => true) true 43 v d ps) : ∃ (t ke ro : Int) (ao : Option Addr) (n cap : Nat) (X : List Ob), v = .agg #[.int .i64 t, .int .u64 ke, .int .u64 ro, .slice ao n cap] ∧ Obs w ao n cap X := by
  unfold Value.okWide at hv
  rw [Try.underlying43] at hv
  obtain ⟨cs, rfl, hs, _⟩ := hv
  rw [show Try.prog.cellsOf 43 = 4 from by kernel_rfl] at hs
  obtain ⟨fuel, hf⟩ := h
  obtain ⟨x0, x1, x2, x3, rfl⟩ : ∃ x0 x1 x2 x3, cs = #[x0, x1, x2, x3] := by
    match cs, hs with
    | ⟨[x0, x1, x2, x3]⟩, _ => exact ⟨x0, x1, x2, x3, rfl⟩
  have hf' : DataW.trod enc Try.prog w 0 (fun _ => true) true fuel 43 [x0, x1, x2, x3] = some (d, ps) := hf
  obtain ⟨xs, m', _, _, hl, hx, hg⟩ := DataW.trod_struct Try.underlying43 hf'
  obtain ⟨y0, y1, y2, y3, rfl⟩ : ∃ y0 y1 y2 y3, xs = [y0, y1, y2, y3] := by
    match xs, hx with
    | [y0, y1, y2, y3], _ => exact ⟨y0, y1, y2, y3, rfl⟩
  obtain ⟨t, et⟩ := f_int (t := 3) (o := 0) (y := y0) (by simp) (by kernel_rfl) Try.underlying3 (hg 0 _ rfl)
  obtain ⟨ke, eke⟩ := f_int (t := 22) (o := 1) (y := y1) (by simp) (by kernel_rfl) Try.underlying22 (hg 1 _ rfl)
  obtain ⟨ro, ero⟩ := f_int (t := 22) (o := 2) (y := y2) (by simp) (by kernel_rfl) Try.underlying22 (hg 2 _ rfl)
  obtain ⟨ao, n, cap, ea, hT⟩ := f_slice (t := 41) (o := 3) (y := y3) (by simp) (by kernel_rfl) Try.underlying41 (hg 3 _ rfl)
  obtain ⟨X, hX⟩ := obs_of_trod hT
  simp at et eke ero ea
  subst et eke ero ea
  exact ⟨t, ke, ro, ao, n, cap, X, rfl, hX⟩
end
end
section
open Go.RowKit Go.Shelf
set_option linter.unusedVariables false
attribute [local go_sem] Oper.semAt_some

theorem oat_get {l : List Ob} {i : Nat} (h : i < l.length) : oat l i = l[i] := by unfold oat; rw [List.getD_eq_getElem?_getD, List.getElem?_eq_getElem h]; rfl
theorem oat_mem {l : List Ob} {i : Nat} (h : i < l.length) : oat l i ∈ l := by rw [oat_get h]; exact List.getElem_mem h
theorem oats_ext {l m : List Ob} (h : l.length = m.length) (k : ∀ i, i < l.length → oat l i = oat m i) : l = m := by
  apply List.ext_getElem h
  intro i h1 h2
  have := k i h1
  rwa [oat_get h1, oat_get h2] at this
def fewP (l : List Ob) : Prop := l.length ≤ 20 ∧ ∀ i, i < l.length → briefP (oat l i)
set_option maxRecDepth 100000 in
set_option maxHeartbeats 4000000 in
theorem few_any {w : World} {t ke ro : Int} {ao : Option Addr} {n cap : Nat} {X : List Ob} (h : Obs w ao n cap X) : Asks 8 #[.agg #[.int .i64 t, .int .u64 ke, .int .u64 ro, .slice ao n cap]] (fewP X) w := by
  have hn : Hid (X.length = n) := h.1
  have hnc := h.2.1
  have hcm := h.2.2.1.1
  unfold Asks
  by_cases h20 : n ≤ 20
  · have h20' : ¬ (20 : Int) < n := by omega
    go_enter Try.func8, Try.ntmps8
    go_wp2
    have kw := (Below.refl w.heap.size w).alloc (Nat.le_refl _) (.cells #[.int .i64 t, .int .u64 ke, .int .u64 ro, .slice ao n cap] 43)
    generalize w.alloc (.cells #[.int .i64 t, .int .u64 ke, .int .u64 ro, .slice ao n cap] 43) = W0 at kw ⊢
    go_loopw [12] (fun i wr => ∃ k : Nat, k ≤ n ∧ i = .int .i64 k ∧ Hid (∀ j, j < k → briefP (oat X j)) ∧ Below w.heap.size w wr) (fun i _ => n - (intOf i).toNat)
    case atStart => exact ⟨0, Nat.zero_le _, rfl, fun j hj => absurd hj (by omega), kw⟩
    case round =>
      obtain ⟨k, hk, rfl, hal, hb⟩ := hrel
      have hbs := hb.size
      by_cases hkn : k < n
      · obtain ⟨b, off, C, rfl, hbb, hC, hr⟩ := obs_at (obs_next h hb) hkn
        have hkn' : (k : Int) < n := by omega
        have hz := hC.size
        go_wp2_with (first
          | (with_reducible refine wpList_loadm (by kernel_rfl) 40 _ rfl b _ rfl C hr _ Try.underlying40 (by kernel_rfl) (size40C hz) ?_)
          | ((with_reducible refine wpList_alloc rfl _ rfl zC zero40 ?_); intro R W1 hB1 hR1 hk1)
          | ((with_reducible refine wpList_store_blk rfl _ _ _ rfl R rfl C rfl zC hR1 (size40C hz) (zC_size.trans hz.symm) hC.one ?_); intro W2 hR2 o2; have k2 := o2.below wr.heap.size wr (by have := hB1.out.1; omega) hk1)
          | (with_reducible refine wpList_load_blk rfl _ _ rfl R rfl _ hR2 _ Try.underlying40 rfl (size40C hz) ?_)
          | (go_at_call 7; (with_reducible refine (brief_any (hC.next k2)).on ?_ ?_) <;> (intro w3 hq hb3; have k3 := hb.trans ((k2.trans (hb3.mono k2.size)).mono hbs))))
        · go_roundw
          case rel => exact ⟨k + 1, by omega, by go_num, fn_succ hal.out hq.out, k3⟩
          case measure => simp [intOf]; omega
        · go_ret
          exact askP_no hq k3 (fun e => e.2 k (by rw [hn.out]; exact hkn))
      · obtain rfl : k = n := by omega
        go_wp2
        go_ret
        exact askP_yes ⟨by rw [hn.out]; exact h20, fun i hi => hal.out i (by rw [hn.out] at hi; exact hi)⟩ hb
  · have h20' : (20 : Int) < n := by omega
    have hq : Hid (¬ n ≤ 20) := h20
    go_enter Try.func8, Try.ntmps8
    go_wp2
    go_ret
    exact askP_no hq ((Below.refl _ w).alloc (Nat.le_refl _) _) (fun e => by have := e.1; rw [hn.out] at this; exact this)
set_option maxRecDepth 100000 in
set_option maxHeartbeats 4000000 in
theorem everyO_any {w : World} {ao : Option Addr} {n cap : Nat} {X : List Ob} (h : Obs w ao n cap X) : Asks 45 #[.slice ao n cap, .func (.func 10) #[] #[]] (∀ i, i < X.length → soundB (oat X i) = true) w := by
  have hn : Hid (X.length = n) := h.1
  have hnc := h.2.1
  have hcm := h.2.2.1.1
  unfold Asks
  go_enter Try.func45, Try.ntmps45
  go_wp2
  go_loopw [9] (fun i wr => ∃ k : Nat, k ≤ n ∧ i = .int .i64 k ∧ Hid (∀ j, j < k → soundB (oat X j) = true) ∧ Below w.heap.size w wr) (fun i _ => n - (intOf i).toNat)
  case atStart => exact ⟨0, Nat.zero_le _, rfl, fun j hj => absurd hj (by omega), Below.refl _ _⟩
  case round =>
    obtain ⟨k, hk, rfl, hal, hb⟩ := hrel
    have hbs := hb.size
    by_cases hkn : k < n
    · obtain ⟨b, off, C, rfl, hbb, hC, hr⟩ := obs_at (obs_next h hb) hkn
      have hkn' : (k : Int) < n := by omega
      have hz := hC.size
      go_wp2_with (first
        | (with_reducible refine wpList_loadm (by kernel_rfl) 40 _ rfl b _ rfl C hr _ Try.underlying40 (by kernel_rfl) (size40C hz) ?_)
        | ((with_reducible refine wpList_alloc rfl _ rfl zC zero40 ?_); intro R W1 hB1 hR1 hk1)
        | ((with_reducible refine wpList_store_blk rfl _ _ _ rfl R rfl C rfl zC hR1 (size40C hz) (zC_size.trans hz.symm) hC.one ?_); intro W2 hR2 o2; have k2 := o2.below wr.heap.size wr (by have := hB1.out.1; omega) hk1)
        | (with_reducible refine wpList_load_blk rfl _ _ rfl R rfl _ hR2 _ Try.underlying40 rfl (size40C hz) ?_)
        | (go_at_call 10; (with_reducible refine (sound_any (hC.next k2)).on ?_ ?_) <;> (intro w3 hq hb3; have k3 := hb.trans ((k2.trans (hb3.mono k2.size)).mono hbs))))
      · go_roundw
        case rel => exact ⟨k + 1, by omega, by go_num, fn_succ hal.out hq.out, k3⟩
        case measure => simp [intOf]; omega
      · go_ret
        exact askP_no hq k3 (fun e => e k (by rw [hn.out]; exact hkn))
    · obtain rfl : k = n := by omega
      go_wp2
      go_ret
      exact askP_yes (fun i hi => hal.out i (by rw [hn.out] at hi; exact hi)) hb
set_option maxRecDepth 100000 in
set_option maxHeartbeats 4000000 in
theorem eqfO_any {w : World} {ao ao' : Option Addr} {n cap n' cap' : Nat} {X Y : List Ob} (h : Obs w ao n cap X) (h' : Obs w ao' n' cap' Y) : Asks 56 #[.slice ao n cap, .slice ao' n' cap', .func (.func 14) #[] #[]] (X = Y) w := by
  have hn : Hid (X.length = n) := h.1
  have hnc := h.2.1
  have hcm := h.2.2.1.1
  have hn' : Hid (Y.length = n') := h'.1
  have hnc' := h'.2.1
  have hcm' := h'.2.2.1.1
  unfold Asks
  by_cases hnn : n = n'
  · subst hnn
    go_enter Try.func56, Try.ntmps56
    go_wp2
    go_loopw [17] (fun i wr => ∃ k : Nat, k ≤ n ∧ i = .int .i64 k ∧ Hid (∀ j, j < k → oat X j = oat Y j) ∧ Below w.heap.size w wr) (fun i _ => n - (intOf i).toNat)
    case atStart => exact ⟨0, Nat.zero_le _, rfl, fun j hj => absurd hj (by omega), Below.refl _ _⟩
    case round =>
      obtain ⟨k, hk, rfl, hal, hb⟩ := hrel
      have hbs := hb.size
      by_cases hkn : k < n
      · obtain ⟨b, off, C, rfl, hbb, hC, hr⟩ := obs_at (obs_next h hb) hkn
        obtain ⟨b', off', C', rfl, hbb', hC', hr'⟩ := obs_at (obs_next h' hb) hkn
        have hkn' : (k : Int) < n := by omega
        have hz := hC.size
        have hz' := hC'.size
        go_wp2_with (first
          | (with_reducible refine wpList_loadm (by kernel_rfl) 40 _ rfl b (off + k * 51) rfl C hr _ Try.underlying40 (by kernel_rfl) (size40C hz) ?_)
          | ((with_reducible refine wpList_alloc rfl _ rfl zC zero40 ?_); intro R' W3 hB3 hR3 hk3; have hne : R ≠ R' := (by have := hB3.out.1; have := hR2.lt; omega); have k3 := k2.trans (hk3.mono k2.size))
          | ((with_reducible refine wpList_alloc rfl _ rfl zC zero40 ?_); intro R W1 hB1 hR1 hk1)
          | ((with_reducible refine wpList_store_blk rfl _ _ _ rfl R rfl C rfl zC hR1 (size40C hz) (zC_size.trans hz.symm) hC.one ?_); intro W2 hR2 o2; have k2 := o2.below wr.heap.size wr (by have := hB1.out.1; omega) hk1; have hr2 : W2.rangeAt b' (off' + k * 51) C'.toList := range_block hr' (k2.block b' hbb'))
          | (with_reducible refine wpList_loadm (by kernel_rfl) 40 _ rfl b' (off' + k * 51) rfl C' hr2 _ Try.underlying40 (by kernel_rfl) (size40C hz') ?_)
          | ((with_reducible refine wpList_store_blk rfl _ _ _ rfl R' rfl C' rfl zC hR3 (size40C hz') (zC_size.trans hz'.symm) hC'.one ?_); intro W4 hR4 o4; have k4 := o4.below wr.heap.size wr (by have := hB3.out.1; have := k2.size; omega) k3; have hR24 := (hR2.next hk3).other o4 hne)
          | (with_reducible refine wpList_load_blk rfl _ _ rfl R rfl _ hR24 _ Try.underlying40 rfl (size40C hz) ?_)
          | (with_reducible refine wpList_load_blk rfl _ _ rfl R' rfl _ hR4 _ Try.underlying40 rfl (size40C hz') ?_)
          | (go_at_call 14; (with_reducible refine (sameOne_any (hC.next k4) (hC'.next k4)).on ?_ ?_) <;> (intro w5 hq hb5; have k5 := hb.trans ((k4.trans (hb5.mono k4.size)).mono hbs))))
        · go_roundw
          case rel => exact ⟨k + 1, by omega, by go_num, fn_succ hal.out hq.out, k5⟩
          case measure => simp [intOf]; omega
        · go_ret
          exact askP_no hq k5 (fun e => by rw [e])
      · obtain rfl : k = n := by omega
        go_wp2
        go_ret
        exact askP_yes (oats_ext (by rw [hn.out, hn'.out]) fun i hi => hal.out i (by rw [hn.out] at hi; exact hi)) hb
  · have hq : Hid (¬ X = Y) := by
      refine (?_ : ¬ X = Y)
      intro e; apply hnn; rw [← hn.out, ← hn'.out, e]
    have hne : ((n : Int) == (n' : Int)) = false := by simp; omega
    go_enter Try.func56, Try.ntmps56
    go_wp2
    go_ret
    exact askP_no hq (Below.refl _ _) id
set_option maxRecDepth 100000 in
set_option maxHeartbeats 4000000 in
theorem same_w {w : World} {t ke ro t' ke' ro' : Int} {ao ao' : Option Addr} {n cap n' cap' : Nat} {X Y : List Ob} (h : Obs w ao n cap X) (h' : Obs w ao' n' cap' Y) : Asks 16 #[.agg #[.int .i64 t, .int .u64 ke, .int .u64 ro, .slice ao n cap], .agg #[.int .i64 t', .int .u64 ke', .int .u64 ro', .slice ao' n' cap']] ((⟨t, ke, ro, X⟩ : Wd) = ⟨t', ke', ro', Y⟩) w := by
  have ga1 := Try.isAgg22
  have ga2 := Try.isAgg3
  have ga3 := Try.isAgg41
  have c0 : (#[.int .i64 t, .int .u64 ke, .int .u64 ro, .slice ao n cap] : Array Value)[0]? = some (.int .i64 t) := rfl
  have c1 : (#[.int .i64 t, .int .u64 ke, .int .u64 ro, .slice ao n cap] : Array Value)[1]? = some (.int .u64 ke) := rfl
  have c2 : (#[.int .i64 t, .int .u64 ke, .int .u64 ro, .slice ao n cap] : Array Value)[2]? = some (.int .u64 ro) := rfl
  have c3 : (#[.int .i64 t, .int .u64 ke, .int .u64 ro, .slice ao n cap] : Array Value)[3]? = some (.slice ao n cap) := rfl
  have d0 : (#[.int .i64 t', .int .u64 ke', .int .u64 ro', .slice ao' n' cap'] : Array Value)[0]? = some (.int .i64 t') := rfl
  have d1 : (#[.int .i64 t', .int .u64 ke', .int .u64 ro', .slice ao' n' cap'] : Array Value)[1]? = some (.int .u64 ke') := rfl
  have d2 : (#[.int .i64 t', .int .u64 ke', .int .u64 ro', .slice ao' n' cap'] : Array Value)[2]? = some (.int .u64 ro') := rfl
  have d3 : (#[.int .i64 t', .int .u64 ke', .int .u64 ro', .slice ao' n' cap'] : Array Value)[3]? = some (.slice ao' n' cap') := rfl
  obtain ⟨G, hG⟩ : ∃ G : Array Value, G = #[.int .i64 t, .int .u64 ke, .int .u64 ro, .slice ao n cap] := ⟨_, rfl⟩
  obtain ⟨G', hG'⟩ : ∃ G' : Array Value, G' = #[.int .i64 t', .int .u64 ke', .int .u64 ro', .slice ao' n' cap'] := ⟨_, rfl⟩
  rw [← hG] at c0 c1 c2 c3
  rw [← hG'] at d0 d1 d2 d3
  rw [← hG, ← hG']
  clear hG hG'
  unfold Asks
  go_enter Try.func16, Try.ntmps16
  go_wp2_with (first
    | go_skip
    | (with_reducible refine wpList_box rfl _ _ rfl G rfl ?_; intro B W hB hb hk)
    | (with_reducible refine wpList_box rfl _ _ rfl G' rfl ?_; intro B' W' hB' hb' hk'; replace hb := hb.next hk'; replace hk := hk.trans (hk'.mono hk.size); clear hk')
    | (with_reducible refine wpList_load1 (by kernel_rfl) _ _ rfl B _ rfl _ _ hb _ (by assumption) (by assumption) ?_)
    | (with_reducible refine wpList_load1 (by kernel_rfl) _ _ rfl B' _ rfl _ _ hb' _ (by assumption) (by assumption) ?_)
    | ((with_reducible refine wpList_test (by kernel_rfl) .eql _ _ _ _ rfl _ _ rfl rfl (eqg_int _ _ _ _ _ _) ?_ ?_) <;> intro hq)
    | (go_at_call 56; (with_reducible refine (eqfO_any (obs_next h hk) (obs_next h' hk)).on ?_ ?_) <;> (intro w1 hq hb1; replace hk := hk.trans (hb1.mono hk.size))))
  all_goals go_ret
  all_goals first
    | (refine askP_no (by assumption) hk ?_; intro e; injection e; done)
    | (refine askP_no (by assumption) hk ?_; intro e; exact congrArg Wd.time e)
    | (refine askP_no (by assumption) hk ?_; intro e; exact congrArg Wd.key e)
    | (refine askP_no (by assumption) hk ?_; intro e; exact congrArg Wd.root e)
    | (refine askP_no (by assumption) hk ?_; intro e; exact congrArg Wd.obs e)
    | (refine askP_yes (wd_iff.1 ⟨Hid.out (by assumption), Hid.out (by assumption), Hid.out (by assumption), Hid.out (by assumption)⟩) hk)
    | fail
end
section
open Go.RowKit Go.Shelf
set_option linter.unusedVariables false
attribute [local go_sem] Oper.semAt_some

theorem built_hea (i k q : Int) (f : Bool) : Try.prog.built 40 [(0, .int .u64 i), (1, .int .i64 k), (3, .int .i64 q), (4, .bool f)] = some (comC (.int .u64 i) (.int .i64 k) (.slice none 0 0) (.int .i64 q) (.bool f)) := by kernel_rfl
set_option maxRecDepth 100000 in
set_option maxHeartbeats 4000000 in
theorem rhead_any {w : World} {C : Array Value} {x : Ob} (h : ObD (LtN w) w C x) : Calls Try.prog 24 #[.agg C] w fun e w' => ∃ C', e = .returned (.agg C') ∧ ObD (LtN w') w' C' (heaO x) ∧ Below w.heap.size w w' := by
  have hz := h.size
  have c0 := h.id
  have c1 := h.kind
  obtain ⟨a2, n2, k2, c2, l2⟩ := h.label
  have hn2 : Hid (x.label.length = n2) := l2.1
  have c3 := h.quota
  have c4 := h.fixed
  obtain ⟨a5, n5, k5, c5, l5⟩ := h.links
  have hn5 : Hid (x.links.length = n5) := l5.1
  obtain ⟨a6, n6, k6, c6, l6⟩ := h.data
  have hn6 : Hid (x.data.length = n6) := l6.1
  obtain ⟨a7, n7, k7, c7, l7⟩ := h.maps
  have hn7 : Hid (x.maps.length = n7) := l7.1
  obtain ⟨a49, n49, k49, c49, l49⟩ := h.inn
  have hn49 : Hid (x.inn.length = n49) := l49.1
  obtain ⟨a50, n50, k50, c50, l50⟩ := h.out
  have hn50 : Hid (x.out.length = n50) := l50.1
  obtain ⟨a25, n25, k25, c25, l25⟩ := h.th.clear
  obtain ⟨a43, n43, k43, c43, l43⟩ := h.gt.grant
  obtain ⟨a44, n44, k44, c44, l44⟩ := h.gt.clear
  replace c25 : C[25]? = some (.slice a25 n25 k25) := c25
  replace c43 : C[43]? = some (.slice a43 n43 k43) := c43
  replace c44 : C[44]? = some (.slice a44 n44 k44) := c44
  have ga0 := Try.isAgg24
  have ga1 := Try.isAgg22
  have ga2 := Try.isAgg3
  have ga3 := Try.isAgg4
  have ga4 := Try.isAgg25
  have ga5 := Try.isAgg26
  by_cases hk4 : x.kind = 4
  · have hr : Hid (heaO x = ⟨x.id, 4, [], x.quota, x.fixed, [], [], [], zTh, zGt, [], []⟩) := by unfold Hid; rw [hea4 hk4]; unfold comO; rw [hk4]
    replace c1 : C[1]? = some (.int .i64 4) := c1.trans (by rw [hk4])
    clear hk4
    have hcm := comC_d (i := x.id) (k := 4) (q := x.quota) (f := x.fixed) (LabD.nil (LtN w) w)
    have hcz := hcm.size
    go_enter Try.func24, Try.ntmps24
    go_wp2_with (first
      | go_skip
      | (with_reducible refine wpList_box rfl _ _ rfl C rfl ?_; intro B W hB hb hk)
      | (with_reducible refine wpList_load1 (by kernel_rfl) _ _ rfl B _ rfl _ _ e2 _ (by assumption) (by assumption) ?_)
      | (with_reducible refine wpList_load1 (by kernel_rfl) _ _ rfl B _ rfl _ _ hbb _ (by assumption) (by assumption) ?_)
      | ((with_reducible refine wpList_build rfl _ _ rfl (comC (.int .u64 x.id) (.int .i64 4) (.slice none 0 0) (.int .i64 x.quota) (.bool x.fixed)) ?hf ?_); (case hf => exact built_hea _ _ _ _))
      | ((with_reducible refine wpList_alloc rfl _ rfl zC zero40 ?_); intro B' W' hB' hb' hk'; have hne : B ≠ B' := (by have := hB'.out.1; have := hbb.lt; omega); have hnr : R ≠ B' := (by have := hB'.out.1; have := hR.lt; omega); have b1 := hk.trans (hk'.mono hk.size); have hl' : w.heap.size ≤ B' := (by have := hB'.out.1; have := hk.size; omega))
      | ((with_reducible refine wpList_alloc rfl _ rfl zC zero40 ?_); intro R WR hBR hR hkR; have hbb := hb.next hkR; replace hk := hk.trans (hkR.mono hk.size))
      | ((with_reducible refine wpList_store_blk rfl _ _ _ rfl B' rfl (comC (.int .u64 x.id) (.int .i64 4) (.slice none 0 0) (.int .i64 x.quota) (.bool x.fixed)) rfl zC hb' (size40C hcz) (zC_size.trans hcz.symm) hcm.one ?_); intro W2 b2 o2; have e2 := (hbb.next hk').other o2 hne; have r2 := (hR.next hk').other o2 hnr; have kb2 := o2.below w.heap.size w hl' b1)
      | ((with_reducible refine wpList_load_blk rfl _ _ rfl B' rfl _ b2 _ Try.underlying40 rfl (size40C hcz) ?_))
      | ((with_reducible refine wpList_store_blk rfl _ _ _ rfl R rfl _ rfl zC r2 (size40C hcz) (zC_size.trans hcz.symm) hcm.one ?_); intro W9 b9 o9))
    have k9 := o9.below w.heap.size w (by have := hBR.out.1; have := hB.out; omega) kb2
    refine bodyPost_ret (v := .agg _) (res40 Try.results24 rfl b9 hcz) rfl ?_
    exact ⟨_, rfl, by rw [hr.out]; exact hcm.next k9, k9⟩
  · have hr : Hid (heaO x = { (⟨x.id, x.kind, [], x.quota, x.fixed, [], [], [], zTh, zGt, [], []⟩ : Ob) with label := x.label }) := by unfold Hid; rw [hea5 hk4]; rfl
    have g1 : (x.kind == 4) = false := by rw [beq_eq_false_iff_ne]; exact hk4
    clear hk4
    have hcm := comC_d (i := x.id) (k := x.kind) (q := x.quota) (f := x.fixed) (LabD.nil (LtN w) w)
    have hcz := hcm.size
    have hd := hcm.set2 ⟨_, _, _, rfl, l2⟩ rfl
    go_enter Try.func24, Try.ntmps24
    go_wp2_with (first
      | go_skip
      | (with_reducible refine wpList_box rfl _ _ rfl C rfl ?_; intro B W hB hb hk)
      | (with_reducible refine wpList_load1 (by kernel_rfl) _ _ rfl B _ rfl _ _ e2 _ (by assumption) (by assumption) ?_)
      | (with_reducible refine wpList_load1 (by kernel_rfl) _ _ rfl B _ rfl _ _ hbb _ (by assumption) (by assumption) ?_)
      | ((with_reducible refine wpList_build rfl _ _ rfl (comC (.int .u64 x.id) (.int .i64 x.kind) (.slice none 0 0) (.int .i64 x.quota) (.bool x.fixed)) ?hf ?_); (case hf => exact built_hea _ _ _ _))
      | ((with_reducible refine wpList_alloc rfl _ rfl zC zero40 ?_); intro B' W' hB' hb' hk'; have hne : B ≠ B' := (by have := hB'.out.1; have := hbb.lt; omega); have hnr : R ≠ B' := (by have := hB'.out.1; have := hR.lt; omega); have b1 := hk.trans (hk'.mono hk.size); have hl' : w.heap.size ≤ B' := (by have := hB'.out.1; have := hk.size; omega))
      | ((with_reducible refine wpList_alloc rfl _ rfl zC zero40 ?_); intro R WR hBR hR hkR; have hbb := hb.next hkR; replace hk := hk.trans (hkR.mono hk.size))
      | ((with_reducible refine wpList_store_blk rfl _ _ _ rfl B' rfl (comC (.int .u64 x.id) (.int .i64 x.kind) (.slice none 0 0) (.int .i64 x.quota) (.bool x.fixed)) rfl zC hb' (size40C hcz) (zC_size.trans hcz.symm) hcm.one ?_); intro W2 b2 o2; have e2 := (hbb.next hk').other o2 hne; have r2 := (hR.next hk').other o2 hnr; have kb2 := o2.below w.heap.size w hl' b1)
      | ((with_reducible refine wpList_store_cell rfl _ _ _ rfl B' 2 rfl (.slice a2 n2 k2) rfl rfl _ _ b2 size24 (by rw [hcz]; omega) rfl ?_); intro W3 b3 o3; have r3 := r2.other o3 hnr; have kb3 := o3.below w.heap.size w hl' kb2)
      | ((with_reducible refine wpList_load_blk rfl _ _ rfl B' rfl _ b3 _ Try.underlying40 rfl (size40C hd.size) ?_))
      | ((with_reducible refine wpList_store_blk rfl _ _ _ rfl R rfl _ rfl zC r3 (size40C hd.size) (zC_size.trans hd.size.symm) hd.one ?_); intro W9 b9 o9))
    have k9 := o9.below w.heap.size w (by have := hBR.out.1; have := hB.out; omega) kb3
    refine bodyPost_ret (v := .agg _) (res40 Try.results24 rfl b9 hd.size) rfl ?_
    exact ⟨_, rfl, by rw [hr.out]; exact hd.next k9, k9⟩
end
section
open Go.RowKit Go.Shelf
set_option linter.unusedVariables false
attribute [local go_sem] Oper.semAt_some

theorem objects1_any {w : World} {C : Array Value} {x : Ob} (h : ObD (LtN w) w C x) : Calls Try.prog 77 #[.agg C] w fun e w' => e = .returned (.int .u64 x.id) ∧ Below w.heap.size w w' := by
  have c0 := h.id
  have ga1 := Try.isAgg22
  go_enter Try.func77, Try.ntmps77
  go_wp2_with (first
    | (with_reducible refine wpList_box rfl _ _ rfl C rfl ?_; intro B W hB hb hk)
    | (with_reducible refine wpList_load1 (by kernel_rfl) _ _ rfl B _ rfl _ _ hb _ (by assumption) (by assumption) ?_))
  go_ret
  exact ⟨rfl, hk⟩
theorem objects_any {w : World} {t ke ro : Int} {ao : Option Addr} {n cap : Nat} : Calls Try.prog 43 #[.agg #[.int .i64 t, .int .u64 ke, .int .u64 ro, .slice ao n cap]] w fun e w' => e = .returned (.agg #[.slice ao n cap, .func (.func 77) #[] #[]]) ∧ Below w.heap.size w w' := by
  go_enter Try.func43, Try.ntmps43
  go_wp2
  refine bodyPost_ret (v := .agg #[.slice ao n cap, .func (.func 77) #[] #[]]) (by simp [results, Try.f43, go_sem]) rfl ?_
  exact ⟨rfl, ((Below.refl _ w).alloc (Nat.le_refl _) _).alloc ((Below.refl _ w).alloc (Nat.le_refl _) _).size _⟩
theorem ids_iff {l : List Ob} : idsB l = true ↔ ∀ i, i + 1 < l.length → (oat l i).id < (oat l (i + 1)).id := by
  unfold idsB
  rw [ris_iff]
  refine ⟨fun h i hi => ?_, fun h i hi => ?_⟩
  · have := h i (by rw [List.length_map]; exact hi)
    rw [List.getD_eq_getElem?_getD, List.getD_eq_getElem?_getD, List.getElem?_map, List.getElem?_map, List.getElem?_eq_getElem (by omega), List.getElem?_eq_getElem hi] at this
    rw [oat_get (by omega), oat_get hi]
    exact this
  · rw [List.length_map] at hi
    have := h i hi
    rw [oat_get (by omega), oat_get hi] at this
    rw [List.getD_eq_getElem?_getD, List.getD_eq_getElem?_getD, List.getElem?_map, List.getElem?_map, List.getElem?_eq_getElem (by omega), List.getElem?_eq_getElem hi]
    exact this
theorem ia_at {S : World → Prop} {b off i n cap : Nat} (hi : i < n) : Obl.holds Try.prog S (.ia 41 (.slice (some ⟨b, off, none⟩) n cap) (.int .i64 i) (.pointer (some ⟨b, off + i * 51, none⟩))) := fun w hS => by
  have hi' : (i : Int) < n := by omega
  go_simp
theorem sub_at {S : World → Prop} {x y : Operand} {k j : Nat} (hj : Hid (k = j + 1)) (hw : IntKind.i64.wrap ((k : Int) - 1) = (j : Int)) : Obl.holds Try.prog S (.test .sub 3 x y (.int .i64 k) (.int .i64 1) (.int .i64 j)) := fun w hS => by
  go_simp
set_option maxRecDepth 100000 in
set_option maxHeartbeats 4000000 in
theorem risesO_any {w : World} {ao : Option Addr} {n cap : Nat} {X : List Ob} (h : Obs w ao n cap X) : Asks 44 #[.agg #[.slice ao n cap, .func (.func 77) #[] #[]]] (idsB X = true) w := by
  have hmx : Try.prog.follows .mixedOrders = true := by kernel_rfl
  have hn : Hid (X.length = n) := h.1
  have hnc := h.2.1
  have hcm := h.2.2.1.1
  unfold Asks
  go_enter Try.func44, Try.ntmps44
  go_wp2
  have hA := (Below.refl w.heap.size w).alloc (Nat.le_refl _) (.cells #[.slice ao n cap, .func (.func 77) #[] #[]] 70)
  have hBk := Blk.new w #[.slice ao n cap, .func (.func 77) #[] #[]] 70
  generalize w.alloc (.cells #[.slice ao n cap, .func (.func 77) #[] #[]] 70) = W0 at hA hBk ⊢
  obtain ⟨B, hB⟩ : ∃ B, w.heap.size = B := ⟨_, rfl⟩
  have hBh : Hid (w.heap.size = B) := hB
  rw [hB] at hBk hA ⊢
  clear hB
  go_loopw [3] (fun i wr => ∃ k : Nat, 1 ≤ k ∧ (k ≤ n ∨ k = 1) ∧ i = .int .i64 k ∧ Hid (∀ j, j + 1 < k → (oat X j).id < (oat X (j + 1)).id) ∧ Blk wr B #[.slice ao n cap, .func (.func 77) #[] #[]] 70 ∧ Below B w wr) (fun i _ => n - (intOf i).toNat)
  case atStart => exact ⟨1, Nat.le_refl _, .inr rfl, rfl, fun j hj => absurd hj (by omega), hBk, hA⟩
  case round =>
    obtain ⟨k, hk1, hkn1, rfl, hal, hbk, hb⟩ := hrel
    have e0 := (hbk.cell 0).trans (show _ = some (.slice ao n cap) from rfl)
    have e1 := (hbk.cell 1).trans (show _ = some (.func (.func 77) #[] #[]) from rfl)
    by_cases hkn : k < n
    · obtain ⟨j, hj⟩ : ∃ j, Hid (k = j + 1) := ⟨k - 1, by show _ = _; omega⟩
      have hw : IntKind.i64.wrap ((k : Int) - 1) = (j : Int) := by have := hj.out; rw [IntKind.wrap_i64]; omega
      have hjn : j < n := by have := hj.out; omega
      have hkn' : (k : Int) < n := by omega
      have hbs : B ≤ wr.heap.size := by have := hb.size; have := hBh.out; omega
      have hbw : Below w.heap.size w wr := by rw [hBh.out]; exact hb
      obtain ⟨b, off, C, rfl, hbb, hC, hr⟩ := obs_at (obs_next h hbw) hjn
      obtain ⟨b', off', C', e', hbb', hC', hr'⟩ := obs_at (obs_next h hbw) hkn
      cases e'
      have hz := hC.size
      have hz' := hC'.size
      by_cases hxy : (oat X j).id < (oat X k).id
      · have hal2 : Hid (∀ i, i + 1 < k + 1 → (oat X i).id < (oat X (i + 1)).id) := by
          refine (?_ : ∀ i, i + 1 < k + 1 → (oat X i).id < (oat X (i + 1)).id)
          intro i hi
          rcases Nat.lt_or_ge (i + 1) k with h | h
          · exact hal.out i h
          · have hij : i = j := by have := hj.out; omega
            rw [hij, ← hj.out]; exact hxy
        have hd : Hid (¬ (oat X k).id ≤ (oat X j).id) := by show ¬ _; omega
        go_wp2
        refine PgM.region_out (S := fun W => Blk W B #[.slice (some ⟨b, off, none⟩) n cap, .func (.func 77) #[] #[]] 70 ∧ W.rangeAt b (off + j * 51) C.toList ∧ W.rangeAt b (off + k * 51) C'.toList) hmx ⟨hbk.next (Below.refl _ _).drew, range_block hr ((Below.refl _ wr).drew.block b hbb), range_block hr' ((Below.refl _ wr).drew.block b hbb)⟩ (fun hS => ?_)
        have hkd := (Below.refl wr.heap.size wr).drew
        have hC0 := hC.next hkd
        have hC0' := hC'.next hkd
        have hb1 := hb.trans (hkd.mono hbs)
        have hbb1 : b < wr.drew.heap.size := Nat.lt_of_lt_of_le hbb hkd.size
        generalize wr.drew = W1 at hS hC0 hC0' hb1 hbb1 ⊢
        clear hkd
        refine wpAnyH_sym (by kernel_rfl) (fun _ _ _ _ _ h => h) hS [(0, none), (1, some (.func (.func 77) #[] #[])), (2, none), (3, some (.slice (some ⟨b, off, none⟩) n cap)), (4, none), (5, some (.int .i64 j)), (6, some (.pointer (some ⟨b, off + j * 51, none⟩))), (7, some (.agg C)), (9, none), (10, some (.func (.func 77) #[] #[])), (11, none), (12, some (.slice (some ⟨b, off, none⟩) n cap)), (13, none), (14, some (.pointer (some ⟨b, off + k * 51, none⟩))), (15, some (.agg C'))] (l' := #[true, true, true, true, true, true, true, true, false, true, true, true, true, true, true, true, false, false]) (a' := { tmps := #[.agg #[.slice (some ⟨b, off, none⟩) n cap, .func (.func 77) #[] #[]], .pointer (some ⟨B, 0, none⟩), u2, .int .i64 k, .int .i64 k, .pointer (some ⟨B, 0, none⟩), .slice (some ⟨b, off, none⟩) n cap, .int .i64 n, .bool true, u9, u10, .pointer (some ⟨B, 1, none⟩), .func (.func 77) #[] #[], .pointer (some ⟨B, 0, none⟩), .slice (some ⟨b, off, none⟩) n cap, .int .i64 k, .int .i64 j, .pointer (some ⟨b, off + j * 51, none⟩), .agg C, u19, .pointer (some ⟨B, 1, none⟩), .func (.func 77) #[] #[], .pointer (some ⟨B, 0, none⟩), .slice (some ⟨b, off, none⟩) n cap, .int .i64 k, .pointer (some ⟨b, off + k * 51, none⟩), .agg C', u27, u28], defers := [] }) (obs := [.load 68 B 1 (.func (.func 77) #[] #[]), .load 41 B 0 (.slice (some ⟨b, off, none⟩) n cap), .test .sub 3 (.tmp 15) (.const (.int .i64 1)) (.int .i64 k) (.int .i64 1) (.int .i64 j), .ia 41 (.slice (some ⟨b, off, none⟩) n cap) (.int .i64 j) (.pointer (some ⟨b, off + j * 51, none⟩)), .load 40 b (off + j * 51) (.agg C), .load 68 B 1 (.func (.func 77) #[] #[]), .load 41 B 0 (.slice (some ⟨b, off, none⟩) n cap), .ia 41 (.slice (some ⟨b, off, none⟩) n cap) (.int .i64 k) (.pointer (some ⟨b, off + k * 51, none⟩)), .load 40 b (off + k * 51) (.agg C')]) (n := 3) (by kernel_rfl) (by kernel_rfl) ⟨ob_load1 (fun _ h => h.1) rfl Try.isAgg68, ob_load1 (fun _ h => h.1) rfl Try.isAgg41, sub_at hj hw, ia_at hjn, ob_loadm (fun _ h => h.2.1) Try.underlying40 (by kernel_rfl) (size40C hz), ob_load1 (fun _ h => h.1) rfl Try.isAgg68, ob_load1 (fun _ h => h.1) rfl Try.isAgg41, ia_at hkn, ob_loadm (fun _ h => h.2.2) Try.underlying40 (by kernel_rfl) (size40C hz'), trivial⟩ ?_
        refine wpAnyH_callL (i := 8) (fuel := 2) (f := 77) (vs := [.agg C]) (d := some 19) (by kernel_rfl) (by kernel_rfl) (by kernel_rfl) Try.call77 (objects1_any hC0) ?_
        rintro e W2 ⟨rfl, hk2⟩
        have hS2 : Blk W2 B #[.slice (some ⟨b, off, none⟩) n cap, .func (.func 77) #[] #[]] 70 ∧ W2.rangeAt b (off + j * 51) C.toList ∧ W2.rangeAt b (off + k * 51) C'.toList := ⟨hS.1.next hk2, range_block hS.2.1 (hk2.block b hbb1), range_block hS.2.2 (hk2.block b hbb1)⟩
        refine ⟨_, rfl, hS2, ?_⟩
        have hb2 := hb1.trans (hk2.mono (by have := hb1.size; have := hBh.out; omega))
        refine wpAnyH_callL (i := 16) (fuel := 1) (f := 77) (vs := [.agg C']) (d := some 27) (by kernel_rfl) (by kernel_rfl) (by kernel_rfl) Try.call77 (objects1_any (hC0'.next hk2)) ?_
        rintro e W3 ⟨rfl, hk3⟩
        have hbb2 := Nat.lt_of_lt_of_le hbb1 hk2.size
        have hS3 : Blk W3 B #[.slice (some ⟨b, off, none⟩) n cap, .func (.func 77) #[] #[]] 70 ∧ W3.rangeAt b (off + j * 51) C.toList ∧ W3.rangeAt b (off + k * 51) C'.toList := ⟨hS2.1.next hk3, range_block hS2.2.1 (hk3.block b hbb2), range_block hS2.2.2 (hk3.block b hbb2)⟩
        refine ⟨_, rfl, hS3, ?_⟩
        have hb3 := hb2.trans (hk3.mono (by have := hb2.size; have := hBh.out; omega))
        refine wpAnyH_sym (by kernel_rfl) (fun _ _ _ _ _ h => h) hS3 [(17, some (.bool false))] (l' := #[true, true, true, true, true, true, true, true, true, true, true, true, true, true, true, true, true, true]) (a' := { tmps := #[.agg #[.slice (some ⟨b, off, none⟩) n cap, .func (.func 77) #[] #[]], .pointer (some ⟨B, 0, none⟩), u2, .int .i64 k, .int .i64 k, .pointer (some ⟨B, 0, none⟩), .slice (some ⟨b, off, none⟩) n cap, .int .i64 n, .bool true, u9, u10, .pointer (some ⟨B, 1, none⟩), .func (.func 77) #[] #[], .pointer (some ⟨B, 0, none⟩), .slice (some ⟨b, off, none⟩) n cap, .int .i64 k, .int .i64 j, .pointer (some ⟨b, off + j * 51, none⟩), .agg C, .int .u64 (oat X j).id, .pointer (some ⟨B, 1, none⟩), .func (.func 77) #[] #[], .pointer (some ⟨B, 0, none⟩), .slice (some ⟨b, off, none⟩) n cap, .int .i64 k, .pointer (some ⟨b, off + k * 51, none⟩), .agg C', .int .u64 (oat X k).id, .bool false], defers := [] }) (obs := [.test .geq 22 (.tmp 19) (.tmp 27) (.int .u64 (oat X j).id) (.int .u64 (oat X k).id) (.bool false)]) (n := 0) (by kernel_rfl) (by kernel_rfl) ⟨ob_no (fun _ => tge_int _ _ _ _ _ _) (by refine (?_ : ¬ (oat X k).id ≤ (oat X j).id); have := hd.out; omega), trivial⟩ ?_
        refine wpAnyH_done (by kernel_rfl) ?_ _
        have hbk3 := hS3.1
        clear hS hS2 hS3 hC0 hC0' hb1 hb2 hbb1 hbb2 hk2 hk3
        go_wp2
        go_roundw
        case rel => exact ⟨k + 1, by omega, .inl (by omega), by go_num, hal2, hbk3, hb3⟩
        case measure => simp [intOf]; omega
      · have hq : Hid (¬ idsB X = true) := by
          refine (?_ : ¬ idsB X = true)
          intro e
          have := ids_iff.1 e j (by rw [hn.out, ← hj.out]; exact hkn)
          rw [← hj.out] at this
          exact hxy this
        have hd : Hid ((oat X k).id ≤ (oat X j).id) := by show _ ≤ _; omega
        go_wp2
        refine PgM.region_out (S := fun W => Blk W B #[.slice (some ⟨b, off, none⟩) n cap, .func (.func 77) #[] #[]] 70 ∧ W.rangeAt b (off + j * 51) C.toList ∧ W.rangeAt b (off + k * 51) C'.toList) hmx ⟨hbk.next (Below.refl _ _).drew, range_block hr ((Below.refl _ wr).drew.block b hbb), range_block hr' ((Below.refl _ wr).drew.block b hbb)⟩ (fun hS => ?_)
        have hkd := (Below.refl wr.heap.size wr).drew
        have hC0 := hC.next hkd
        have hC0' := hC'.next hkd
        have hb1 := hb.trans (hkd.mono hbs)
        have hbb1 : b < wr.drew.heap.size := Nat.lt_of_lt_of_le hbb hkd.size
        generalize wr.drew = W1 at hS hC0 hC0' hb1 hbb1 ⊢
        clear hkd
        refine wpAnyH_sym (by kernel_rfl) (fun _ _ _ _ _ h => h) hS [(0, none), (1, some (.func (.func 77) #[] #[])), (2, none), (3, some (.slice (some ⟨b, off, none⟩) n cap)), (4, none), (5, some (.int .i64 j)), (6, some (.pointer (some ⟨b, off + j * 51, none⟩))), (7, some (.agg C)), (9, none), (10, some (.func (.func 77) #[] #[])), (11, none), (12, some (.slice (some ⟨b, off, none⟩) n cap)), (13, none), (14, some (.pointer (some ⟨b, off + k * 51, none⟩))), (15, some (.agg C'))] (l' := #[true, true, true, true, true, true, true, true, false, true, true, true, true, true, true, true, false, false]) (a' := { tmps := #[.agg #[.slice (some ⟨b, off, none⟩) n cap, .func (.func 77) #[] #[]], .pointer (some ⟨B, 0, none⟩), u2, .int .i64 k, .int .i64 k, .pointer (some ⟨B, 0, none⟩), .slice (some ⟨b, off, none⟩) n cap, .int .i64 n, .bool true, u9, u10, .pointer (some ⟨B, 1, none⟩), .func (.func 77) #[] #[], .pointer (some ⟨B, 0, none⟩), .slice (some ⟨b, off, none⟩) n cap, .int .i64 k, .int .i64 j, .pointer (some ⟨b, off + j * 51, none⟩), .agg C, u19, .pointer (some ⟨B, 1, none⟩), .func (.func 77) #[] #[], .pointer (some ⟨B, 0, none⟩), .slice (some ⟨b, off, none⟩) n cap, .int .i64 k, .pointer (some ⟨b, off + k * 51, none⟩), .agg C', u27, u28], defers := [] }) (obs := [.load 68 B 1 (.func (.func 77) #[] #[]), .load 41 B 0 (.slice (some ⟨b, off, none⟩) n cap), .test .sub 3 (.tmp 15) (.const (.int .i64 1)) (.int .i64 k) (.int .i64 1) (.int .i64 j), .ia 41 (.slice (some ⟨b, off, none⟩) n cap) (.int .i64 j) (.pointer (some ⟨b, off + j * 51, none⟩)), .load 40 b (off + j * 51) (.agg C), .load 68 B 1 (.func (.func 77) #[] #[]), .load 41 B 0 (.slice (some ⟨b, off, none⟩) n cap), .ia 41 (.slice (some ⟨b, off, none⟩) n cap) (.int .i64 k) (.pointer (some ⟨b, off + k * 51, none⟩)), .load 40 b (off + k * 51) (.agg C')]) (n := 3) (by kernel_rfl) (by kernel_rfl) ⟨ob_load1 (fun _ h => h.1) rfl Try.isAgg68, ob_load1 (fun _ h => h.1) rfl Try.isAgg41, sub_at hj hw, ia_at hjn, ob_loadm (fun _ h => h.2.1) Try.underlying40 (by kernel_rfl) (size40C hz), ob_load1 (fun _ h => h.1) rfl Try.isAgg68, ob_load1 (fun _ h => h.1) rfl Try.isAgg41, ia_at hkn, ob_loadm (fun _ h => h.2.2) Try.underlying40 (by kernel_rfl) (size40C hz'), trivial⟩ ?_
        refine wpAnyH_callL (i := 8) (fuel := 2) (f := 77) (vs := [.agg C]) (d := some 19) (by kernel_rfl) (by kernel_rfl) (by kernel_rfl) Try.call77 (objects1_any hC0) ?_
        rintro e W2 ⟨rfl, hk2⟩
        have hS2 : Blk W2 B #[.slice (some ⟨b, off, none⟩) n cap, .func (.func 77) #[] #[]] 70 ∧ W2.rangeAt b (off + j * 51) C.toList ∧ W2.rangeAt b (off + k * 51) C'.toList := ⟨hS.1.next hk2, range_block hS.2.1 (hk2.block b hbb1), range_block hS.2.2 (hk2.block b hbb1)⟩
        refine ⟨_, rfl, hS2, ?_⟩
        have hb2 := hb1.trans (hk2.mono (by have := hb1.size; have := hBh.out; omega))
        refine wpAnyH_callL (i := 16) (fuel := 1) (f := 77) (vs := [.agg C']) (d := some 27) (by kernel_rfl) (by kernel_rfl) (by kernel_rfl) Try.call77 (objects1_any (hC0'.next hk2)) ?_
        rintro e W3 ⟨rfl, hk3⟩
        have hbb2 := Nat.lt_of_lt_of_le hbb1 hk2.size
        have hS3 : Blk W3 B #[.slice (some ⟨b, off, none⟩) n cap, .func (.func 77) #[] #[]] 70 ∧ W3.rangeAt b (off + j * 51) C.toList ∧ W3.rangeAt b (off + k * 51) C'.toList := ⟨hS2.1.next hk3, range_block hS2.2.1 (hk3.block b hbb2), range_block hS2.2.2 (hk3.block b hbb2)⟩
        refine ⟨_, rfl, hS3, ?_⟩
        have hb3 := hb2.trans (hk3.mono (by have := hb2.size; have := hBh.out; omega))
        refine wpAnyH_sym (by kernel_rfl) (fun _ _ _ _ _ h => h) hS3 [(17, some (.bool true))] (l' := #[true, true, true, true, true, true, true, true, true, true, true, true, true, true, true, true, true, true]) (a' := { tmps := #[.agg #[.slice (some ⟨b, off, none⟩) n cap, .func (.func 77) #[] #[]], .pointer (some ⟨B, 0, none⟩), u2, .int .i64 k, .int .i64 k, .pointer (some ⟨B, 0, none⟩), .slice (some ⟨b, off, none⟩) n cap, .int .i64 n, .bool true, u9, u10, .pointer (some ⟨B, 1, none⟩), .func (.func 77) #[] #[], .pointer (some ⟨B, 0, none⟩), .slice (some ⟨b, off, none⟩) n cap, .int .i64 k, .int .i64 j, .pointer (some ⟨b, off + j * 51, none⟩), .agg C, .int .u64 (oat X j).id, .pointer (some ⟨B, 1, none⟩), .func (.func 77) #[] #[], .pointer (some ⟨B, 0, none⟩), .slice (some ⟨b, off, none⟩) n cap, .int .i64 k, .pointer (some ⟨b, off + k * 51, none⟩), .agg C', .int .u64 (oat X k).id, .bool true], defers := [] }) (obs := [.test .geq 22 (.tmp 19) (.tmp 27) (.int .u64 (oat X j).id) (.int .u64 (oat X k).id) (.bool true)]) (n := 0) (by kernel_rfl) (by kernel_rfl) ⟨ob_yes (fun _ => tge_int _ _ _ _ _ _) hd, trivial⟩ ?_
        refine wpAnyH_done (by kernel_rfl) ?_ _
        have hbk3 := hS3.1
        clear hS hS2 hS3 hC0 hC0' hb1 hb2 hbb1 hbb2 hk2 hk3
        go_wp2
        go_ret
        exact askP_no hq (by rw [hBh.out]; exact hb3) id
    · have hkn' : ¬ (k : Int) < n := by omega
      go_wp2
      go_ret
      exact askP_yes (ids_iff.2 fun i hi => hal.out i (by rw [hn.out] at hi; omega)) (by rw [hBh.out]; exact hb)
end
section
open Go.RowKit Go.Shelf
set_option linter.unusedVariables false
attribute [local go_sem] Oper.semAt_some

theorem objectsG_any {w : World} {G : Array Value} {ao : Option Addr} {n cap : Nat} (c3 : G[3]? = some (.slice ao n cap)) : Calls Try.prog 43 #[.agg G] w fun e w' => e = .returned (.agg #[.slice ao n cap, .func (.func 77) #[] #[]]) ∧ Below w.heap.size w w' := by
  go_enter Try.func43, Try.ntmps43
  go_wp2_with (first
    | (with_reducible refine wpList_box rfl _ _ rfl G rfl ?_; intro B W hB hb hk; have q6 := fun o => cellLater ((hb.cell 3).trans c3) o))
  refine bodyPost_ret (v := .agg #[.slice ao n cap, .func (.func 77) #[] #[]]) (by simp [results, Try.f43, go_sem]) rfl ?_
  exact ⟨rfl, hk.alloc hk.size _⟩
theorem fitW_iff {t ke ro : Int} {X : List Ob} : fitW ⟨t, ke, ro, X⟩ = true ↔ 0 ≤ t ∧ t ≤ 1099511627776 ∧ X.length ≤ 1024 ∧ idsB X = true ∧ ∀ i, i < X.length → soundB (oat X i) = true := by
  unfold fitW
  simp only [Bool.and_eq_true, decide_eq_true_iff, List.all_eq_true]
  refine ⟨fun h => ⟨h.1, h.2.1, h.2.2.1, h.2.2.2.1, fun i hi => h.2.2.2.2 _ (oat_mem hi)⟩, fun h => ⟨h.1, h.2.1, h.2.2.1, h.2.2.2.1, fun x hx => ?_⟩⟩
  obtain ⟨i, hi, rfl⟩ := List.getElem_of_mem hx
  have := h.2.2.2.2 i hi
  rw [oat_get hi] at this
  exact this
set_option maxRecDepth 100000 in
set_option maxHeartbeats 4000000 in
theorem fit_w {w : World} {t ke ro : Int} {ao : Option Addr} {n cap : Nat} {X : List Ob} (h : Obs w ao n cap X) : Asks 12 #[.agg #[.int .i64 t, .int .u64 ke, .int .u64 ro, .slice ao n cap]] (fitW ⟨t, ke, ro, X⟩ = true) w := by
  have hn : Hid (X.length = n) := h.1
  have ga1 := Try.isAgg22
  have ga2 := Try.isAgg3
  have ga3 := Try.isAgg41
  have c0 : (#[.int .i64 t, .int .u64 ke, .int .u64 ro, .slice ao n cap] : Array Value)[0]? = some (.int .i64 t) := rfl
  have c3 : (#[.int .i64 t, .int .u64 ke, .int .u64 ro, .slice ao n cap] : Array Value)[3]? = some (.slice ao n cap) := rfl
  have hz : (Try.prog.info? 43).map (·.size) = some (#[.int .i64 t, .int .u64 ke, .int .u64 ro, .slice ao n cap] : Array Value).size := by kernel_rfl
  obtain ⟨G, hG⟩ : ∃ G : Array Value, G = #[.int .i64 t, .int .u64 ke, .int .u64 ro, .slice ao n cap] := ⟨_, rfl⟩
  rw [← hG] at c0 c3 hz
  rw [← hG]
  clear hG
  unfold Asks
  go_enter Try.func12, Try.ntmps12
  go_wp2_with (first
    | go_skip
    | (with_reducible refine wpList_box rfl _ _ rfl G rfl ?_; intro B W hB hb hk)
    | (with_reducible refine wpList_load1 (by kernel_rfl) _ _ rfl B _ rfl _ _ hb _ (by assumption) (by assumption) ?_)
    | (with_reducible refine wpList_loadb (by kernel_rfl) 43 _ rfl B rfl G hb _ Try.underlying43 (by kernel_rfl) hz ?_)
    | ((with_reducible refine wpList_test (by kernel_rfl) .geq _ _ _ _ rfl _ _ rfl rfl (tge_int _ _ _ _ _ _) ?_ ?_) <;> intro hq)
    | ((with_reducible refine wpList_test (by kernel_rfl) .leq _ _ _ _ rfl _ _ rfl rfl (tle_int _ _ _ _ _ _) ?_ ?_) <;> intro hq)
    | (go_at_call 43; (with_reducible refine (objectsG_any c3).mono ?_); rintro e w1 ⟨rfl, hb1⟩; replace hb := hb.next hb1; replace hk := hk.trans (hb1.mono hk.size))
    | (go_at_call 44; (with_reducible refine (risesO_any (obs_next h hk)).on ?_ ?_) <;> (intro w2 hq hb2; replace hb := hb.next hb2; replace hk := hk.trans (hb2.mono hk.size)))
    | (go_at_call 45; (with_reducible refine (everyO_any (obs_next h hk)).on ?_ ?_) <;> (intro w3 hq hb3; replace hk := hk.trans (hb3.mono hk.size))))
  all_goals go_ret
  all_goals first
    | (have a1 : 0 ≤ t := Hid.out (by assumption); have a2 : t ≤ 1099511627776 := Hid.out (by assumption); have a3 : (n : Int) ≤ 1024 := Hid.out (by assumption); have a4 : idsB X = true := Hid.out (by assumption); have a5 : ∀ i, i < X.length → soundB (oat X i) = true := Hid.out (by assumption); exact askP_yes (fitW_iff.2 ⟨a1, a2, by rw [hn.out]; omega, a4, a5⟩) hk)
    | (have hl : t < 0 := Hid.out (by assumption); refine ⟨false, rfl, ⟨fun e => absurd e Bool.false_ne_true, fun e => ?_⟩, hk⟩; exfalso; have := (fitW_iff.1 e).1; omega)
    | (have hl : 1099511627776 < t := Hid.out (by assumption); refine ⟨false, rfl, ⟨fun e => absurd e Bool.false_ne_true, fun e => ?_⟩, hk⟩; exfalso; have := (fitW_iff.1 e).2.1; omega)
    | (have hl : 1024 < (n : Int) := Hid.out (by assumption); refine ⟨false, rfl, ⟨fun e => absurd e Bool.false_ne_true, fun e => ?_⟩, hk⟩; exfalso; have := (fitW_iff.1 e).2.2.1; rw [hn.out] at this; omega)
    | (have hl : ¬ idsB X = true := Hid.out (by assumption); refine ⟨false, rfl, ⟨fun e => absurd e Bool.false_ne_true, fun e => ?_⟩, hk⟩; exact absurd (fitW_iff.1 e).2.2.2.1 hl)
    | (have hl : ¬ ∀ i, i < X.length → soundB (oat X i) = true := Hid.out (by assumption); refine ⟨false, rfl, ⟨fun e => absurd e Bool.false_ne_true, fun e => ?_⟩, hk⟩; exact absurd (fitW_iff.1 e).2.2.2.2 hl)
    | fail
end
section
open Go.RowKit Go.Shelf
set_option linter.unusedVariables false
attribute [local go_sem] Oper.semAt_some

set_option maxRecDepth 100000 in
set_option maxHeartbeats 4000000 in
theorem rsame_w {w : World} {t ke ro t' ke' ro' : Int} {ao ao' : Option Addr} {n cap n' cap' : Nat} {X Y : List Ob} (h : Obs w ao n cap X) (h' : Obs w ao' n' cap' Y) : Asks 17 #[.agg #[.int .i64 t, .int .u64 ke, .int .u64 ro, .slice ao n cap], .agg #[.int .i64 t', .int .u64 ke', .int .u64 ro', .slice ao' n' cap']] ((⟨t, ke, ro, X⟩ : Wd) = ⟨t', ke', ro', Y⟩) w := by
  have hmx : Try.prog.follows .mixedOrders = true := by kernel_rfl
  have hn : Hid (X.length = n) := h.1
  have hn' : Hid (Y.length = n') := h'.1
  have hnc := h.2.1
  have hcm := h.2.2.1.1
  have hnc' := h'.2.1
  have hcm' := h'.2.2.1.1
  have ga1 := Try.isAgg22
  have ga2 := Try.isAgg3
  have ga3 := Try.isAgg41
  have c0 : (#[.int .i64 t, .int .u64 ke, .int .u64 ro, .slice ao n cap] : Array Value)[0]? = some (.int .i64 t) := rfl
  have c1 : (#[.int .i64 t, .int .u64 ke, .int .u64 ro, .slice ao n cap] : Array Value)[1]? = some (.int .u64 ke) := rfl
  have c2 : (#[.int .i64 t, .int .u64 ke, .int .u64 ro, .slice ao n cap] : Array Value)[2]? = some (.int .u64 ro) := rfl
  have c3 : (#[.int .i64 t, .int .u64 ke, .int .u64 ro, .slice ao n cap] : Array Value)[3]? = some (.slice ao n cap) := rfl
  have d0 : (#[.int .i64 t', .int .u64 ke', .int .u64 ro', .slice ao' n' cap'] : Array Value)[0]? = some (.int .i64 t') := rfl
  have d1 : (#[.int .i64 t', .int .u64 ke', .int .u64 ro', .slice ao' n' cap'] : Array Value)[1]? = some (.int .u64 ke') := rfl
  have d2 : (#[.int .i64 t', .int .u64 ke', .int .u64 ro', .slice ao' n' cap'] : Array Value)[2]? = some (.int .u64 ro') := rfl
  have d3 : (#[.int .i64 t', .int .u64 ke', .int .u64 ro', .slice ao' n' cap'] : Array Value)[3]? = some (.slice ao' n' cap') := rfl
  obtain ⟨G, hG⟩ : ∃ G : Array Value, G = #[.int .i64 t, .int .u64 ke, .int .u64 ro, .slice ao n cap] := ⟨_, rfl⟩
  obtain ⟨G', hG'⟩ : ∃ G' : Array Value, G' = #[.int .i64 t', .int .u64 ke', .int .u64 ro', .slice ao' n' cap'] := ⟨_, rfl⟩
  rw [← hG] at c0 c1 c2 c3
  rw [← hG'] at d0 d1 d2 d3
  rw [← hG, ← hG']
  clear hG hG'
  unfold Asks
  go_enter Try.func17, Try.ntmps17
  go_wp2_with (first
    | go_skip
    | (with_reducible refine wpList_box rfl _ _ rfl G rfl ?_; intro B W hB hb hk)
    | (with_reducible refine wpList_box rfl _ _ rfl G' rfl ?_; intro B' W' hB' hb' hk'; replace hb := hb.next hk'; replace hk := hk.trans (hk'.mono hk.size); clear hk')
    | (with_reducible refine wpList_load1 (by kernel_rfl) _ _ rfl B _ rfl _ _ hb _ (by assumption) (by assumption) ?_)
    | (with_reducible refine wpList_load1 (by kernel_rfl) _ _ rfl B' _ rfl _ _ hb' _ (by assumption) (by assumption) ?_)
    | ((with_reducible refine wpList_test (by kernel_rfl) .neq _ _ _ _ rfl _ _ rfl rfl (neg_int _ _ _ _ _ _) ?_ ?_) <;> intro hq))
  all_goals (try (go_ret; first
    | (have hl : ¬ t = t' := Hid.out (by assumption); refine ⟨false, rfl, ⟨fun e => absurd e Bool.false_ne_true, fun e => ?_⟩, hk⟩; exact absurd (congrArg Wd.time e) hl)
    | (have hl : ¬ ke = ke' := Hid.out (by assumption); refine ⟨false, rfl, ⟨fun e => absurd e Bool.false_ne_true, fun e => ?_⟩, hk⟩; exact absurd (congrArg Wd.key e) hl)
    | (have hl : ¬ ro = ro' := Hid.out (by assumption); refine ⟨false, rfl, ⟨fun e => absurd e Bool.false_ne_true, fun e => ?_⟩, hk⟩; exact absurd (congrArg Wd.root e) hl)
    | (have hl : ¬ (n : Int) = n' := Hid.out (by assumption); refine ⟨false, rfl, ⟨fun e => absurd e Bool.false_ne_true, fun e => ?_⟩, hk⟩; have := congrArg (fun z => z.obs.length) e; simp only [] at this; exact absurd (by rw [← hn.out, ← hn'.out, this]) hl)
    | fail))
  have et : t = t' := Classical.not_not.1 (Hid.out (by assumption))
  have ek : ke = ke' := Classical.not_not.1 (Hid.out (by assumption))
  have er : ro = ro' := Classical.not_not.1 (Hid.out (by assumption))
  have en : (n : Int) = n' := Classical.not_not.1 (Hid.out (by assumption))
  have hnn : n = n' := by omega
  subst hnn
  have hes : Hid (t = t' ∧ ke = ke' ∧ ro = ro') := ⟨et, ek, er⟩
  clear et ek er en
  clear hB hB'
  go_loopw [5] (fun i wr => ∃ k : Nat, k ≤ n ∧ i = .int .i64 k ∧ Hid (∀ j, j < k → oat X j = oat Y j) ∧ Blk wr B G 43 ∧ Blk wr B' G' 43 ∧ Below w.heap.size w wr) (fun i _ => n - (intOf i).toNat)
  case atStart => exact ⟨0, Nat.zero_le _, rfl, fun j hj => absurd hj (by omega), hb, hb', hk⟩
  case round =>
    clear hb hb' hk
    obtain ⟨k, hk, rfl, hal, hb, hb', hbw⟩ := hrel
    have hbs := hbw.size
    by_cases hkn : k < n
    · obtain ⟨b, off, C, rfl, hbb, hC, hr⟩ := obs_at (obs_next h hbw) hkn
      obtain ⟨b', off', C', rfl, hbb', hC', hr'⟩ := obs_at (obs_next h' hbw) hkn
      have hkn' : (k : Int) < n := by omega
      have hz := hC.size
      have hz' := hC'.size
      go_wp2_with (first
        | (with_reducible refine wpList_load1 (by kernel_rfl) _ _ rfl B _ rfl _ _ hb _ (by assumption) (by assumption) ?_))
      refine PgM.region_out (S := fun W => Blk W B G 43 ∧ Blk W B' G' 43 ∧ W.rangeAt b (off + k * 51) C.toList ∧ W.rangeAt b' (off' + k * 51) C'.toList) hmx ⟨hb.next (Below.refl _ _).drew, hb'.next (Below.refl _ _).drew, range_block hr ((Below.refl _ wr).drew.block b hbb), range_block hr' ((Below.refl _ wr).drew.block b' hbb')⟩ (fun hS => ?_)
      have hkd := (Below.refl wr.heap.size wr).drew
      have hC0 := hC.next hkd
      have hC0' := hC'.next hkd
      have hb1 := hbw.trans (hkd.mono hbs)
      have hbb1 : b < wr.drew.heap.size := Nat.lt_of_lt_of_le hbb hkd.size
      have hbb1' : b' < wr.drew.heap.size := Nat.lt_of_lt_of_le hbb' hkd.size
      generalize wr.drew = W1 at hS hC0 hC0' hb1 hbb1 hbb1' ⊢
      clear hkd
      refine wpAnyH_sym (by kernel_rfl) (fun _ _ _ _ _ h => h) hS [(0, none), (1, some (.slice (some ⟨b, off, none⟩) n cap)), (2, none), (3, some (.pointer (some ⟨b, off + k * 51, none⟩))), (4, some (.agg C)), (5, none), (6, some (.slice (some ⟨b', off', none⟩) n cap')), (7, none), (8, some (.pointer (some ⟨b', off' + k * 51, none⟩))), (9, some (.agg C'))] (l' := #[true, true, true, true, true, true, true, true, true, true, false, false]) (a' := { tmps := #[.agg G, .agg G', .pointer (some ⟨B, 0, none⟩), .pointer (some ⟨B', 0, none⟩), u4, .int .i64 k, .pointer (some ⟨B, 0, none⟩), .int .i64 t, .pointer (some ⟨B', 0, none⟩), .int .i64 t', .bool false, .bool false, .pointer (some ⟨B, 1, none⟩), .int .u64 ke, .pointer (some ⟨B', 1, none⟩), .int .u64 ke', .bool false, .bool false, .bool false, .pointer (some ⟨B, 2, none⟩), .int .u64 ro, .pointer (some ⟨B', 2, none⟩), .int .u64 ro', .bool false, .bool false, .bool false, .pointer (some ⟨B, 3, none⟩), .slice (some ⟨b, off, none⟩) n cap, .int .i64 n, .pointer (some ⟨B', 3, none⟩), .slice (some ⟨b', off', none⟩) n cap', .int .i64 n, .bool false, .bool false, .int .i64 k, .pointer (some ⟨B, 3, none⟩), .slice (some ⟨b, off, none⟩) n cap, .int .i64 n, .bool true, u39, u40, .pointer (some ⟨B, 3, none⟩), .slice (some ⟨b, off, none⟩) n cap, .int .i64 k, .pointer (some ⟨b, off + k * 51, none⟩), .agg C, .pointer (some ⟨B', 3, none⟩), .slice (some ⟨b', off', none⟩) n cap', .int .i64 k, .pointer (some ⟨b', off' + k * 51, none⟩), .agg C', u51, u52], defers := [] }) (obs := [.load 41 B 3 (.slice (some ⟨b, off, none⟩) n cap), .ia 41 (.slice (some ⟨b, off, none⟩) n cap) (.int .i64 k) (.pointer (some ⟨b, off + k * 51, none⟩)), .load 40 b (off + k * 51) (.agg C), .load 41 B' 3 (.slice (some ⟨b', off', none⟩) n cap'), .ia 41 (.slice (some ⟨b', off', none⟩) n cap') (.int .i64 k) (.pointer (some ⟨b', off' + k * 51, none⟩)), .load 40 b' (off' + k * 51) (.agg C')]) (n := 2) (by kernel_rfl) (by kernel_rfl) ⟨ob_load1 (fun _ h => h.1) c3 Try.isAgg41, ia_at hkn, ob_loadm (fun _ h => h.2.2.1) Try.underlying40 (by kernel_rfl) (size40C hz), ob_load1 (fun _ h => h.2.1) d3 Try.isAgg41, ia_at hkn, ob_loadm (fun _ h => h.2.2.2) Try.underlying40 (by kernel_rfl) (size40C hz'), trivial⟩ ?_
      refine wpAnyH_askL (i := 10) (fuel := 1) (f := 15) (vs := [.agg C, .agg C']) (d := some 51) (by kernel_rfl) (by kernel_rfl) (by kernel_rfl) Try.call15 (rsameOne_any hC0 hC0') (fun W2 hk2 => (⟨hS.1.next hk2, hS.2.1.next hk2, range_block hS.2.2.1 (hk2.block b hbb1), range_block hS.2.2.2 (hk2.block b' hbb1')⟩ : Blk W2 B G 43 ∧ Blk W2 B' G' 43 ∧ W2.rangeAt b (off + k * 51) C.toList ∧ W2.rangeAt b' (off' + k * 51) C'.toList)) ?_ ?_
      · intro W2 hq hk2 hS2
        have hb2 := hb1.trans (hk2.mono hb1.size)
        refine wpAnyH_sym (by kernel_rfl) (fun _ _ _ _ _ h => h) hS2 [(11, none)] (l' := #[true, true, true, true, true, true, true, true, true, true, true, true]) (a' := { tmps := #[.agg G, .agg G', .pointer (some ⟨B, 0, none⟩), .pointer (some ⟨B', 0, none⟩), u4, .int .i64 k, .pointer (some ⟨B, 0, none⟩), .int .i64 t, .pointer (some ⟨B', 0, none⟩), .int .i64 t', .bool false, .bool false, .pointer (some ⟨B, 1, none⟩), .int .u64 ke, .pointer (some ⟨B', 1, none⟩), .int .u64 ke', .bool false, .bool false, .bool false, .pointer (some ⟨B, 2, none⟩), .int .u64 ro, .pointer (some ⟨B', 2, none⟩), .int .u64 ro', .bool false, .bool false, .bool false, .pointer (some ⟨B, 3, none⟩), .slice (some ⟨b, off, none⟩) n cap, .int .i64 n, .pointer (some ⟨B', 3, none⟩), .slice (some ⟨b', off', none⟩) n cap', .int .i64 n, .bool false, .bool false, .int .i64 k, .pointer (some ⟨B, 3, none⟩), .slice (some ⟨b, off, none⟩) n cap, .int .i64 n, .bool true, u39, u40, .pointer (some ⟨B, 3, none⟩), .slice (some ⟨b, off, none⟩) n cap, .int .i64 k, .pointer (some ⟨b, off + k * 51, none⟩), .agg C, .pointer (some ⟨B', 3, none⟩), .slice (some ⟨b', off', none⟩) n cap', .int .i64 k, .pointer (some ⟨b', off' + k * 51, none⟩), .agg C', .bool true, .bool false], defers := [] }) (obs := []) (n := 0) (by kernel_rfl) (by kernel_rfl) trivial ?_
        refine wpAnyH_done (by kernel_rfl) ?_ _
        have hx1 := hS2.1
        have hx2 := hS2.2.1
        clear hS hS2 hC0 hC0'
        go_wp2
        go_roundw
        case rel => exact ⟨k + 1, by omega, by go_num, fn_succ hal.out hq.out, hx1, hx2, hb2⟩
        case measure => simp [intOf]; omega
      · intro W2 hq hk2 hS2
        have hb2 := hb1.trans (hk2.mono hb1.size)
        refine wpAnyH_sym (by kernel_rfl) (fun _ _ _ _ _ h => h) hS2 [(11, none)] (l' := #[true, true, true, true, true, true, true, true, true, true, true, true]) (a' := { tmps := #[.agg G, .agg G', .pointer (some ⟨B, 0, none⟩), .pointer (some ⟨B', 0, none⟩), u4, .int .i64 k, .pointer (some ⟨B, 0, none⟩), .int .i64 t, .pointer (some ⟨B', 0, none⟩), .int .i64 t', .bool false, .bool false, .pointer (some ⟨B, 1, none⟩), .int .u64 ke, .pointer (some ⟨B', 1, none⟩), .int .u64 ke', .bool false, .bool false, .bool false, .pointer (some ⟨B, 2, none⟩), .int .u64 ro, .pointer (some ⟨B', 2, none⟩), .int .u64 ro', .bool false, .bool false, .bool false, .pointer (some ⟨B, 3, none⟩), .slice (some ⟨b, off, none⟩) n cap, .int .i64 n, .pointer (some ⟨B', 3, none⟩), .slice (some ⟨b', off', none⟩) n cap', .int .i64 n, .bool false, .bool false, .int .i64 k, .pointer (some ⟨B, 3, none⟩), .slice (some ⟨b, off, none⟩) n cap, .int .i64 n, .bool true, u39, u40, .pointer (some ⟨B, 3, none⟩), .slice (some ⟨b, off, none⟩) n cap, .int .i64 k, .pointer (some ⟨b, off + k * 51, none⟩), .agg C, .pointer (some ⟨B', 3, none⟩), .slice (some ⟨b', off', none⟩) n cap', .int .i64 k, .pointer (some ⟨b', off' + k * 51, none⟩), .agg C', .bool false, .bool true], defers := [] }) (obs := []) (n := 0) (by kernel_rfl) (by kernel_rfl) trivial ?_
        refine wpAnyH_done (by kernel_rfl) ?_ _
        have hx1 := hS2.1
        have hx2 := hS2.2.1
        clear hS hS2 hC0 hC0'
        go_wp2
        go_ret
        exact askP_no hq hb2 (fun e => by have := congrArg Wd.obs e; simp only [] at this; rw [this])
    · obtain rfl : k = n := by omega
      go_wp2_with (first
        | (with_reducible refine wpList_load1 (by kernel_rfl) _ _ rfl B _ rfl _ _ hb _ (by assumption) (by assumption) ?_))
      go_ret
      exact askP_yes ⟨hes.out.1, hes.out.2.1, hes.out.2.2, oats_ext (by rw [hn.out, hn'.out]) fun i hi => hal.out i (by rw [hn.out] at hi; exact hi)⟩ hbw
end
section
open Go.RowKit Go.Shelf
set_option linter.unusedVariables false
attribute [local go_sem] Oper.semAt_some

theorem ob_cell {S : World → Prop} {P : Program} {ty : TypeId} {b o j : Nat} {v : Value} {C : Array Value} (hr : ∀ w, S w → w.rangeAt b o C.toList) (hv : C[j]? = some v) (hg : ∀ w, (isAgg ty).run P w = .ok false w) : Obl.holds P S (.load ty b (o + j) v) := fun w hS => by
  have hc : w.cell? ⟨b, o + j, none⟩ = some v := hr w hS j v (by simpa using hv)
  simp [loadVar, hg, hc]
set_option maxRecDepth 100000 in
set_option maxHeartbeats 4000000 in
theorem rfit_w {w : World} {t ke ro : Int} {ao : Option Addr} {n cap : Nat} {X : List Ob} (h : Obs w ao n cap X) : Asks 13 #[.agg #[.int .i64 t, .int .u64 ke, .int .u64 ro, .slice ao n cap]] (fitW ⟨t, ke, ro, X⟩ = true) w := by
  have hmx : Try.prog.follows .mixedOrders = true := by kernel_rfl
  have hn : Hid (X.length = n) := h.1
  have hnc := h.2.1
  have hcm := h.2.2.1.1
  have ga1 := Try.isAgg22
  have ga2 := Try.isAgg3
  have ga3 := Try.isAgg41
  have c0 : (#[.int .i64 t, .int .u64 ke, .int .u64 ro, .slice ao n cap] : Array Value)[0]? = some (.int .i64 t) := rfl
  have c3 : (#[.int .i64 t, .int .u64 ke, .int .u64 ro, .slice ao n cap] : Array Value)[3]? = some (.slice ao n cap) := rfl
  obtain ⟨G, hG⟩ : ∃ G : Array Value, G = #[.int .i64 t, .int .u64 ke, .int .u64 ro, .slice ao n cap] := ⟨_, rfl⟩
  rw [← hG] at c0 c3
  rw [← hG]
  clear hG
  unfold Asks
  go_enter Try.func13, Try.ntmps13
  go_wp2_with (first
    | go_skip
    | (with_reducible refine wpList_box rfl _ _ rfl G rfl ?_; intro B W hB hb hk)
    | (with_reducible refine wpList_load1 (by kernel_rfl) _ _ rfl B _ rfl _ _ hb _ (by assumption) (by assumption) ?_)
    | ((with_reducible refine wpList_test (by kernel_rfl) .lss _ _ _ _ rfl _ _ rfl rfl (tlt_int _ _ _ _ _ _) ?_ ?_) <;> intro hq)
    | ((with_reducible refine wpList_test (by kernel_rfl) .gtr _ _ _ _ rfl _ _ rfl rfl (tgt_int _ _ _ _ _ _) ?_ ?_) <;> intro hq))
  all_goals (try (go_ret; first
    | (have hl : t < 0 := Hid.out (by assumption); refine ⟨false, rfl, ⟨fun e => absurd e Bool.false_ne_true, fun e => ?_⟩, hk⟩; exfalso; have := (fitW_iff.1 e).1; omega)
    | (have hl : 1099511627776 < t := Hid.out (by assumption); refine ⟨false, rfl, ⟨fun e => absurd e Bool.false_ne_true, fun e => ?_⟩, hk⟩; exfalso; have := (fitW_iff.1 e).2.1; omega)
    | (have hl : 1024 < (n : Int) := Hid.out (by assumption); refine ⟨false, rfl, ⟨fun e => absurd e Bool.false_ne_true, fun e => ?_⟩, hk⟩; exfalso; have := (fitW_iff.1 e).2.2.1; rw [hn.out] at this; omega)
    | fail))
  have a1 : 0 ≤ t := Hid.out (by assumption)
  have a2 : t ≤ 1099511627776 := Hid.out (by assumption)
  have a3 : (n : Int) ≤ 1024 := Hid.out (by assumption)
  have hes : Hid (0 ≤ t ∧ t ≤ 1099511627776 ∧ n ≤ 1024) := ⟨by omega, by omega, by omega⟩
  clear a1 a2 a3
  clear hB
  go_loopw [3] (fun i wr => ∃ k : Nat, k ≤ n ∧ i = .int .i64 k ∧ Hid (∀ j, j < k → soundB (oat X j) = true) ∧ Hid (∀ j, j + 1 < k → (oat X j).id < (oat X (j + 1)).id) ∧ Blk wr B G 43 ∧ Below w.heap.size w wr) (fun i _ => n - (intOf i).toNat)
  case atStart => exact ⟨0, Nat.zero_le _, rfl, fun j hj => absurd hj (by omega), fun j hj => absurd hj (by omega), hb, hk⟩
  case round =>
    clear hb hk
    obtain ⟨k, hk, rfl, hal, hri, hb, hbw⟩ := hrel
    have hbs := hbw.size
    by_cases hkn : k < n
    · obtain ⟨j, hj0⟩ : ∃ j, Hid (j = k - 1) := ⟨_, rfl⟩
      have hjn : j < n := by have := hj0.out; omega
      obtain ⟨b, off, C, rfl, hbb, hC, hr⟩ := obs_at (obs_next h hbw) hkn
      obtain ⟨b', off', C', e', hbb', hC', hr'⟩ := obs_at (obs_next h hbw) hjn
      cases e'
      have hkn' : (k : Int) < n := by omega
      have hz := hC.size
      go_wp2_with (first
        | (with_reducible refine wpList_load1 (by kernel_rfl) _ _ rfl B _ rfl _ _ hb _ (by assumption) (by assumption) ?_))
      refine PgM.region_out (S := fun W => Blk W B G 43 ∧ W.rangeAt b (off + k * 51) C.toList ∧ W.rangeAt b (off + j * 51) C'.toList) hmx ⟨hb.next (Below.refl _ _).drew, range_block hr ((Below.refl _ wr).drew.block b hbb), range_block hr' ((Below.refl _ wr).drew.block b hbb)⟩ (fun hS => ?_)
      have hkd := (Below.refl wr.heap.size wr).drew
      have hC0 := hC.next hkd
      have hb1 := hbw.trans (hkd.mono hbs)
      have hbb1 : b < wr.drew.heap.size := Nat.lt_of_lt_of_le hbb hkd.size
      generalize wr.drew = W1 at hS hC0 hb1 hbb1 ⊢
      clear hkd
      refine wpAnyH_sym (by kernel_rfl) (fun _ _ _ _ _ h => h) hS [(0, none), (1, some (.slice (some ⟨b, off, none⟩) n cap)), (2, none), (3, some (.pointer (some ⟨b, off + k * 51, none⟩))), (4, some (.agg C))] (l' := #[true, true, true, true, true, false, false, false, false, false, false, false, false, false, false, false, false, false, false, false, false, false, false, false, false, false, false]) (a' := { tmps := #[.agg G, .pointer (some ⟨B, 0, none⟩), u2, .int .i64 k, .pointer (some ⟨B, 0, none⟩), .int .i64 t, .bool false, .bool false, .pointer (some ⟨B, 0, none⟩), .int .i64 t, .bool false, .bool false, .bool false, .pointer (some ⟨B, 3, none⟩), .slice (some ⟨b, off, none⟩) n cap, .int .i64 n, .bool false, .bool false, .int .i64 k, .pointer (some ⟨B, 3, none⟩), .slice (some ⟨b, off, none⟩) n cap, .int .i64 n, .bool true, u23, u24, .pointer (some ⟨B, 3, none⟩), .slice (some ⟨b, off, none⟩) n cap, .int .i64 k, .pointer (some ⟨b, off + k * 51, none⟩), .agg C, u30, u31, u32, u33, u34, u35, u36, u37, u38, u39, u40, u41, u42, u43, u44, u45, u46, u47, u48, u49, u50, u51], defers := [] }) (obs := [.load 41 B 3 (.slice (some ⟨b, off, none⟩) n cap), .ia 41 (.slice (some ⟨b, off, none⟩) n cap) (.int .i64 k) (.pointer (some ⟨b, off + k * 51, none⟩)), .load 40 b (off + k * 51) (.agg C)]) (n := 22) (by kernel_rfl) (by kernel_rfl) ⟨ob_load1 (fun _ h => h.1) c3 Try.isAgg41, ia_at hkn, ob_loadm (fun _ h => h.2.1) Try.underlying40 (by kernel_rfl) (size40C hz), trivial⟩ ?_
      refine wpAnyH_askL (i := 5) (fuel := 21) (f := 11) (vs := [.agg C]) (d := some 30) (by kernel_rfl) (by kernel_rfl) (by kernel_rfl) Try.call11 (rsound_any hC0) (fun W2 hk2 => (⟨hS.1.next hk2, range_block hS.2.1 (hk2.block b hbb1), range_block hS.2.2 (hk2.block b hbb1)⟩ : Blk W2 B G 43 ∧ W2.rangeAt b (off + k * 51) C.toList ∧ W2.rangeAt b (off + j * 51) C'.toList)) ?_ ?_
      · intro W2 hq hk2 hS2
        have hb2 := hb1.trans (hk2.mono hb1.size)
        rcases Nat.eq_zero_or_pos k with h0 | h0
        · have hk0 : Hid (¬ (0 : Int) < k) := by show ¬ _; omega
          have hup : Hid (∀ j, j + 1 < k + 1 → (oat X j).id < (oat X (j + 1)).id) := by
            refine (?_ : ∀ j, j + 1 < k + 1 → (oat X j).id < (oat X (j + 1)).id)
            intro i hi; omega
          refine wpAnyH_sym (by kernel_rfl) (fun _ _ _ _ _ h => h) hS2 [(6, none), (7, none), (8, none), (9, some (.bool false)), (10, none), (11, none), (12, none), (13, none), (14, none), (15, none), (16, none), (17, none), (18, none), (19, none), (20, none), (21, none), (22, none), (23, none), (24, none), (25, none), (26, none)] (l' := #[true, true, true, true, true, true, true, true, true, true, true, true, true, true, true, true, true, true, true, true, true, true, true, true, true, true, true]) (a' := { tmps := #[.agg G, .pointer (some ⟨B, 0, none⟩), u2, .int .i64 k, .pointer (some ⟨B, 0, none⟩), .int .i64 t, .bool false, .bool false, .pointer (some ⟨B, 0, none⟩), .int .i64 t, .bool false, .bool false, .bool false, .pointer (some ⟨B, 3, none⟩), .slice (some ⟨b, off, none⟩) n cap, .int .i64 n, .bool false, .bool false, .int .i64 k, .pointer (some ⟨B, 3, none⟩), .slice (some ⟨b, off, none⟩) n cap, .int .i64 n, .bool true, u23, u24, .pointer (some ⟨B, 3, none⟩), .slice (some ⟨b, off, none⟩) n cap, .int .i64 k, .pointer (some ⟨b, off + k * 51, none⟩), .agg C, .bool true, .bool false, .bool false, .int .i64 k, .bool false, .bool false, undef, undef, undef, undef, undef, undef, undef, undef, undef, undef, undef, undef, undef, undef, .bool false, .bool false], defers := [] }) (obs := [.test .gtr 3 (.tmp 33) (.const (.int .i64 0)) (.int .i64 k) (.int .i64 0) (.bool false)]) (n := 0) (by kernel_rfl) (by kernel_rfl) ⟨ob_no (fun _ => tgt_int _ _ _ _ _ _) hk0, trivial⟩ ?_
          refine wpAnyH_done (by kernel_rfl) ?_ _
          have hx1 := hS2.1
          clear hS hS2 hC0
          go_wp2
          go_roundw
          case rel => exact ⟨k + 1, by omega, by go_num, fn_succ hal.out hq.out, hup, hx1, hb2⟩
          case measure => simp [intOf]; omega
        · have hk0 : Hid ((0 : Int) < k) := by show _ < _; omega
          have hj : Hid (k = j + 1) := by have := hj0.out; show _ = _; omega
          have hw : IntKind.i64.wrap ((k : Int) - 1) = (j : Int) := by have := hj.out; rw [IntKind.wrap_i64]; omega
          by_cases hxy : (oat X j).id < (oat X k).id
          · have hup : Hid (∀ i, i + 1 < k + 1 → (oat X i).id < (oat X (i + 1)).id) := by
              refine (?_ : ∀ i, i + 1 < k + 1 → (oat X i).id < (oat X (i + 1)).id)
              intro i hi
              rcases Nat.lt_or_ge (i + 1) k with h | h
              · exact hri.out i h
              · have hij : i = j := by have := hj.out; omega
                rw [hij, ← hj.out]; exact hxy
            have hd : Hid (¬ (oat X k).id ≤ (oat X j).id) := by show ¬ _; omega
            refine wpAnyH_sym (by kernel_rfl) (fun _ _ _ _ _ h => h) hS2 [(6, none), (7, none), (8, none), (9, some (.bool true)), (10, none), (11, none), (12, some (.slice (some ⟨b, off, none⟩) n cap)), (13, none), (14, some (.int .i64 j)), (15, some (.pointer (some ⟨b, off + j * 51, none⟩))), (16, none), (17, some (.int .u64 (oat X j).id)), (18, none), (19, some (.slice (some ⟨b, off, none⟩) n cap)), (20, none), (21, some (.pointer (some ⟨b, off + k * 51, none⟩))), (22, none), (23, some (.int .u64 (oat X k).id)), (24, some (.bool false)), (25, none), (26, none)] (l' := #[true, true, true, true, true, true, true, true, true, true, true, true, true, true, true, true, true, true, true, true, true, true, true, true, true, true, true]) (a' := { tmps := #[.agg G, .pointer (some ⟨B, 0, none⟩), u2, .int .i64 k, .pointer (some ⟨B, 0, none⟩), .int .i64 t, .bool false, .bool false, .pointer (some ⟨B, 0, none⟩), .int .i64 t, .bool false, .bool false, .bool false, .pointer (some ⟨B, 3, none⟩), .slice (some ⟨b, off, none⟩) n cap, .int .i64 n, .bool false, .bool false, .int .i64 k, .pointer (some ⟨B, 3, none⟩), .slice (some ⟨b, off, none⟩) n cap, .int .i64 n, .bool true, u23, u24, .pointer (some ⟨B, 3, none⟩), .slice (some ⟨b, off, none⟩) n cap, .int .i64 k, .pointer (some ⟨b, off + k * 51, none⟩), .agg C, .bool true, .bool false, .bool false, .int .i64 k, .bool true, .bool true, .pointer (some ⟨B, 3, none⟩), .slice (some ⟨b, off, none⟩) n cap, .int .i64 k, .int .i64 j, .pointer (some ⟨b, off + j * 51, none⟩), .pointer (some ⟨b, off + j * 51 + 0, none⟩), .int .u64 (oat X j).id, .pointer (some ⟨B, 3, none⟩), .slice (some ⟨b, off, none⟩) n cap, .int .i64 k, .pointer (some ⟨b, off + k * 51, none⟩), .pointer (some ⟨b, off + k * 51 + 0, none⟩), .int .u64 (oat X k).id, .bool false, .bool false, .bool false], defers := [] }) (obs := [.test .gtr 3 (.tmp 33) (.const (.int .i64 0)) (.int .i64 k) (.int .i64 0) (.bool true), .load 41 B 3 (.slice (some ⟨b, off, none⟩) n cap), .test .sub 3 (.tmp 38) (.const (.int .i64 1)) (.int .i64 k) (.int .i64 1) (.int .i64 j), .ia 41 (.slice (some ⟨b, off, none⟩) n cap) (.int .i64 j) (.pointer (some ⟨b, off + j * 51, none⟩)), .load 22 b (off + j * 51 + 0) (.int .u64 (oat X j).id), .load 41 B 3 (.slice (some ⟨b, off, none⟩) n cap), .ia 41 (.slice (some ⟨b, off, none⟩) n cap) (.int .i64 k) (.pointer (some ⟨b, off + k * 51, none⟩)), .load 22 b (off + k * 51 + 0) (.int .u64 (oat X k).id), .test .geq 22 (.tmp 42) (.tmp 48) (.int .u64 (oat X j).id) (.int .u64 (oat X k).id) (.bool false)]) (n := 0) (by kernel_rfl) (by kernel_rfl) ⟨ob_yes (fun _ => tgt_int _ _ _ _ _ _) hk0, ob_load1 (fun _ h => h.1) c3 Try.isAgg41, sub_at hj hw, ia_at hjn, ob_cell (j := 0) (fun _ h => h.2.2) hC'.id Try.isAgg22, ob_load1 (fun _ h => h.1) c3 Try.isAgg41, ia_at hkn, ob_cell (j := 0) (fun _ h => h.2.1) hC.id Try.isAgg22, ob_no (fun _ => tge_int _ _ _ _ _ _) hd, trivial⟩ ?_
            refine wpAnyH_done (by kernel_rfl) ?_ _
            have hx1 := hS2.1
            clear hS hS2 hC0
            go_wp2
            go_roundw
            case rel => exact ⟨k + 1, by omega, by go_num, fn_succ hal.out hq.out, hup, hx1, hb2⟩
            case measure => simp [intOf]; omega
          · have hd : Hid ((oat X k).id ≤ (oat X j).id) := by show _ ≤ _; omega
            have hno : Hid (¬ idsB X = true) := by
              refine (?_ : ¬ idsB X = true)
              intro e
              have := ids_iff.1 e j (by rw [hn.out, ← hj.out]; exact hkn)
              rw [← hj.out] at this
              exact hxy this
            refine wpAnyH_sym (by kernel_rfl) (fun _ _ _ _ _ h => h) hS2 [(6, none), (7, none), (8, none), (9, some (.bool true)), (10, none), (11, none), (12, some (.slice (some ⟨b, off, none⟩) n cap)), (13, none), (14, some (.int .i64 j)), (15, some (.pointer (some ⟨b, off + j * 51, none⟩))), (16, none), (17, some (.int .u64 (oat X j).id)), (18, none), (19, some (.slice (some ⟨b, off, none⟩) n cap)), (20, none), (21, some (.pointer (some ⟨b, off + k * 51, none⟩))), (22, none), (23, some (.int .u64 (oat X k).id)), (24, some (.bool true)), (25, none), (26, none)] (l' := #[true, true, true, true, true, true, true, true, true, true, true, true, true, true, true, true, true, true, true, true, true, true, true, true, true, true, true]) (a' := { tmps := #[.agg G, .pointer (some ⟨B, 0, none⟩), u2, .int .i64 k, .pointer (some ⟨B, 0, none⟩), .int .i64 t, .bool false, .bool false, .pointer (some ⟨B, 0, none⟩), .int .i64 t, .bool false, .bool false, .bool false, .pointer (some ⟨B, 3, none⟩), .slice (some ⟨b, off, none⟩) n cap, .int .i64 n, .bool false, .bool false, .int .i64 k, .pointer (some ⟨B, 3, none⟩), .slice (some ⟨b, off, none⟩) n cap, .int .i64 n, .bool true, u23, u24, .pointer (some ⟨B, 3, none⟩), .slice (some ⟨b, off, none⟩) n cap, .int .i64 k, .pointer (some ⟨b, off + k * 51, none⟩), .agg C, .bool true, .bool false, .bool false, .int .i64 k, .bool true, .bool true, .pointer (some ⟨B, 3, none⟩), .slice (some ⟨b, off, none⟩) n cap, .int .i64 k, .int .i64 j, .pointer (some ⟨b, off + j * 51, none⟩), .pointer (some ⟨b, off + j * 51 + 0, none⟩), .int .u64 (oat X j).id, .pointer (some ⟨B, 3, none⟩), .slice (some ⟨b, off, none⟩) n cap, .int .i64 k, .pointer (some ⟨b, off + k * 51, none⟩), .pointer (some ⟨b, off + k * 51 + 0, none⟩), .int .u64 (oat X k).id, .bool true, .bool true, .bool true], defers := [] }) (obs := [.test .gtr 3 (.tmp 33) (.const (.int .i64 0)) (.int .i64 k) (.int .i64 0) (.bool true), .load 41 B 3 (.slice (some ⟨b, off, none⟩) n cap), .test .sub 3 (.tmp 38) (.const (.int .i64 1)) (.int .i64 k) (.int .i64 1) (.int .i64 j), .ia 41 (.slice (some ⟨b, off, none⟩) n cap) (.int .i64 j) (.pointer (some ⟨b, off + j * 51, none⟩)), .load 22 b (off + j * 51 + 0) (.int .u64 (oat X j).id), .load 41 B 3 (.slice (some ⟨b, off, none⟩) n cap), .ia 41 (.slice (some ⟨b, off, none⟩) n cap) (.int .i64 k) (.pointer (some ⟨b, off + k * 51, none⟩)), .load 22 b (off + k * 51 + 0) (.int .u64 (oat X k).id), .test .geq 22 (.tmp 42) (.tmp 48) (.int .u64 (oat X j).id) (.int .u64 (oat X k).id) (.bool true)]) (n := 0) (by kernel_rfl) (by kernel_rfl) ⟨ob_yes (fun _ => tgt_int _ _ _ _ _ _) hk0, ob_load1 (fun _ h => h.1) c3 Try.isAgg41, sub_at hj hw, ia_at hjn, ob_cell (j := 0) (fun _ h => h.2.2) hC'.id Try.isAgg22, ob_load1 (fun _ h => h.1) c3 Try.isAgg41, ia_at hkn, ob_cell (j := 0) (fun _ h => h.2.1) hC.id Try.isAgg22, ob_yes (fun _ => tge_int _ _ _ _ _ _) hd, trivial⟩ ?_
            refine wpAnyH_done (by kernel_rfl) ?_ _
            have hx1 := hS2.1
            clear hS hS2 hC0
            go_wp2
            go_ret
            exact askP_no hno hb2 (fun e => (fitW_iff.1 e).2.2.2.1)
      · intro W2 hq hk2 hS2
        have hb2 := hb1.trans (hk2.mono hb1.size)
        refine wpAnyH_sym (by kernel_rfl) (fun _ _ _ _ _ h => h) hS2 [(6, none), (7, none), (8, none), (9, none), (10, none), (11, none), (12, none), (13, none), (14, none), (15, none), (16, none), (17, none), (18, none), (19, none), (20, none), (21, none), (22, none), (23, none), (24, none), (25, none), (26, none)] (l' := #[true, true, true, true, true, true, true, true, true, true, true, true, true, true, true, true, true, true, true, true, true, true, true, true, true, true, true]) (a' := { tmps := #[.agg G, .pointer (some ⟨B, 0, none⟩), u2, .int .i64 k, .pointer (some ⟨B, 0, none⟩), .int .i64 t, .bool false, .bool false, .pointer (some ⟨B, 0, none⟩), .int .i64 t, .bool false, .bool false, .bool false, .pointer (some ⟨B, 3, none⟩), .slice (some ⟨b, off, none⟩) n cap, .int .i64 n, .bool false, .bool false, .int .i64 k, .pointer (some ⟨B, 3, none⟩), .slice (some ⟨b, off, none⟩) n cap, .int .i64 n, .bool true, u23, u24, .pointer (some ⟨B, 3, none⟩), .slice (some ⟨b, off, none⟩) n cap, .int .i64 k, .pointer (some ⟨b, off + k * 51, none⟩), .agg C, .bool false, .bool true, .bool true, undef, undef, undef, undef, undef, undef, undef, undef, undef, undef, undef, undef, undef, undef, undef, undef, undef, undef, .bool true], defers := [] }) (obs := []) (n := 0) (by kernel_rfl) (by kernel_rfl) trivial ?_
        refine wpAnyH_done (by kernel_rfl) ?_ _
        have hx1 := hS2.1
        clear hS hS2 hC0
        go_wp2
        go_ret
        exact askP_no hq hb2 (fun e => (fitW_iff.1 e).2.2.2.2 k (by rw [hn.out]; exact hkn))
    · obtain rfl : k = n := by omega
      go_wp2_with (first
        | (with_reducible refine wpList_load1 (by kernel_rfl) _ _ rfl B _ rfl _ _ hb _ (by assumption) (by assumption) ?_))
      go_ret
      exact askP_yes (fitW_iff.2 ⟨hes.out.1, hes.out.2.1, by rw [hn.out]; exact hes.out.2.2, ids_iff.2 fun i hi => hri.out i (by rw [hn.out] at hi; exact hi), fun i hi => hal.out i (by rw [hn.out] at hi; exact hi)⟩) hbw
end
end Go.Proofs.Ytfpmkihlfhpgdaa
