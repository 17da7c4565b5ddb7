/-
  PROVED HERE: what Read of package asm returns when it is called: the lines of a text, or where its first line is that is none (a contract over this translation). Texts of at most 65536 bytes.
-/
import Derived.Test.YtnghendglcblkaaGreatDoorAsm15
namespace Go.Proofs.YtnghendglcblkaaGreatDoor
open Go.RowKit Go.Shelf
set_option linter.unusedVariables false
attribute [local go_sem] Oper.semAt_some
open Asm

def xT (T : List ByteArray) (j : Nat) : Ln := lkl (txtT T j)
def okT (T : List ByteArray) (j : Nat) : Bool := decide (lineT (xT T j) = txtT T j)
/-- The lines of a text, where an error is, and which. -/
def rd (s : ByteArray) : List Ln × Nat × Nat := match (List.range (neN (lns s))).find? (fun j => !okT (lns s) j) with
  | none => ((List.range (neN (lns s))).map (xT (lns s)), 0, 0)
  | some j => ([], plcT (lns s) j, 11)
def rdW (s : ByteArray) : List Ln := (rd s).1
def rdK (s : ByteArray) : Nat := (rd s).2.1
def rdE (s : ByteArray) : Nat := (rd s).2.2
theorem rd_ok {s : ByteArray} (h : ∀ j ∈ List.range (neN (lns s)), okT (lns s) j = true) : rdW s = (List.range (neN (lns s))).map (xT (lns s)) ∧ rdK s = 0 ∧ rdE s = 0 := by
  have e : (List.range (neN (lns s))).find? (fun j => !okT (lns s) j) = none := List.find?_eq_none.2 fun j hj => by rw [h j hj]; simp
  unfold rdW rdK rdE rd
  rw [e]
  exact ⟨rfl, rfl, rfl⟩
theorem find_range {p : Nat → Bool} : ∀ {n j : Nat}, j < n → (∀ y, y < j → p y = false) → p j = true → (List.range n).find? p = some j := by
  intro n
  induction n with
  | zero => intro j h; omega
  | succ n ih =>
    intro j hj h0 h1
    rw [List.range_succ, List.find?_append]
    by_cases hn : j < n
    · rw [ih hn h0 h1]; rfl
    · obtain rfl : j = n := by omega
      rw [List.find?_eq_none.2 (fun y hy => by rw [h0 y (List.mem_range.1 hy)]; simp)]
      simp [h1]
theorem rd_bad {s : ByteArray} {j : Nat} (hj : j < neN (lns s)) (h0 : ∀ y ∈ List.range j, okT (lns s) y = true) (h1 : okT (lns s) j = false) : rdW s = [] ∧ rdK s = plcT (lns s) j ∧ rdE s = 11 := by
  have e := find_range (p := fun j => !okT (lns s) j) hj (fun y hy => by rw [h0 y (List.mem_range.2 hy)]; rfl) (by rw [h1]; rfl)
  unfold rdW rdK rdE rd
  rw [e]
  exact ⟨rfl, rfl, rfl⟩
/-- Lines as cells. -/
def lnC (l : List Ln) : List Value := l.flatMap fun x => (lnV x).toList
theorem lnC_len (l : List Ln) : (lnC l).length = l.length * 7 := by
  induction l with
  | nil => rfl
  | cons x l ih => show ((lnV x).toList ++ lnC l).length = _; rw [List.length_append, ih]; show 7 + _ = _; simp; omega
theorem lnC_snoc (l : List Ln) (x : Ln) : lnC (l ++ [x]) = lnC l ++ (lnV x).toList := by unfold lnC; rw [List.flatMap_append]; simp
theorem lnC_at {l : List Ln} : ∀ {i j : Nat} {v : Value}, i < l.length → (lnV (l.getD i default))[j]? = some v → (lnC l)[i * 7 + j]? = some v := by
  induction l with
  | nil => intro i j v hi; simp at hi
  | cons x l ih =>
    intro i j v hi hv
    have hs : (lnV x).toList.length = 7 := rfl
    show ((lnV x).toList ++ lnC l)[i * 7 + j]? = some v
    cases i with
    | zero =>
      have hj : j < 7 := (Array.getElem?_eq_some_iff.1 hv).1
      rw [List.getElem?_append_left (by omega)]
      simpa using hv
    | succ i =>
      rw [List.getElem?_append_right (by omega), hs, show (i + 1) * 7 + j - 7 = i * 7 + j by omega]
      exact ih (by simpa using hi) (by simpa using hv)
theorem lns_of_row {w : World} {v : Value} {C : Nat} {l : List Ln} (h : w.ownsRow C 37 7 v l.length (lnC l)) : ∃ ao cap, v = .slice ao l.length cap ∧ Lns w.heap.size w ao l.length cap l := by
  have hl := h
  rcases h.2 with ⟨rfl, h0⟩ | ⟨g, c, cur, rfl, hb, hg, hkc, hcm, hcs, htk⟩
  · refine ⟨none, 0, by rw [h0], rfl, by omega, ⟨by omega, fun _ => rfl⟩, fun hn => by omega⟩
  · refine ⟨some ⟨g, 0, none⟩, c, rfl, rfl, hkc, ⟨by unfold maxLen at hcm; omega, fun e => by cases e⟩, fun hn => ⟨g, 0, rfl, (Array.getElem?_eq_some_iff.1 hg).1, fun i hi j u hu => ?_⟩⟩
    have := hl.cells (g := g) rfl (i * 7 + j) u (lnC_at hi hu)
    have e : (⟨g, 0, none⟩ : Addr).add (i * 7 + j) = ⟨g, 0 + i * 7 + j, none⟩ := by simp [Addr.add]; omega
    rw [e] at this
    exact this
theorem infoLine : (Tryz.prog.info? 37).map (fun i => (i.zero, i.size, i.bytes)) = some (some (.agg #[.string ⟨#[]⟩, .int .i64 0, .int .i64 0, .int .i64 0, .int .i64 0, .int .i32 0, .string ⟨#[]⟩]), 7, 72) := by kernel_rfl
theorem lns_sizes : ∀ (f : Nat) (r : ByteArray), ∀ t ∈ cutsF f r, t.size ≤ r.size := by
  intro f
  induction f with
  | zero => intro r t ht; cases ht
  | succ f ih =>
    intro r t ht
    unfold cutsF at ht
    split at ht
    · cases ht
    · rename_i he
      have hc := cut_less (r := r) (by simpa using he)
      rcases List.mem_cons.1 ht with rfl | ht
      · omega
      · exact Nat.le_trans (ih _ t ht) (by omega)
theorem txt_size (s : ByteArray) (j : Nat) : (txtT (lns s) j).size ≤ s.size := by
  unfold txtT
  rw [List.getD_eq_getElem?_getD]
  cases h : (lns s)[plcT (lns s) j]? with
  | none => exact Nat.zero_le _
  | some t => exact lns_sizes _ _ t (List.mem_of_getElem? h)
theorem lns_len : ∀ (f : Nat) (r : ByteArray), (cutsF f r).length ≤ f := by
  intro f
  induction f with
  | zero => intro r; exact Nat.le_refl _
  | succ f ih =>
    intro r
    unfold cutsF
    split
    · exact Nat.zero_le _
    · rw [List.length_cons]; have := ih (c2 r nlB); omega
theorem neN_le (s : ByteArray) : neN (lns s) ≤ s.size := Nat.le_trans (neK_le _ _) (lns_len _ _)
theorem plc_le (s : ByteArray) (j : Nat) : plcT (lns s) j ≤ s.size := by
  unfold plcT
  rw [List.getD_eq_getElem?_getD]
  cases h : (neK (lns s) (lns s).length)[j]? with
  | none => exact Nat.zero_le _
  | some x =>
    have hm := List.mem_of_getElem? h
    unfold neK at hm
    have := List.mem_range.1 (List.mem_filter.1 hm).1
    have := lns_len s.size s
    unfold lns at *
    show x ≤ _
    omega
theorem lkl_i (t : ByteArray) : -2147483648 ≤ (lkl t).i ∧ (lkl t).i < 2147483648 := by
  unfold lkl
  split
  · exact ⟨by show -2147483648 ≤ (0 : Int); omega, by show (0 : Int) < _; omega⟩
  · have key : ∀ ls ps x k, (-2147483648 ≤ x.i ∧ x.i < 2147483648) → -2147483648 ≤ (accL ls ps x k).i ∧ (accL ls ps x k).i < 2147483648 := by
      intro ls ps x k h
      induction k with
      | zero => exact h
      | succ k ih =>
        rw [accL_succ]
        unfold stepL
        split
        · exact wPart_i ih _ _
        · exact ih
    exact key _ _ _ _ ⟨by show -2147483648 ≤ (0 : Int); omega, by show (0 : Int) < _; omega⟩
theorem lkl_sizes (t : ByteArray) : (lkl t).mark.size ≤ t.size ∧ (lkl t).to.size ≤ t.size := by
  unfold lkl
  split
  · exact ⟨tS_size _ _, Nat.zero_le _⟩
  · have hp := (spl_facts t).2.2
    have key : ∀ ls x k, (x.mark.size ≤ t.size ∧ x.to.size ≤ t.size) → (accL ls (spl t) x k).mark.size ≤ t.size ∧ (accL ls (spl t) x k).to.size ≤ t.size := by
      intro ls x k h
      induction k with
      | zero => exact h
      | succ k ih =>
        rw [accL_succ]
        unfold stepL
        split
        · rename_i hk
          have h1 := hp _ (getD_mem hk)
          unfold wPart
          split
          · unfold wNum
            split
            · exact ⟨ih.1, Nat.le_trans (c1_size _ _) (Nat.le_trans (tP_size _ _) h1)⟩
            · exact ih
          · repeat' split
            all_goals exact ih
        · exact ih
    exact key _ _ _ ⟨Nat.zero_le _, Nat.zero_le _⟩
theorem cells_new (W : World) (cs : Array Value) (t : TypeId) : ∀ (j : Nat) (u : Value), cs.toList[j]? = some u → (W.alloc (.cells cs t)).cell? ((⟨W.heap.size, 0, none⟩ : Addr).add j) = some u := by
  intro j u hu
  have e : (⟨W.heap.size, 0, none⟩ : Addr).add j = ⟨W.heap.size, j, none⟩ := by simp [Addr.add]; intro h; omega
  rw [e, Lib.cell_of_heap (World.alloc_heap_new W (.cells cs t))]
  simpa using hu
def mT (T : List ByteArray) (pre : List Nat) : List Ln := pre.map (xT T)
theorem mT_snoc (T : List ByteArray) (pre : List Nat) (x : Nat) : mT T (pre ++ [x]) = mT T pre ++ [xT T x] := by simp [mT]
set_option maxRecDepth 100000 in
set_option maxHeartbeats 2000000 in
theorem read_any (s : ByteArray) (hs : s.size ≤ 65536) (w : World) (hv : AVars w) :
    Calls Tryz.prog 5 #[.string s] w fun e w' => Below w.heap.size w w' ∧ ∃ v, e = .returned (.tuple #[v, .int .i64 ((rdK s : Nat) : Int), .int .i64 ((rdE s : Nat) : Int)]) ∧ w'.ownsRow w.heap.size 37 7 v (rdW s).length (lnC (rdW s)) := by
  refine (callsIn_wide (n := 5)).1 ?_
  refine callsIn_of_wp_marks Tryz.func5 rfl trivial ?_ rfl
  simp only [Tryz.ntmps5, List.size_toArray, List.length_cons, List.length_nil, Nat.reduceAdd, Nat.reduceSub, Array.replicate_succ, Array.replicate_zero, List.push_toArray, List.append_toArray, List.nil_append, List.cons_append]
  have hB3 : Below w.heap.size w (((w.alloc (.cells #[.slice none 0 0] 23)).alloc (.cells #[.int .i64 0] 3)).alloc (.cells #[.int .i64 0] 24)) := (((Below.refl _ w).alloc (Nat.le_refl _) _).alloc (by simp) _).alloc (by simp; omega) _
  have bV := ((Boxed.new w 23 (.slice none 0 0)).alloc (.cells #[.int .i64 0] 3)).alloc (.cells #[.int .i64 0] 24)
  have bK := (Boxed.new (w.alloc (.cells #[.slice none 0 0] 23)) 3 (.int .i64 0)).alloc (.cells #[.int .i64 0] 24)
  have bE := Boxed.new ((w.alloc (.cells #[.slice none 0 0] 23)).alloc (.cells #[.int .i64 0] 3)) 24 (.int .i64 0)
  simp only [World.size_alloc] at bV bK bE
  have hsz : (((w.alloc (.cells #[.slice none 0 0] 23)).alloc (.cells #[.int .i64 0] 3)).alloc (.cells #[.int .i64 0] 24)).heap.size = w.heap.size + 3 := by simp
  gi_wp2_with (refine ⟨trivial, ?_⟩; gi_at_call 10)
  obtain ⟨W3, hW3⟩ : ∃ W3, ((w.alloc (.cells #[.slice none 0 0] 23)).alloc (.cells #[.int .i64 0] 3)).alloc (.cells #[.int .i64 0] 24) = W3 := ⟨_, rfl⟩
  rw [hW3] at hB3 bV bK bE hsz ⊢
  clear hW3
  have hop := ops_any W3 (hv.later hB3)
  rw [hsz] at hop
  refine (callsIn_wide.2 hop).mono ?_
  rintro e w1 ⟨rfl, hM, hb1'⟩
  have hb1 : Below W3.heap.size W3 w1 := by rw [hsz]; exact hb1'
  clear hb1' hop
  have hB1 : Below w.heap.size w w1 := hB3.trans (hb1.mono hB3.size)
  have hlt : w.heap.size + 4 ≤ w1.heap.size := hM.lt
  have bV1 := ((Boxed.next bV hb1).alloc (.cells #[.map (some (w.heap.size + 3))] 39)).alloc (.cells #[.slice none 0 0] 23) |>.alloc (.cells #[.string s] 9)
  have bK1 := ((Boxed.next bK hb1).alloc (.cells #[.map (some (w.heap.size + 3))] 39)).alloc (.cells #[.slice none 0 0] 23) |>.alloc (.cells #[.string s] 9)
  have bE1 := ((Boxed.next bE hb1).alloc (.cells #[.map (some (w.heap.size + 3))] 39)).alloc (.cells #[.slice none 0 0] 23) |>.alloc (.cells #[.string s] 9)
  have bO1 := ((Boxed.new w1 39 (.map (some (w.heap.size + 3)))).alloc (.cells #[.slice none 0 0] 23)).alloc (.cells #[.string s] 9)
  have bL1 := (Boxed.new (w1.alloc (.cells #[.map (some (w.heap.size + 3))] 39)) 23 (.slice none 0 0)).alloc (.cells #[.string s] 9)
  have bS1 := Boxed.new ((w1.alloc (.cells #[.map (some (w.heap.size + 3))] 39)).alloc (.cells #[.slice none 0 0] 23)) 9 (.string s)
  have hM0 : MapAt (((w1.alloc (.cells #[.map (some (w.heap.size + 3))] 39)).alloc (.cells #[.slice none 0 0] 23)).alloc (.cells #[.string s] 9)) (w.heap.size + 3) (opsL 26) := hM.next ((((Below.refl _ w1).alloc (Nat.le_refl _) _).alloc (by simp) _).alloc (by simp; omega) _)
  have hB0 : Below w.heap.size w (((w1.alloc (.cells #[.map (some (w.heap.size + 3))] 39)).alloc (.cells #[.slice none 0 0] 23)).alloc (.cells #[.string s] 9)) := ((hB1.alloc hB1.size _).alloc (by simp; omega) _).alloc (by simp; omega) _
  obtain ⟨G, hG⟩ : ∃ G, w1.heap.size = G := ⟨_, rfl⟩
  have hs0 : (((w1.alloc (.cells #[.map (some (w.heap.size + 3))] 39)).alloc (.cells #[.slice none 0 0] 23)).alloc (.cells #[.string s] 9)).heap.size = G + 3 := by simp [hG]
  simp only [World.size_alloc] at bO1 bL1 bS1
  gi_wp2_with (refine ⟨trivial, ?_⟩; gi_at_call 11; refine (callsIn_wide.2 (lines_any _ _)).mono ?_; rintro e w2 ⟨rfl, rfl⟩)
  obtain ⟨W0, hW0⟩ : ∃ W0, ((w1.alloc (.cells #[.map (some (w.heap.size + 3))] 39)).alloc (.cells #[.slice none 0 0] 23)).alloc (.cells #[.string s] 9) = W0 := ⟨_, rfl⟩
  rw [hW0] at bV1 bK1 bE1 bO1 bL1 bS1 hM0 hB0 hs0
  rw [hW0]
  rw [hG] at bO1 bL1 bS1 hlt
  clear hW0 bV bK bE hM hb1 hB1 hG hB3 hsz
  have hMx0 : Mx W0 := (hv.later hB0).maxLen
  have hst := lines_stops 4 (by omega) (G + 1 + 1) s hs W0 hMx0 bS1
  have hrk : Hid (∀ ys, (∀ j ∈ List.range (neN (lns s)), okT (lns s) j = true) → ys = List.range (neN (lns s)) → rdW s = ys.map (xT (lns s)) ∧ rdK s = 0 ∧ rdE s = 0) := fun ys h e => by rw [e]; exact rd_ok h
  have hrb : Hid (∀ j, j < neN (lns s) → (∀ y ∈ List.range j, okT (lns s) y = true) → okT (lns s) j = false → rdW s = [] ∧ rdK s = plcT (lns s) j ∧ rdE s = 11) := fun j h1 h2 h3 => rd_bad h1 h2 h3
  have hts := txt_size s
  have hps := plc_le s
  have hnn := neN_le s
  revert hst hrk hrb hts hps hnn
  generalize lns s = T
  intro hst hrk hrb hts hps hnn
  refine wpIn_rangeFunc_ownH rfl (by omega) (gf := 24) (lb := #[.pointer (some ⟨G + 1 + 1, 0, none⟩)]) rfl trivial (enters_of Tryz.func24 (by kernel_rfl) rfl)
    hst keepsK_t (keepsK_b (fun b hb => by have h1 := World.block_lt_of_cell? _ _ hMx0.choose_spec; rcases hb with rfl | rfl <;> first | omega | exact h1)) (Below.refl _ _) (fun _ => rfl)
    (fun (pre : List Nat) W => ((∃ v, Boxed W (G + 1) 23 v ∧ W.ownsRow (G + 3) 37 7 v (mT T pre).length (lnC (mT T pre)) ∧ True) ∧ (∀ x ∈ pre, okT T x = true)) ∧ Below (G + 1) W0 W)
    (fun cd (pre : List Nat) W => (((cd = .ret ∧ pre ≠ [] ∧ (∀ x ∈ pre.dropLast, okT T x = true) ∧ okT T (lastX pre) = false) ∧ Boxed W w.heap.size 23 (.slice none 0 0)) ∧ (Boxed W (w.heap.size + 1) 3 (.int .i64 ((plcT T (lastX pre) : Nat) : Int)) ∧ Boxed W (w.heap.size + 1 + 1) 24 (.int .i64 11))) ∧ Below w.heap.size w W)
    (OwnFrom.and (OwnFrom.and (Own.from (holdsRow_own (G + 3) (G + 1) 23 37 7 (fun pre => (mT T pre).length) (fun pre => lnC (mT T pre)) (fun _ _ => True)) _) (ownFrom_pure _ _)) (ownFrom_below (by omega) (by omega)))
    (fun cd => OwnFrom.and (OwnFrom.and (OwnFrom.and (ownFrom_pure _ _) (Own.from (boxed_own _ _ _) _)) (OwnFrom.and (Own.from (boxed_own _ _ _) _) (Own.from (boxed_own _ _ _) _))) (ownFrom_below (Nat.le_refl _) (by omega)))
    ⟨⟨⟨_, bL1, ⟨rfl, .inl ⟨rfl, rfl⟩⟩, trivial⟩, by simp⟩, Below.refl _ _⟩
    (fun x a' W => a' = { tmps := #[.string s, undef, .pointer (some ⟨w.heap.size, 0, none⟩), .pointer (some ⟨w.heap.size + 1, 0, none⟩), .pointer (some ⟨w.heap.size + 1 + 1, 0, none⟩), .pointer (some ⟨G, 0, none⟩), .pointer (some ⟨G + 1, 0, none⟩), .int .i64 ((plcT T x : Nat) : Int), .string (txtT T x), undef, .map (some (w.heap.size + 3)), .string s, .func (.func 24) #[] #[.pointer (some ⟨G + 1 + 1, 0, none⟩)], .int .i64 ((plcT T x : Nat) : Int), .string (txtT T x), undef, undef, undef, undef, undef, undef, undef, undef, undef, undef, undef, undef, undef], defers := [] })
    (fun x a' _ X Y row hs hg hr => hs)
    ?assign ?body ?done ?stop
  case assign =>
    rintro yl pre x W K hI hK
    dsimp only [encT]
    gi_wp2
    exact hK _ _ (KeepsFrom.refl _ _) (Keeps.refl _ _) hI rfl
  case body =>
    rintro yl pre x a' X hl ⟨r, hr⟩ ⟨⟨⟨v, bL2, hrow, _⟩, hz⟩, hBX⟩ rfl hlt2
    obtain ⟨i0, hi, hz0, hz1, hz2⟩ := info_parts infoLine
    have hXs : G + 3 ≤ X.heap.size := by have := hBX.size; omega
    have hBw : Below w.heap.size w X := hB0.trans (hBX.mono (by omega))
    have bOX : Boxed X G 39 (.map (some (w.heap.size + 3))) := (hBX.block _ (by omega)).trans bO1
    have bVX : Boxed X w.heap.size 23 (.slice none 0 0) := (hBX.block _ (by omega)).trans bV1
    have bKX : Boxed X (w.heap.size + 1) 3 (.int .i64 0) := (hBX.block _ (by omega)).trans bK1
    have bEX : Boxed X (w.heap.size + 1 + 1) 24 (.int .i64 0) := (hBX.block _ (by omega)).trans bE1
    have hMX : MapAt X (w.heap.size + 3) (opsL 26) := (hBX.block _ (by omega)).trans hM0
    have hVX := hv.later hBw
    have hlen3 : (mT T pre).length ≤ 65536 := by unfold mT; rw [List.length_map]; omega
    have htx := hts x
    have HX : Hid (xT T x = lkl (txtT T x)) := rfl
    have HO : Hid (okT T x = decide (lineT (lkl (txtT T x)) = txtT T x)) := rfl
    have hlk := likely_any (txtT T x) (by omega) (w.heap.size + 3) X hMX hVX
    have hsz := lkl_sizes (txtT T x)
    have hlI := lkl_i (txtT T x)
    have HP : Hid (plcT T (lastX (pre ++ [x])) = plcT T x) := by show _ = _; rw [lastX_snoc]
    have HQ : Hid (okT T (lastX (pre ++ [x])) = okT T x) := by show _ = _; rw [lastX_snoc]
    have hpx := hps x
    obtain ⟨txt, ht⟩ : ∃ txt, txtT T x = txt := ⟨_, rfl⟩
    obtain ⟨pl, hpl⟩ : ∃ pl, plcT T x = pl := ⟨_, rfl⟩
    rw [ht] at htx HX HO hlk hsz hlI ⊢
    rw [hpl] at HP hpx ⊢
    clear ht hpl
    have hto := fun W hV => textOf_any (lkl txt) hlI.1 hlI.2 (by omega) (by omega) W hV
    have hq := list_beq (lineT (lkl txt)) txt
    obtain ⟨y, hy⟩ : ∃ y, lkl txt = y := ⟨_, rfl⟩
    simp only [hy] at hlk hto hq
    rw [hy] at HX HO
    clear hy hsz hlI
    obtain ⟨m, op, a, b, c, i, tt⟩ := y
    unfold lnV at hlk hto
    dsimp only at hlk hto
    obtain ⟨lt, hlt'⟩ : ∃ lt, lineT ⟨m, op, a, b, c, i, tt⟩ = lt := ⟨_, rfl⟩
    simp only [hlt'] at hto
    rw [hlt'] at HO hq
    clear hlt'
    have cO := bOX.cell
    by_cases hE : lt = txt
    · rw [decide_eq_true hE] at hq
      have hok : Hid (okT T x = true) := by show _ = _; rw [HO.out]; exact decide_eq_true hE
      clear hE HO HQ HP
      gi_wp2_with (first | (refine ⟨trivial, ?_⟩; gi_at_call 12; refine (CallsIn.inRound yl (callsIn_wide.2 hlk)).mono ?_; rintro e w3 ⟨rfl, hb3⟩; have hb3a : Below X.heap.size X (w3.alloc (.cells #[.string m, .int .i64 op, .int .i64 a, .int .i64 b, .int .i64 c, .int .i32 i, .string tt] 37)) := hb3.alloc hb3.size _; have hL3 := Lb.new w3 m op a b c i tt) | (refine ⟨trivial, ?_⟩; gi_at_call 13; refine (CallsIn.inRound yl (callsIn_wide.2 (hto _ (hVX.later hb3a).1))).mono ?_; rintro e w4 ⟨rfl, hb4⟩; have hb4a : Below X.heap.size X w4 := hb3a.trans (hb4.mono hb3a.size); have hL4 := hL3.next hb4; obtain ⟨d0, d1, d2, d3, d4, d5, d6⟩ := hL4.cells; have bL4 := Boxed.next bL2 hb4a; have cL4 := bL4.cell; have hrow4 := row_next hrow hb4a) | (gi_at_builtin; refine wpListIn_append_own _ rfl _ _ 23 rfl (G + 3) 37 i0 (.agg #[.string ⟨#[]⟩, .int .i64 0, .int .i64 0, .int .i64 0, .int .i64 0, .int .i32 0, .string ⟨#[]⟩]) 7 72 Tryz.underlying23 hi hz0 hz1 hz2 rfl (by decide) _ _ _ rfl (hrow4.alloc _) ⟨w4.heap.size, 0, none⟩ 1 1 [.string m, .int .i64 op, .int .i64 a, .int .i64 b, .int .i64 c, .int .i32 i, .string tt] rfl rfl (cells_new _ _ _) (by simp [Value.oneCell']) (by unfold maxLen; omega) (by omega) (by have := hb4a.size; simp; omega) ?_; intro v' w5 hown5 hgrow5 _; obtain ⟨g', cap', rfl⟩ := row_slice hown5; obtain ⟨q1, q2, q3, q4, q5, q6, q7⟩ := app_back (s := G + 1) bL4 (by decide) hrow4 (by have := hb4a.size; omega) (by omega) (Nat.le_refl _) hown5 hgrow5; have cq := q1.cell; have fq := q1.frozen))
      have hko : KeepsOthers X w4 := ⟨hb4a.size, fun k o hk _ => (hb4a.block k (Array.getElem?_eq_some_iff.1 hk).1).trans hk⟩
      have hm0 := World.block_lt_of_cell? _ _ hMx0.choose_spec
      refine ⟨(hko.trans q4).from _, ⟨(hko.trans q4).walks, fun k hk => ?_⟩, ⟨⟨_, q2, ?_, trivial⟩, ?_⟩, ?_⟩
      · have hm1 : 0 < w.heap.size := World.block_lt_of_cell? _ _ hv.maxLen.choose_spec
        have hk1 : k < X.heap.size ∧ k < G + 3 ∧ k ≠ G + 1 := by rcases hk with rfl | rfl <;> omega
        rw [q7 k (by have := hb4a.size; omega) hk1.2.1 hk1.2.2]; exact hb4a.block k hk1.1
      · rw [mT_snoc, lnC_snoc, HX.out]; simpa [lnV] using q3
      · intro z hz'; rcases List.mem_append.1 hz' with hz' | hz'
        · exact hz z hz'
        · rw [List.mem_singleton.1 hz']; exact hok.out
      · exact hBX.trans ((hb4a.mono (by omega)).trans q5)
    · rw [decide_eq_false hE] at hq
      have hok : Hid (okT T (lastX (pre ++ [x])) = false) := by show _ = _; rw [HQ.out, HO.out]; exact decide_eq_false hE
      clear hE HO HQ
      gi_wp2_with (first | (refine ⟨trivial, ?_⟩; gi_at_call 12; refine (CallsIn.inRound yl (callsIn_wide.2 hlk)).mono ?_; rintro e w3 ⟨rfl, hb3⟩; have hb3a : Below X.heap.size X (w3.alloc (.cells #[.string m, .int .i64 op, .int .i64 a, .int .i64 b, .int .i64 c, .int .i32 i, .string tt] 37)) := hb3.alloc hb3.size _; have hL3 := Lb.new w3 m op a b c i tt) | (refine ⟨trivial, ?_⟩; gi_at_call 13; refine (CallsIn.inRound yl (callsIn_wide.2 (hto _ (hVX.later hb3a).1))).mono ?_; rintro e w4 ⟨rfl, hb4⟩; have hb4a : Below X.heap.size X w4 := hb3a.trans (hb4.mono hb3a.size); have bV4 := Boxed.next bVX hb4a; have bK4 := (Boxed.next bKX hb4a).other (B' := w.heap.size) (by omega) (.slice none 0 0); have bE4 := ((Boxed.next bEX hb4a).other (B' := w.heap.size) (by omega) (.slice none 0 0)).other (B' := w.heap.size + 1) (by omega) (.int .i64 (pl : Int)); have cV := bV4.cell; have cK := bK4.cell; have cE := bE4.cell; have fV := bV4.frozen; have fK := bK4.frozen; have fE := bE4.frozen))
      have gV := ((bV4.set (.slice none 0 0)).other (B' := w.heap.size + 1) (by omega) (.int .i64 (pl : Int))).other (B' := w.heap.size + 1 + 1) (by omega) (.int .i64 11)
      have gK := (bK4.set (.int .i64 (pl : Int))).other (B' := w.heap.size + 1 + 1) (by omega) (.int .i64 11)
      have gE := bE4.set (.int .i64 11)
      have hko : KeepsOthers X w4 := ⟨hb4a.size, fun k o hk _ => (hb4a.block k (Array.getElem?_eq_some_iff.1 hk).1).trans hk⟩
      have hBc := hBw.trans (hb4a.mono hBw.size)
      exact ⟨(((hko.trans (KeepsOthers.setCell _ _ _)).trans (KeepsOthers.setCell _ _ _)).trans (KeepsOthers.setCell _ _ _)).from _, ⟨⟨⟨rfl, by simp, by rw [List.dropLast_concat]; exact hz, hok.out⟩, gV⟩, by rw [HP.out]; exact gK, gE⟩, ((hBc.setCell (p := ⟨w.heap.size, 0, none⟩) (Nat.le_refl _) _).setCell (p := ⟨w.heap.size + 1, 0, none⟩) (by show _ ≤ w.heap.size + 1; omega) _).setCell (p := ⟨w.heap.size + 1 + 1, 0, none⟩) (by show _ ≤ w.heap.size + 1 + 1; omega) _⟩
  case done =>
    rintro D ys W hD rfl ⟨⟨⟨v, bL2, hrow, _⟩, hz⟩, hBX⟩ hK
    obtain ⟨aw, cw, rfl⟩ := row_slice hrow
    have hr : Hid (rdW s = mT T (List.range (neN T)) ∧ rdK s = 0 ∧ rdE s = 0) := hrk.out _ hz rfl
    have hBw : Below w.heap.size w W := hB0.trans (hBX.mono (by omega))
    have bV4 : Boxed W w.heap.size 23 (.slice none 0 0) := (hBX.block _ (by omega)).trans bV1
    have bK4 : Boxed (W.setCell ⟨w.heap.size, 0, none⟩ (.slice aw (mT T (List.range (neN T))).length cw)) (w.heap.size + 1) 3 (.int .i64 0) := Boxed.other ((hBX.block _ (by omega)).trans bK1) (by omega) _
    have bE4 : Boxed ((W.setCell ⟨w.heap.size, 0, none⟩ (.slice aw (mT T (List.range (neN T))).length cw)).setCell ⟨w.heap.size + 1, 0, none⟩ (.int .i64 0)) (w.heap.size + 1 + 1) 24 (.int .i64 0) := Boxed.other (Boxed.other ((hBX.block _ (by omega)).trans bE1) (by omega) _) (by omega) _
    have cL := bL2.cell
    have cV := bV4.cell
    have cK := bK4.cell
    have cE := bE4.cell
    have fV := bV4.frozen
    have fK := bK4.frozen
    have fE := bE4.frozen
    gi_wp2
    have gV := ((bV4.set (.slice aw (mT T (List.range (neN T))).length cw)).other (B' := w.heap.size + 1) (by omega) (.int .i64 0)).other (B' := w.heap.size + 1 + 1) (by omega) (.int .i64 0)
    have gK := (bK4.set (.int .i64 0)).other (B' := w.heap.size + 1 + 1) (by omega) (.int .i64 0)
    have gE := bE4.set (.int .i64 0)
    have hrow1 := ((hrow.kept (grownBy_setCell' W w.heap.size (.slice aw (mT T (List.range (neN T))).length cw)) (.inr (fun e => by have := (hrow.lt _ e).1; omega))).kept (grownBy_setCell' _ (w.heap.size + 1) (.int .i64 0)) (.inr (fun e => by have := (hrow.lt _ e).1; omega))).kept (grownBy_setCell' _ (w.heap.size + 1 + 1) (.int .i64 0)) (.inr (fun e => by have := (hrow.lt _ e).1; omega))
    have hBf := ((hBw.setCell (p := ⟨w.heap.size, 0, none⟩) (Nat.le_refl _) (.slice aw (mT T (List.range (neN T))).length cw)).setCell (p := ⟨w.heap.size + 1, 0, none⟩) (by show _ ≤ w.heap.size + 1; omega) (.int .i64 0)).setCell (p := ⟨w.heap.size + 1 + 1, 0, none⟩) (by show _ ≤ w.heap.size + 1 + 1; omega) (.int .i64 0)
    have hK' := (((KeepsOthers.setCell W ⟨w.heap.size, 0, none⟩ (.slice aw (mT T (List.range (neN T))).length cw)).trans (KeepsOthers.setCell _ ⟨w.heap.size + 1, 0, none⟩ (.int .i64 0))).trans (KeepsOthers.setCell _ ⟨w.heap.size + 1 + 1, 0, none⟩ (.int .i64 0))).same D _ hK rfl
    refine ⟨by simp, .inl ⟨_, _, rfl, run_takeDeferred hK', ?_⟩⟩
    have kV := cell_kept gV.cell (grownBy_putObj' _ D (.deferred none)) (fun r e => by cases e; exact ⟨_, hK', rfl⟩)
    have kK := cell_kept gK.cell (grownBy_putObj' _ D (.deferred none)) (fun r e => by cases e; exact ⟨_, hK', rfl⟩)
    have kE := cell_kept gE.cell (grownBy_putObj' _ D (.deferred none)) (fun r e => by cases e; exact ⟨_, hK', rfl⟩)
    refine ⟨.tuple #[(.slice aw (mT T (List.range (neN T))).length cw), .int .i64 0, .int .i64 0], ?_, hBf.trans (belowK_b (w := w) (Nat.le_refl _) _ D _ _ (by omega) hK' rfl rfl), (.slice aw (mT T (List.range (neN T))).length cw), by rw [hr.out.2.1, hr.out.2.2]; rfl, ?_⟩
    · simp [results, Tryz.f5, go_sem, kV, kK, kE]
    · rw [hr.out.1]
      exact ownsRow_base (by omega) (hrow1.kept (grownBy_putObj' _ D (.deferred none)) (.inr (row_other hrow1 hK' rfl)))
  case stop =>
    rintro D cd pre W hD hpre ⟨⟨⟨⟨rfl, hne, hz, hx⟩, bV2⟩, bK2, bE2⟩, hBX⟩ hK
    obtain ⟨j, hj, rfl⟩ : ∃ j, j < neN T ∧ pre = List.range (j + 1) := by
      have h1 := List.prefix_iff_eq_take.1 hpre
      have h2 : pre.length ≤ neN T := by have := hpre.length_le; rwa [List.length_range] at this
      have h3 : 0 < pre.length := List.length_pos_iff.2 hne
      refine ⟨pre.length - 1, by omega, ?_⟩
      rw [show pre.length - 1 + 1 = pre.length by omega]
      rw [h1]
      simp [List.take_range]
    rw [List.range_succ, List.dropLast_concat] at hz
    rw [List.range_succ, lastX_snoc] at hx bK2
    have hr : Hid (rdW s = [] ∧ rdK s = plcT T j ∧ rdE s = 11) := hrb.out j hj hz hx
    gi_wp2
    refine ⟨by simp, .inl ⟨_, _, rfl, run_takeDeferred hK, ?_⟩⟩
    have kV := cell_kept bV2.cell (grownBy_putObj' _ D (.deferred none)) (fun r e => by cases e; exact ⟨_, hK, rfl⟩)
    have kK := cell_kept bK2.cell (grownBy_putObj' _ D (.deferred none)) (fun r e => by cases e; exact ⟨_, hK, rfl⟩)
    have kE := cell_kept bE2.cell (grownBy_putObj' _ D (.deferred none)) (fun r e => by cases e; exact ⟨_, hK, rfl⟩)
    refine ⟨.tuple #[.slice none 0 0, .int .i64 ((plcT T j : Nat) : Int), .int .i64 11], ?_, hBX.trans (belowK_b (w := w) (Nat.le_refl _) W D _ _ (by omega) hK rfl rfl), .slice none 0 0, by rw [hr.out.2.1, hr.out.2.2]; rfl, ?_⟩
    · simp [results, Tryz.f5, go_sem, kV, kK, kE]
    · rw [hr.out.1]; exact ⟨rfl, .inl ⟨rfl, rfl⟩⟩
end Go.Proofs.YtnghendglcblkaaGreatDoor
