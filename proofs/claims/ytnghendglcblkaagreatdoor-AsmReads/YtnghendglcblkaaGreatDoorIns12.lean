/-
  PROVED HERE: what inst.Text returns when it is called (a contract over this translation). Condition: the library's table of powers of ten is as the program's text lays it.
-/
import Derived.Test.YtnghendglcblkaaGreatDoorIns11
namespace Go.Proofs.YtnghendglcblkaaGreatDoor
open Go.RowKit Go.Shelf
set_option linter.unusedVariables false
attribute [local go_sem] Oper.semAt_some

/-- A text with one part more. -/
def stepT (ls : List UInt8) (a b c i : Int) (s : ByteArray) (k : Nat) : ByteArray := s ++ (⟨#[32]⟩ ++ tldS (ltr ls k) (prt a b c i (ltr ls k)))
def accT (ls : List UInt8) (op a b c i : Int) (pre : List Nat) : ByteArray := pre.foldl (stepT ls a b c i) (nmS op)
def txS (op a b c i : Int) : ByteArray := if Ins.fitB op a b c i then accT (Ins.shp op) op a b c i (List.range (Ins.shp op).length) else ⟨#[]⟩
theorem accT_snoc (ls : List UInt8) (op a b c i : Int) (pre : List Nat) (x : Nat) : accT ls op a b c i (pre ++ [x]) = stepT ls a b c i (accT ls op a b c i pre) x := by simp [accT]
def I64 (v : Int) : Prop := -9223372036854775808 ≤ v ∧ v ≤ 9223372036854775807
theorem prt_64 {a b c i : Int} (ha : I64 a) (hb : I64 b) (hc : I64 c) (hi : I64 i) (l : Int) : I64 (prt a b c i l) := by
  unfold prt
  repeat' split
  all_goals assumption
theorem accT_size {a b c i : Int} (ha : I64 a) (hb : I64 b) (hc : I64 c) (hi : I64 i) (ls : List UInt8) (op : Int) (pre : List Nat) : (accT ls op a b c i pre).size ≤ 5 + 23 * pre.length := by
  unfold accT
  have h : ∀ (l : List Nat) (s : ByteArray), (l.foldl (stepT ls a b c i) s).size ≤ s.size + 23 * l.length := by
    intro l
    induction l with
    | nil => intro s; simp
    | cons x l ih =>
      intro s
      have h1 := ih (stepT ls a b c i s x)
      have h2 : (stepT ls a b c i s x).size ≤ s.size + 23 := by
        have h3 := prt_64 ha hb hc hi (ltr ls x)
        have h4 := tldS_size (ltr ls x) h3.1 h3.2
        unfold stepT
        rw [ByteArray.size_append, ByteArray.size_append, show (ByteArray.mk #[32]).size = 1 from rfl]
        omega
      simp only [List.foldl_cons, List.length_cons]
      omega
  have := h pre (nmS op)
  have := nmS_size op
  omega
theorem cell_set_ne {W : World} {b g i j : Nat} {x : Value} (h : b ≠ g) : (W.setCell ⟨g, i, none⟩ x).cell? ⟨b, j, none⟩ = W.cell? ⟨b, j, none⟩ := World.cell?_of_block (a := ⟨b, j, none⟩) (Below.heap_setCell _ _ _ _ h)
theorem fin_T {w W w1 : World} {H N M : Nat} {pre : List Nat} {f : List Nat → ByteArray} {y z : ByteArray} (hB : Below w.heap.size w W) (hb : Below W.heap.size W w1) (b : Boxed W H 9 (.string y)) (hH : w.heap.size ≤ H) (hM : H < M) (hN : M + 1 < W.heap.size) (e : f pre = z) :
    KeepsFrom N W (w1.setCell ⟨H, 0, none⟩ (.string z)) ∧ Keeps (fun b => b = M + 1 ∨ b = M) W (w1.setCell ⟨H, 0, none⟩ (.string z)) ∧ (Boxed (w1.setCell ⟨H, 0, none⟩ (.string z)) H 9 (.string (f pre)) ∧ Below w.heap.size w (w1.setCell ⟨H, 0, none⟩ (.string z))) ∧ M + 2 ≤ (w1.setCell ⟨H, 0, none⟩ (.string z)).heap.size := by
  have k1 : KeepsOthers W w1 := KeepsOthers.of_grownBy (below_grown hb) (fun j o e => by cases e)
  refine ⟨(k1.trans (KeepsOthers.setCell _ _ _)).from _, ⟨(k1.trans (KeepsOthers.setCell _ _ _)).walks, fun j hj => ?_⟩, ⟨by rw [e]; exact (Boxed.next b hb).set _, (hB.trans (hb.mono hB.size)).setCell (p := ⟨H, 0, none⟩) hH _⟩, by have := hb.size; simp; omega⟩
  exact (Below.heap_setCell _ _ _ _ (by show j ≠ H; omega)).trans (hb.block j (by omega))

set_option maxRecDepth 100000 in
set_option maxHeartbeats 2000000 in
theorem text_any (op a b c i : Int) (hi0 : -2147483648 ≤ i) (hi1 : i < 2147483648) (w : World) (hv : Vars w) :
    Calls Tryz.prog 20 #[.agg #[.int .i64 op, .int .i64 a, .int .i64 b, .int .i64 c, .int .i32 i]] w fun e w' => e = .returned (.string (txS op a b c i)) ∧ Below w.heap.size w w' := by
  refine (callsIn_wide (n := 5)).1 ?_
  refine callsIn_of_wp_marks Tryz.func20 rfl trivial ?_ rfl
  simp only [Tryz.ntmps20, List.size_toArray, List.length_cons, List.length_nil, Nat.reduceAdd, Nat.reduceSub, Array.replicate_succ, Array.replicate_zero, List.push_toArray, List.append_toArray, List.nil_append, List.cons_append]
  have bI := Ib.new w op a b c i
  cases hop : Ins.fitB op a b c i with
  | false =>
    have hr : Hid (txS op a b c i = ⟨#[]⟩) := by show _ = _; unfold txS; rw [hop]; rfl
    gi_wp2_with (refine ⟨trivial, ?_⟩; gi_at_call 43; refine (callsIn_wide.2 (fit_any _ _ _ _ _ hi0 hi1 _)).mono ?_; rintro e w' ⟨rfl, hb⟩)
    refine ⟨.string ⟨#[]⟩, ?_, by rw [hr.out], ((Below.refl _ w).alloc (Nat.le_refl _) _).trans (hb.mono (by simp))⟩
    simp [results, Tryz.f20, go_sem]
  | true =>
    obtain ⟨⟨o0, o1⟩, ⟨a0, a1⟩, ⟨b0, b1⟩, c0, c1⟩ := Ins.fit_bounds hop
    have HA : Hid (I64 a) := ⟨by omega, by omega⟩
    have HB : Hid (I64 b) := ⟨by omega, by omega⟩
    have HC : Hid (I64 c) := ⟨by omega, by omega⟩
    have HI : Hid (I64 i) := ⟨by omega, by omega⟩
    have hr : Hid (txS op a b c i = accT (Ins.shp op) op a b c i (List.range (Ins.shp op).length)) := by show _ = _; unfold txS; rw [hop]; rfl
    have hshl : (Ins.shp op).length ≤ 3 := by rcases Ins.shp_cases op with h | h | h | h | h | h | h <;> rw [h] <;> decide
    clear a0 a1 b0 b1 c0 c1
    obtain ⟨k, rfl⟩ := Int.eq_ofNat_of_zero_le o0
    have hk : k < 26 := by omega
    gi_wp2_with (refine ⟨trivial, ?_⟩; gi_at_call 43; refine (callsIn_wide.2 (fit_any _ _ _ _ _ hi0 hi1 _)).mono ?_; rintro e w' ⟨rfl, hb⟩)
    have bI3 := bI.next hb
    have hB1 : Below w.heap.size w w' := (((Below.refl _ w).alloc (Nat.le_refl _) _).trans (hb.mono (by simp)))
    have hlt : w.heap.size < w'.heap.size := by have := hb.size; simp at this; omega
    have hix := names_index k hk
    have hne : w.heap.size ≠ w'.heap.size := by omega
    clear hb bI hop
    rename_i K hK
    have rest : ∀ (W1 : World) (H N : Nat), Ib W1 w.heap.size (k : Int) a b c i → Boxed W1 H 9 (.string (nmS (k : Int))) → Below w.heap.size w W1 → w.heap.size < H → W1.heap.size = N → K { tmps := #[.agg #[.int .i64 (k : Int), .int .i64 a, .int .i64 b, .int .i64 c, .int .i32 i], .pointer (some ⟨w.heap.size, 0, none⟩), .string ⟨#[]⟩, .pointer (some ⟨H, 0, none⟩), undef, undef, .agg #[.int .i64 (k : Int), .int .i64 a, .int .i64 b, .int .i64 c, .int .i32 i], .bool true, .bool false, .agg namesA, .pointer (some ⟨w.heap.size, 0, none⟩), .int .i64 (k : Int), .string (nmS (k : Int)), undef, undef, undef, undef, undef, undef, undef, undef, undef, undef, undef, undef, undef, undef], defers := [] } W1 := by
      intro W1 H N bI4 bT hB4 hH hN
      refine hK _ _ ?_
      clear hK K
      have hHN : H < N := by rw [← hN]; exact bT.lt
      obtain ⟨c0, c1, c2, c3, c4⟩ := bI4.cells
      gi_wp2
      refine wpIn_wide.2 ?_
      refine wp_region_noPanic ?_
      go_region_held3 (fun W => W.cell? ⟨w.heap.size, 0, none⟩ = some (.int .i64 (k : Int)) ∧ W.cell? ⟨w.heap.size, 1, none⟩ = some (.int .i64 a) ∧ W.cell? ⟨w.heap.size, 2, none⟩ = some (.int .i64 b) ∧ W.cell? ⟨w.heap.size, 3, none⟩ = some (.int .i64 c) ∧ W.cell? ⟨w.heap.size, 4, none⟩ = some (.int .i32 i)) (go_keep) (first | (go_at_call 27; refine (shape_any _ _).mono ?_; rintro e w2 ⟨rfl, rfl⟩) | (go_at_call 44; refine (parts_any _ _ _ _ _ _ _).mono ?_; rintro e w2 ⟨rfl, rfl⟩))
      refine NoPanic.normal ?_
      have bW0 := (bT.alloc (.cells #[.int .i64 (k : Int), .int .i64 a, .int .i64 b, .int .i64 c, .int .i32 i] 35)).alloc (.cells #[.string (Ins.shS (k : Int))] 9)
      have bI0 := (Ib.new W1 (k : Int) a b c i).alloc (.cells #[.string (Ins.shS (k : Int))] 9)
      have bL0 := Boxed.new (W1.alloc (.cells #[.int .i64 (k : Int), .int .i64 a, .int .i64 b, .int .i64 c, .int .i32 i] 35)) 9 (.string (Ins.shS (k : Int)))
      simp only [World.size_alloc, hN] at bI0 bL0
      have bW1 : Boxed (((W1.alloc (.cells #[.int .i64 (k : Int), .int .i64 a, .int .i64 b, .int .i64 c, .int .i32 i] 35)).alloc (.cells #[.string (Ins.shS (k : Int))] 9)).drew) H 9 (.string (nmS (k : Int))) := bW0
      have bI1 : Ib (((W1.alloc (.cells #[.int .i64 (k : Int), .int .i64 a, .int .i64 b, .int .i64 c, .int .i32 i] 35)).alloc (.cells #[.string (Ins.shS (k : Int))] 9)).drew) N (k : Int) a b c i := bI0
      have bL1 : Boxed (((W1.alloc (.cells #[.int .i64 (k : Int), .int .i64 a, .int .i64 b, .int .i64 c, .int .i32 i] 35)).alloc (.cells #[.string (Ins.shS (k : Int))] 9)).drew) (N + 1) 9 (.string (Ins.shS (k : Int))) := bL0
      have hB2 : Below w.heap.size w (((W1.alloc (.cells #[.int .i64 (k : Int), .int .i64 a, .int .i64 b, .int .i64 c, .int .i32 i] 35)).alloc (.cells #[.string (Ins.shS (k : Int))] 9)).drew) := ((hB4.alloc hB4.size _).alloc (by simp; have := hB4.size; omega) _).drew
      have hs2 : (((W1.alloc (.cells #[.int .i64 (k : Int), .int .i64 a, .int .i64 b, .int .i64 c, .int .i32 i] 35)).alloc (.cells #[.string (Ins.shS (k : Int))] 9)).drew).heap.size = N + 2 := by show ((W1.alloc _).alloc _).heap.size = _; simp [hN]
      obtain ⟨W0, hW0⟩ : ∃ W0, ((W1.alloc (.cells #[.int .i64 (k : Int), .int .i64 a, .int .i64 b, .int .i64 c, .int .i32 i] 35)).alloc (.cells #[.string (Ins.shS (k : Int))] 9)).drew = W0 := ⟨_, rfl⟩
      rw [hW0] at bW1 bI1 bL1 hB2 hs2
      rw [hW0]
      clear hW0 bW0 bI0 bL0 bI4 bT c0 c1 c2 c3 c4
      gi_wp2
      refine wpIn_rangeFunc_ownH rfl (by omega) (gf := 69) (lb := #[.pointer (some ⟨N + 1, 0, none⟩), .pointer (some ⟨N, 0, none⟩)]) rfl trivial (enters_of Tryz.func69 (by kernel_rfl) rfl)
        (parts_stops _ (by omega) (N + 1) N (Ins.shS (k : Int)) (Ins.shp (k : Int)) (by show (Ins.shp (k : Int)).toArray.toList = _; rfl) (shp_asc (k : Int)) (k : Int) a b c i hi0 hi1 W0 bL1 bI1) keepsK_t (keepsK_b (fun b hb => by omega)) (Below.refl _ _) (fun _ => rfl)
        (fun pre W => (Boxed W H 9 (.string (accT (Ins.shp (k : Int)) (k : Int) a b c i pre)) ∧ Below w.heap.size w W) ∧ N + 2 ≤ W.heap.size)
        (fun cd pre W => False)
        (OwnFrom.and (OwnFrom.and (Own.from (boxed_own _ _ _) _) (ownFrom_below (Nat.le_refl _) (by have := hB2.size; omega))) (fun s X Y row hs hg hr => Nat.le_trans hs hg.size))
        (fun cd => fun s X Y row hs hg hr => hs)
        ⟨⟨bW1, hB2⟩, by omega⟩
        (fun x a' W => a' = { tmps := #[.agg #[.int .i64 (k : Int), .int .i64 a, .int .i64 b, .int .i64 c, .int .i32 i], .pointer (some ⟨w.heap.size, 0, none⟩), .string ⟨#[]⟩, .pointer (some ⟨H, 0, none⟩), .int .i32 (ltr (Ins.shp (k : Int)) x), .int .i64 (prt a b c i (ltr (Ins.shp (k : Int)) x)), .agg #[.int .i64 (k : Int), .int .i64 a, .int .i64 b, .int .i64 c, .int .i32 i], .bool true, .bool false, .agg namesA, .pointer (some ⟨w.heap.size, 0, none⟩), .int .i64 (k : Int), .string (nmS (k : Int)), .agg #[.int .i64 (k : Int), .int .i64 a, .int .i64 b, .int .i64 c, .int .i32 i], .pointer (some ⟨w.heap.size, 0, none⟩), .int .i64 (k : Int), .string (Ins.shS (k : Int)), .func (.func 69) #[] #[.pointer (some ⟨N + 1, 0, none⟩), .pointer (some ⟨N, 0, none⟩)], .int .i32 (ltr (Ins.shp (k : Int)) x), .int .i64 (prt a b c i (ltr (Ins.shp (k : Int)) x)), undef, undef, undef, undef, undef, undef, undef], defers := [] })
        (fun x a' _ X Y row hs hg hr => hs)
        ?assign ?body ?done ?stop
      case assign =>
        rintro l pre x W K hI hK
        dsimp only [encX]
        gi_wp2
        exact hK _ _ (KeepsFrom.refl _ _) (Keeps.refl _ _) hI rfl
      case body =>
        rintro l pre x a' W hl ⟨r, hr⟩ ⟨⟨bW2, hB3⟩, hNW⟩ rfl hlt
        have hmx : Tryz.prog.follows .mixedOrders = true := by kernel_rfl
        have hP : Hid (accT (Ins.shp (k : Int)) (k : Int) a b c i (pre ++ [x]) = stepT (Ins.shp (k : Int)) a b c i (accT (Ins.shp (k : Int)) (k : Int) a b c i pre) x) := accT_snoc _ _ _ _ _ _ _ _
        have hys := accT_size HA.out HB.out HC.out HI.out (Ins.shp (k : Int)) (k : Int) pre
        have hvb := prt_64 HA.out HB.out HC.out HI.out (ltr (Ins.shp (k : Int)) x)
        obtain ⟨y, hy⟩ : ∃ y, accT (Ins.shp (k : Int)) (k : Int) a b c i pre = y := ⟨_, rfl⟩
        rw [hy] at bW2 hP hys
        clear hy
        have hst : Hid (stepT (Ins.shp (k : Int)) a b c i y x = y ++ (⟨#[32]⟩ ++ tldS (ltr (Ins.shp (k : Int)) x) (prt a b c i (ltr (Ins.shp (k : Int)) x)))) := rfl
        obtain ⟨L, hL⟩ : ∃ L, ltr (Ins.shp (k : Int)) x = L := ⟨_, rfl⟩
        obtain ⟨v, hv'⟩ : ∃ v, prt a b c i (ltr (Ins.shp (k : Int)) x) = v := ⟨_, rfl⟩
        rw [hv'] at hst hvb ⊢
        rw [hL] at hst ⊢
        clear hL hv'
        have hts := tldS_size L hvb.1 hvb.2
        have hpl : ∀ W2, Vars W2 → Calls Tryz.prog 48 #[.int .i32 L, .int .i64 v] W2 fun e w' => e = .returned (.string (tldS L v)) ∧ Below W2.heap.size W2 w' := fun W2 h => told_any L v hvb.1 hvb.2 W2 h
        have hvW : Vars W.drew := Vars.drew (hv.later hB3) 1
        obtain ⟨s, hs⟩ : ∃ s, tldS L v = s := ⟨_, rfl⟩
        rw [hs] at hst hts
        simp only [hs] at hpl
        have hyz : y.size ≤ 74 := by omega
        have hz1 : (9223372036854775807 < 1 + s.size) = False := by simp; omega
        have hz2 : (9223372036854775807 < y.size + (1 + s.size)) = False := by simp; omega
        clear hs hvb hlt
        have cW := bW2.cell
        have fW := bW2.frozen
        have hlt2 : w.heap.size ≤ H := by omega
        have hWd : Below W.heap.size W W.drew := (Below.refl _ W).drew
        gi_wp2
        refine region_round (S := fun _ => True) hmx (by kernel_rfl) (by rintro ⟨_, _, h⟩; exact h) trivial (fun hS => ?_)
        refine wpAnyH_take (i := 1) (v := .int .i32 L) rfl (by kernel_rfl) (by kernel_rfl) (by kernel_rfl) (fun _ _ _ h => h) (Or.inl ⟨by rfl, fun w2 hS2 => by go_simp⟩) hS ?_
        simp only [Act.put]
        refine wpAnyH_take (i := 2) (v := .int .i64 v) rfl (by kernel_rfl) (by kernel_rfl) (by kernel_rfl) (fun _ _ _ h => h) (Or.inl ⟨by rfl, fun w2 hS2 => by go_simp⟩) hS ?_
        simp only [Act.put]
        refine wpAnyH_ready (rs := [0, 3]) (by kernel_rfl) (by simp) ?_
        refine AllReadyH.cons rfl (fun K hK => ?_) (AllReadyH.cons rfl (fun K hK => ?_) AllReadyH.nil)
        · go_simp
          refine hK.out _ _ hS (fun _ => ?_)
          clear hK K
          refine wpAnyH_ready (rs := [3]) (by kernel_rfl) (by simp) ?_
          refine AllReadyH.cons rfl (fun K hK => ?_) AllReadyH.nil
          go_simp
          refine (hpl _ hvW).mono ?_
          rintro e w1 ⟨rfl, hb1⟩
          have hb : Below W.heap.size W w1 := hWd.trans hb1
          have bW3 := Boxed.next bW2 hb
          have cW1 := bW3.cell
          have fW1 := bW3.frozen
          refine hK.out _ _ trivial (fun _ => ?_)
          clear hK K
          refine wpAnyH_take (i := 4) (v := .string (⟨#[32]⟩ ++ s)) rfl (by kernel_rfl) (by kernel_rfl) (by kernel_rfl) (fun _ _ _ h => h) (Or.inl ⟨by rfl, fun w2 hS2 => by go_simp⟩) hS ?_
          simp only [Act.put]
          refine wpAnyH_take (i := 5) (v := .string (y ++ (⟨#[32]⟩ ++ s))) rfl (by kernel_rfl) (by kernel_rfl) (by kernel_rfl) (fun _ _ _ h => h) (Or.inl ⟨by rfl, fun w2 hS2 => by go_simp⟩) hS ?_
          simp only [Act.put]
          refine wpAnyH_ready (rs := [6]) (by kernel_rfl) (by simp) ?_
          refine AllReadyH.cons rfl (fun K hK => ?_) AllReadyH.nil
          go_simp
          refine hK.out _ _ trivial (fun _ => ?_)
          clear hK K
          refine wpAnyH_done (by kernel_rfl) ?_ _
          exact fin_T hB3 hb bW2 hlt2 hHN (by omega) (hP.out.trans hst.out)
        · go_simp
          refine (hpl _ hvW).mono ?_
          rintro e w1 ⟨rfl, hb1⟩
          have hb : Below W.heap.size W w1 := hWd.trans hb1
          have bW3 := Boxed.next bW2 hb
          have cW1 := bW3.cell
          have fW1 := bW3.frozen
          refine hK.out _ _ trivial (fun _ => ?_)
          clear hK K
          refine wpAnyH_take (i := 4) (v := .string (⟨#[32]⟩ ++ s)) rfl (by kernel_rfl) (by kernel_rfl) (by kernel_rfl) (fun _ _ _ h => h) (Or.inl ⟨by rfl, fun w2 hS2 => by go_simp⟩) hS ?_
          simp only [Act.put]
          refine wpAnyH_ready (rs := [0]) (by kernel_rfl) (by simp) ?_
          refine AllReadyH.cons rfl (fun K hK => ?_) AllReadyH.nil
          go_simp
          refine hK.out _ _ trivial (fun _ => ?_)
          clear hK K
          refine wpAnyH_take (i := 5) (v := .string (y ++ (⟨#[32]⟩ ++ s))) rfl (by kernel_rfl) (by kernel_rfl) (by kernel_rfl) (fun _ _ _ h => h) (Or.inl ⟨by rfl, fun w2 hS2 => by go_simp⟩) hS ?_
          simp only [Act.put]
          refine wpAnyH_ready (rs := [6]) (by kernel_rfl) (by simp) ?_
          refine AllReadyH.cons rfl (fun K hK => ?_) AllReadyH.nil
          go_simp
          refine hK.out _ _ trivial (fun _ => ?_)
          clear hK K
          refine wpAnyH_done (by kernel_rfl) ?_ _
          exact fin_T hB3 hb bW2 hlt2 hHN (by omega) (hP.out.trans hst.out)
      case done =>
        rintro D ys W hD rfl ⟨⟨bW2, hB3⟩, hNW⟩ hK
        rw [← hr.out] at bW2
        have cW := bW2.cell
        gi_wp2
        refine ⟨by simp, .inl ⟨_, _, rfl, run_takeDeferred hK, ?_⟩⟩
        refine ⟨.string (txS (k : Int) a b c i), ?_, rfl, hB3.trans (belowK_b (w := w) (Nat.le_refl _) W D _ _ (by have := hB2.size; omega) hK rfl rfl)⟩
        simp [results, Tryz.f20, go_sem]
      case stop =>
        rintro D cd pre W hD hpre hf hK
        exact hf.elim
    clear hK
    obtain ⟨c0, c1, c2, c3, c4⟩ := bI3.cells
    refine wpIn_wide.2 ?_
    refine wp_region_noPanic ?_
    go_region_held3 (fun W => W.cell? ⟨w.heap.size, 0, none⟩ = some (.int .i64 (k : Int))) (first | go_keep | (simp only [cell_set_ne hne]; assumption)) (first | (go_at_call 47; (with_reducible refine (names_any w'.drew).mono ?_); rintro e w2 ⟨rfl, hb2'⟩; have hb2 : Below w'.heap.size w' w2 := (Below.refl _ w').drew.trans hb2'; have f0 := (hb2.cell (p := ⟨w.heap.size, 0, none⟩) hlt).trans c0) | (go_at_call 47; (with_reducible refine (names_any (w'.alloc (.cells #[.string ⟨#[]⟩] 9)).drew).mono ?_); rintro e w2 ⟨rfl, hb2'⟩; have hb3 : Below (w'.alloc (.cells #[.string ⟨#[]⟩] 9)).heap.size (w'.alloc (.cells #[.string ⟨#[]⟩] 9)) w2 := (Below.refl _ (w'.alloc (.cells #[.string ⟨#[]⟩] 9))).drew.trans hb2'; have hb2 : Below w'.heap.size w' w2 := ((Below.refl _ w').alloc (Nat.le_refl _) _).trans (hb3.mono (by simp)); have f0 := (hb2.cell (p := ⟨w.heap.size, 0, none⟩) hlt).trans c0; have bX : Boxed w2 w'.heap.size 9 (.string ⟨#[]⟩) := Boxed.next (Boxed.new w' 9 (.string ⟨#[]⟩)) hb3; have f1 := bX.cell; have f2 := bX.frozen))
    all_goals refine NoPanic.normal ?_
    all_goals have hB5 : Below w.heap.size w w2 := hB1.trans (hb2.mono hB1.size)
    all_goals have hz5 : w.heap.size < w2.heap.size := by have := hb2.size; omega
    all_goals first
      | exact rest _ _ _ ((bI3.next hb2).alloc _) (Boxed.new w2 _ _) (hB5.alloc hB5.size _) hz5 rfl
      | exact rest _ _ _ ((bI3.next hb2).other hne) (bX.set _) (hB5.setCell (p := ⟨w'.heap.size, 0, none⟩) (by show w.heap.size ≤ w'.heap.size; omega) _) hlt rfl
end Go.Proofs.YtnghendglcblkaaGreatDoor
