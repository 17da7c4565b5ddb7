/-
  PROVED HERE: what package frames' Drop, New and Same return when they are called (contracts over this translation). Frames are fewer than 2^38.
-/
import Derived.Test.YtjdjiooblfgmlaaFrm6
namespace Go.Proofs.Ytjdjiooblfgmlaa
open Go.RowKit Go.Shelf
set_option linter.unusedVariables false
attribute [local go_sem] Oper.semAt_some

theorem boxed_other {W : World} {b g i : Nat} {t : TypeId} {u : Value} (h : Boxed W b t u) (hne : b ≠ g) (x : Value) : Boxed (W.setCell ⟨g, i, none⟩ x) b t u := (Below.heap_setCell _ _ _ _ hne).trans h
theorem OwnL.other {base g b i : Nat} {W : World} {n cap : Nat} {L : List (Int × Int)} (h : OwnL base W (some ⟨g, 0, none⟩) n cap L) (hne : g ≠ b) (v : Value) : OwnL base (W.setCell ⟨b, i, none⟩ v) (some ⟨g, 0, none⟩) n cap L := by
  refine ⟨h.1, h.2.1, ?_⟩
  rcases h.2.2 with ⟨e, h0⟩ | ⟨g', c, cur, e, hb, hg, r⟩
  · exact .inl ⟨e, h0⟩
  · have e' := e
    simp only [Value.slice.injEq, Option.some.injEq, Addr.mk.injEq, and_true, true_and] at e'
    exact .inr ⟨g', c, cur, e, hb, (Below.heap_setCell _ _ _ _ (by rw [← e'.1]; exact hne)).trans hg, r⟩
theorem OwnL.putObj {base : Nat} {W : World} {ao : Option Addr} {n cap l : Nat} {L : List (Int × Int)} {o : Obj} (h : OwnL base W ao n cap L) (hl : W.heap[l]? = some o) (ho : o.isCells = false) (o' : Obj) : OwnL base (W.putObj l o') ao n cap L := by
  refine ⟨h.1, h.2.1, ?_⟩
  rcases h.2.2 with ⟨e, h0⟩ | ⟨g', c, cur, e, hb, hg, r⟩
  · exact .inl ⟨e, h0⟩
  · exact .inr ⟨g', c, cur, e, hb, (World.putObj_heap_other (fun e2 => by rw [e2, hl] at hg; cases hg; cases ho)).trans hg, r⟩
set_option maxRecDepth 100000 in
set_option maxHeartbeats 2000000 in
theorem drop_own {w : World} {ao : Option Addr} {n cap : Nat} {L : List Frm.Fr} (hL : Lab w.heap.size w ao n cap L) (hn : n < 274877906944) (o : Int) :
    Calls Try.prog 17 #[.slice ao n cap, .int .u64 o] w fun e w' => ∃ ao1 cap1, e = .returned (.tuple #[.slice ao1 n cap1, .int .i64 (Frm.cnt (Frm.hdB o) L : Nat)]) ∧ OwnL w.heap.size w' ao1 n cap1 (Frm.dropL o L) ∧ Below w.heap.size w w' := by
  have hln : Hid (L.length = n) := hL.1
  refine (callsIn_wide (n := 5)).1 ?_
  refine callsIn_of_wp_marks Try.func17 rfl trivial ?_ rfl
  simp only [Try.ntmps17, List.size_toArray, List.length_cons, List.length_nil, Nat.reduceAdd, Nat.reduceSub, Array.replicate_succ, Array.replicate_zero, List.push_toArray, List.append_toArray, List.nil_append, List.cons_append]
  gi_wp2_with (first | (refine ⟨trivial, ?_⟩; gi_at_call 30; refine (callsIn_wide.2 (copied_any hL hn)).mono ?_; rintro e w1 ⟨ao1, cap1, rfl, hown, hb1⟩) | (refine ⟨trivial, ?_⟩; gi_at_call 35; refine (callsIn_wide.2 (heldBy_any _ _)).mono ?_; rintro e w' ⟨rfl, rfl⟩) | (refine ⟨trivial, ?_⟩; gi_at_call 34; refine (callsIn_wide.2 (those_any _ _ _ _ _ _)).mono ?_; rintro e w' ⟨rfl, rfl⟩))
  have b1 := ((((Boxed.new w1 22 (.slice ao1 n cap1)).alloc (.cells #[.int .i64 0] 3)).alloc (.cells #[.int .u64 o] 23)).alloc (.cells #[.slice ao n cap] 22)).alloc (.cells #[.func (.func 40) #[] #[.pointer (some ⟨w1.heap.size + 1 + 1, 0, none⟩)]] 54)
  have b2 := (((Boxed.new (w1.alloc (.cells #[.slice ao1 n cap1] 22)) 3 (.int .i64 0)).alloc (.cells #[.int .u64 o] 23)).alloc (.cells #[.slice ao n cap] 22)).alloc (.cells #[.func (.func 40) #[] #[.pointer (some ⟨w1.heap.size + 1 + 1, 0, none⟩)]] 54)
  have b3 := ((Boxed.new ((w1.alloc (.cells #[.slice ao1 n cap1] 22)).alloc (.cells #[.int .i64 0] 3)) 23 (.int .u64 o)).alloc (.cells #[.slice ao n cap] 22)).alloc (.cells #[.func (.func 40) #[] #[.pointer (some ⟨w1.heap.size + 1 + 1, 0, none⟩)]] 54)
  have b4 := (Boxed.new (((w1.alloc (.cells #[.slice ao1 n cap1] 22)).alloc (.cells #[.int .i64 0] 3)).alloc (.cells #[.int .u64 o] 23)) 22 (.slice ao n cap)).alloc (.cells #[.func (.func 40) #[] #[.pointer (some ⟨w1.heap.size + 1 + 1, 0, none⟩)]] 54)
  have b5 := Boxed.new ((((w1.alloc (.cells #[.slice ao1 n cap1] 22)).alloc (.cells #[.int .i64 0] 3)).alloc (.cells #[.int .u64 o] 23)).alloc (.cells #[.slice ao n cap] 22)) 54 (.func (.func 40) #[] #[.pointer (some ⟨w1.heap.size + 1 + 1, 0, none⟩)])
  simp only [World.size_alloc] at b1 b2 b3 b4 b5
  have hB1 : Below w1.heap.size w1 (((((w1.alloc (.cells #[.slice ao1 n cap1] 22)).alloc (.cells #[.int .i64 0] 3)).alloc (.cells #[.int .u64 o] 23)).alloc (.cells #[.slice ao n cap] 22)).alloc (.cells #[.func (.func 40) #[] #[.pointer (some ⟨w1.heap.size + 1 + 1, 0, none⟩)]] 54)) :=
    ((((((Below.refl _ w1).alloc (Nat.le_refl _) _).alloc (by simp) _).alloc (by simp; omega) _).alloc (by simp; omega) _).alloc (by simp; omega) _)
  have hsz : (((((w1.alloc (.cells #[.slice ao1 n cap1] 22)).alloc (.cells #[.int .i64 0] 3)).alloc (.cells #[.int .u64 o] 23)).alloc (.cells #[.slice ao n cap] 22)).alloc (.cells #[.func (.func 40) #[] #[.pointer (some ⟨w1.heap.size + 1 + 1, 0, none⟩)]] 54)).heap.size = w1.heap.size + 5 := by simp
  obtain ⟨W0, hW0⟩ : ∃ W0, ((((w1.alloc (.cells #[.slice ao1 n cap1] 22)).alloc (.cells #[.int .i64 0] 3)).alloc (.cells #[.int .u64 o] 23)).alloc (.cells #[.slice ao n cap] 22)).alloc (.cells #[.func (.func 40) #[] #[.pointer (some ⟨w1.heap.size + 1 + 1, 0, none⟩)]] 54) = W0 := ⟨_, rfl⟩
  rw [hW0] at b1 b2 b3 b4 b5 hB1 hsz ⊢
  clear hW0
  have hws := hb1.size
  have hB0 : Below w.heap.size w W0 := hb1.trans (hB1.mono hws)
  have hown0 : OwnL w.heap.size W0 ao1 n cap1 L := hown.next hB1
  have hgl : ∀ g, ao1 = some ⟨g, 0, none⟩ → 0 < n → w.heap.size ≤ g ∧ g < w1.heap.size := fun g e h0 => by
    obtain ⟨g', e', h1, h2, _⟩ := hown.form h0
    rw [e] at e'; cases e'; exact ⟨h1, h2⟩
  have hL0 := (LabD.later hL (keeps_of_below hB0)).wide (D' := fun b => b < w.heap.size ∨ b = w1.heap.size + 1 + 1 ∨ b = w1.heap.size + 1 + 1 + 1 ∨ b = w1.heap.size + 1 + 1 + 1 + 1) (fun b hb => .inl hb)
  have hq0 := asks_held (D := fun b => b < w.heap.size ∨ b = w1.heap.size + 1 + 1 ∨ b = w1.heap.size + 1 + 1 + 1 ∨ b = w1.heap.size + 1 + 1 + 1 + 1) (.inr (.inl rfl)) b3
  have hmap : Hid ((Frm.hits (Frm.hdB o) L).map (Frm.ix L) = Frm.hits (Frm.hdB o) L) := Frm.ix_map fun k hk => Frm.hits_lt hk
  refine wpIn_rangeFunc_ownH rfl (by omega) (gf := 39) (lb := #[.pointer (some ⟨w1.heap.size + 1 + 1 + 1, 0, none⟩), .pointer (some ⟨w1.heap.size + 1 + 1 + 1 + 1, 0, none⟩)]) rfl trivial (enters_of Try.func39 (by kernel_rfl) rfl)
    (those_stops _ (by omega) (w1.heap.size + 1 + 1 + 1) (w1.heap.size + 1 + 1 + 1 + 1) (fun b => b < w.heap.size ∨ b = w1.heap.size + 1 + 1 ∨ b = w1.heap.size + 1 + 1 + 1 ∨ b = w1.heap.size + 1 + 1 + 1 + 1) W0 (fun b hb => by omega) (.inr (.inr (.inl rfl))) (.inr (.inr (.inr rfl))) b4.cell b5.cell hL0 hq0) keepsK_t (keepsK_b (fun b hb => by omega)) (Below.refl _ _) (fun _ => rfl)
    (fun pre W => (Boxed W w1.heap.size 22 (.slice ao1 n cap1) ∧ Boxed W (w1.heap.size + 1) 3 (.int .i64 (pre.length : Nat)) ∧ OwnL w.heap.size W ao1 n cap1 (Frm.frK L (pre.map (Frm.ix L)))) ∧ Below w.heap.size w W)
    (fun cd pre W => False ∧ Below w.heap.size w W)
    (OwnFrom.and (OwnFrom.and (Own.from (boxed_own _ _ _) _) (OwnFrom.and (Own.from (boxed_own _ _ _) _) (Own.from (ownL_own _ _ _ _ _) _))) (ownFrom_below (Nat.le_refl _) (by omega)))
    (fun cd => OwnFrom.and (ownFrom_pure _ _) (ownFrom_below (Nat.le_refl _) (by omega)))
    ⟨⟨b1, b2, hown0⟩, hB0⟩
    (fun x a2 W => a2 = { tmps := #[.slice ao n cap, .int .u64 o, undef, undef, .slice none 0 0, .int .i64 0, .pointer (some ⟨w1.heap.size, 0, none⟩), .pointer (some ⟨w1.heap.size + 1, 0, none⟩), .int .i64 (Frm.ix L x : Nat), .slice ao n cap, .slice ao1 n cap1, .slice ao n cap, .int .u64 o, .func (.func 40) #[] #[.pointer (some ⟨w1.heap.size + 1 + 1, 0, none⟩)], .func (.func 39) #[] #[.pointer (some ⟨w1.heap.size + 1 + 1 + 1, 0, none⟩), .pointer (some ⟨w1.heap.size + 1 + 1 + 1 + 1, 0, none⟩)], .int .i64 (Frm.ix L x : Nat), .agg #[.int .u64 (Frm.fat L (Frm.ix L x)).1, .int .i64 (Frm.fat L (Frm.ix L x)).2], undef, undef, undef, undef, undef, undef, undef, undef], defers := [] })
    (fun x a2 _ X Y row hs hg hr => hs)
    ?assign ?body ?done ?stop
  case assign =>
    rintro l pre x W K hI hK
    dsimp only [encF]
    gi_wp2
    exact hK _ _ (KeepsFrom.refl _ _) (Keeps.refl _ _) hI rfl
  case body =>
    rintro l pre x a2 W hl ⟨r2, hr2⟩ ⟨⟨d1, d2, hW⟩, hBW⟩ rfl hlt
    rw [Frm.hits_len] at hlt
    have hle : Frm.cnt (Frm.hdB o) L ≤ n := by rw [← hln.out]; exact Frm.cnt_le
    have hn0 : 0 < n := by omega
    have hix : Frm.ix L x < n := by have := Frm.ix_in (L := L) x (by rw [hln.out]; exact hn0); rwa [hln.out] at this
    obtain ⟨k, hk⟩ : ∃ k, Hid (Frm.ix L x = k) := ⟨_, rfl⟩
    rw [hk.out] at hix
    rw [hk.out]
    obtain ⟨g, rfl, _, _, hg2, hg3⟩ := hW.form hn0
    obtain ⟨hg0, hg1⟩ := hgl g rfl hn0
    have hkn : (k : Int) < n := by omega
    have c1 := d1.cell
    have c2 := d2.cell
    have f2 := d2.frozen
    have fz := fun j => hW.2.frozenAt j
    obtain ⟨q0, q1⟩ := hW.cells hix
    have hS := hW.set k 0 0
    have d1' := boxed_other (g := g) (i := k * 2 + 1) (boxed_other (g := g) (i := k * 2) d1 (by omega) (.int .u64 0)) (by omega) (.int .i64 0)
    have d2' := boxed_other (g := g) (i := k * 2 + 1) (boxed_other (g := g) (i := k * 2) d2 (by omega) (.int .u64 0)) (by omega) (.int .i64 0)
    have c2' := d2'.cell
    have f2' := d2'.frozen
    have hBW1 := (hBW.setCell (p := ⟨g, k * 2, none⟩) (by show w.heap.size ≤ g; omega) (.int .u64 0)).setCell (p := ⟨g, k * 2 + 1, none⟩) (by show w.heap.size ≤ g; omega) (.int .i64 0)
    have hw : IntKind.i64.wrap (((pre.length : Nat) : Int) + 1) = ((pre.length + 1 : Nat) : Int) := by rw [IntKind.wrap_i64]; omega
    gi_wp2
    refine ⟨(((KeepsOthers.setCell _ _ _).trans (KeepsOthers.setCell _ _ _)).trans (KeepsOthers.setCell _ _ _)).from _, ⟨by simp, fun b hb => ((Below.heap_setCell _ _ _ _ (by show b ≠ w1.heap.size + 1; omega)).trans (Below.heap_setCell _ _ _ _ (by show b ≠ g; omega))).trans (Below.heap_setCell _ _ _ _ (by show b ≠ g; omega))⟩, ⟨boxed_other d1' (by omega) _, by simpa [hw] using d2'.set _, ?_⟩, hBW1.setCell (p := ⟨w1.heap.size + 1, 0, none⟩) (by show w.heap.size ≤ w1.heap.size + 1; omega) _⟩
    rw [List.map_append, List.map_cons, List.map_nil, hk.out, Frm.frK_snoc]
    exact hS.other (by omega) _
  case done =>
    rintro D ys W hD rfl ⟨⟨d1, d2, hW⟩, hB⟩ hK
    rw [hmap.out, Frm.frK_hits] at hW
    have c1 := d1.cell
    have c2 := d2.cell
    have hu : Hid (((Frm.hits (Frm.hdB o) L).length : Int) = (Frm.cnt (Frm.hdB o) L : Int)) := by unfold Hid; rw [Frm.hits_len]
    gi_wp2
    gi_region
    gi_wp2
    refine ⟨by simp, .inl ⟨_, _, rfl, run_takeDeferred (w := W.drew) hK, ?_⟩⟩
    refine ⟨.tuple #[.slice ao1 n cap1, .int .i64 ((Frm.hits (Frm.hdB o) L).length : Nat)], ?_, _, _, by rw [hu.out], hW.putObj hK rfl _, hB.drew.trans (belowK_b (w := w) (Nat.le_refl _) W.drew D _ _ (by omega) hK rfl rfl)⟩
    simp [results, Try.f17, go_sem]
  case stop =>
    rintro D cd pre W hD hpre ⟨h, _⟩ hK
    exact h.elim

theorem ownL_at {base : Nat} {W : World} {v : Value} {k : Nat} {L : List (Int × Int)} (hk : L.length = k) (h : W.ownsRow base 51 2 v k (cellsOf L)) : ∃ ao cap, v = .slice ao k cap ∧ OwnL base W ao k cap L := by
  rcases h.2 with ⟨e, h0⟩ | ⟨g, cap, cur, e, r⟩
  · subst h0; exact ⟨none, 0, e, hk, by rw [← e]; exact h⟩
  · exact ⟨_, cap, e, hk, by rw [← e]; exact h⟩
def Frm.newL (n : Nat) : List Frm.Fr := List.replicate n (0, 0)
theorem cells_rep (k : Nat) : cellsOf (List.replicate (k + 1) ((0 : Int), (0 : Int))) = cellsOf (List.replicate k (0, 0)) ++ [.int .u64 0, .int .i64 0] := by
  rw [List.replicate_succ', cellsOf_append]; rfl
/-- A number of frames that there can be. -/
def Frm.nmB (n : Int) : Bool := decide (0 ≤ n) && decide (n ≤ 4096)
set_option maxRecDepth 100000 in
set_option maxHeartbeats 1000000 in
theorem new_own (n : Nat) (hn : n ≤ 4096) (w : World) :
    Calls Try.prog 7 #[.int .i64 (n : Int)] w fun e w' => ∃ ao1 cap1, e = .returned (.tuple #[.slice ao1 n cap1, .int .i64 0]) ∧ OwnL w.heap.size w' ao1 n cap1 (Frm.newL n) ∧ Below w.heap.size w w' := by
  obtain ⟨i0, hi, hz0, hz1, hz2⟩ := info_parts infoFrame
  go_enter Try.func7, Try.ntmps7
  go_wp2
  go_loopw [4, 12] (fun vl vi wr => ∃ k : Nat, k ≤ n ∧ vi = .int .i64 k ∧ wr.ownsRow w.heap.size 51 2 vl k (cellsOf (List.replicate k (0, 0))) ∧ Below w.heap.size w wr) (fun _ vi _ => n - (intOf vi).toNat)
  case atStart => exact ⟨0, Nat.zero_le _, rfl, World.ownsRow_nil _ _ _ _, Below.refl _ _⟩
  case round =>
    obtain ⟨k, hk, rfl, hrow, hb⟩ := hrel
    have hbs := hb.size
    by_cases hkn : k < n
    · have hkn' : (k : Int) < n := by omega
      go_wp2_with (at_builtin; refine wpList_append_own _ rfl _ _ 22 rfl w.heap.size 51 i0 (.agg #[.int .u64 0, .int .i64 0]) 2 16 Try.underlying22 hi hz0 hz1 hz2 rfl (by decide) _ _ _ rfl (hrow.alloc _) ⟨wr.heap.size, 0, none⟩ 1 1 [.int .u64 0, .int .i64 0] rfl rfl (cell_two_new wr _ _ _) (by simp [Value.oneCell']) (by unfold maxLen; omega) (by omega) (by simp; omega) ?_; intro v' w1 hown' hgrow _)
      go_roundw
      case rel => exact ⟨k + 1, by omega, by go_num, by rw [cells_rep]; exact hown', (hb.alloc hb.size _).grown hgrow (by simp; omega) (fun j e => (hrow.lt j e).1)⟩
      case measure => simp [intOf]; omega
    · obtain rfl : k = n := by omega
      obtain ⟨ao1, cap1, rfl, hown⟩ := ownL_at (by simp) hrow
      go_wp2
      go_ret2
      exact ⟨_, _, rfl, hown, hb⟩
theorem newBad_any (n : Int) (hn : Frm.nmB n = false) (w : World) :
    Calls Try.prog 7 #[.int .i64 n] w fun e w' => e = .returned (.tuple #[.slice none 0 0, .int .i64 4]) ∧ Below w.heap.size w w' := by
  by_cases h0 : n < 0
  · go_enter Try.func7, Try.ntmps7
    go_wp2
    go_ret2
    exact ⟨rfl, Below.refl _ _⟩
  · have h1 : 4096 < n := by simp [Frm.nmB] at hn; omega
    clear hn
    go_enter Try.func7, Try.ntmps7
    go_wp2
    go_ret2
    exact ⟨rfl, Below.refl _ _⟩
theorem drop_any {w : World} {ao : Option Addr} {n cap : Nat} {L : List Frm.Fr} (hL : Lab w.heap.size w ao n cap L) (hn : n < 274877906944) (o : Int) :
    Calls Try.prog 17 #[.slice ao n cap, .int .u64 o] w fun e w' => ∃ ao1 cap1, e = .returned (.tuple #[.slice ao1 n cap1, .int .i64 (Frm.cnt (Frm.hdB o) L : Nat)]) ∧ Lab w'.heap.size w' ao1 n cap1 (Frm.dropL o L) ∧ Below w.heap.size w w' :=
  (drop_own hL hn o).mono fun e w' ⟨a, c, h1, h2, h3⟩ => ⟨a, c, h1, h2.lab, h3⟩
theorem new_any (n : Nat) (hn : n ≤ 4096) (w : World) :
    Calls Try.prog 7 #[.int .i64 (n : Int)] w fun e w' => ∃ ao1 cap1, e = .returned (.tuple #[.slice ao1 n cap1, .int .i64 0]) ∧ Lab w'.heap.size w' ao1 n cap1 (Frm.newL n) ∧ Below w.heap.size w w' :=
  (new_own n hn w).mono fun e w' ⟨a, c, h1, h2, h3⟩ => ⟨a, c, h1, h2.lab, h3⟩
end Go.Proofs.Ytjdjiooblfgmlaa
