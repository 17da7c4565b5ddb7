/-
  PROVED HERE: what package frames' functions return that seek and count frames of which something is true (contracts over this translation). No condition.
-/
import Derived.Test.YtjdjiooblfgmlaaFrm3
namespace Go.Proofs.Ytjdjiooblfgmlaa
open Go.RowKit Go.Shelf
set_option linter.unusedVariables false
attribute [local go_sem] Oper.semAt_some

set_option maxRecDepth 100000 in
set_option maxHeartbeats 2000000 in
theorem first_any {w : World} {ao : Option Addr} {n cap : Nat} {L : List Frm.Fr} {g : Nat} {lb : Array Value} {P : Frm.Fr → Bool} (hL : Lab w.heap.size w ao n cap L) (hq : AsksD (fun b => b < w.heap.size) w (.func (.func g) #[] lb) P) :
    Calls Try.prog 25 #[.slice ao n cap, .func (.func g) #[] lb] w fun e w' => e = .returned (.tuple #[.int .i64 (Frm.fN P L), .bool (Frm.fF P L)]) ∧ Below w.heap.size w w' := by
  refine (callsIn_wide (n := 5)).1 ?_
  refine callsIn_of_wp_marks Try.func25 rfl trivial ?_ rfl
  simp only [Try.ntmps25, List.size_toArray, List.length_cons, List.length_nil, Nat.reduceAdd, Nat.reduceSub, Array.replicate_succ, Array.replicate_zero, List.push_toArray, List.append_toArray, List.nil_append, List.cons_append]
  gi_wp2_with (refine ⟨trivial, ?_⟩; gi_at_call 34; refine (callsIn_wide.2 (those_any _ _ _ _ _ _)).mono ?_; rintro e w' ⟨rfl, rfl⟩)
  have b1 := (((Boxed.new w 3 (.int .i64 0)).alloc (.cells #[.bool false] 4)).alloc (.cells #[.slice ao n cap] 22)).alloc (.cells #[.func (.func g) #[] lb] 54)
  have b2 := ((Boxed.new (w.alloc (.cells #[.int .i64 0] 3)) 4 (.bool false)).alloc (.cells #[.slice ao n cap] 22)).alloc (.cells #[.func (.func g) #[] lb] 54)
  have b3 := (Boxed.new ((w.alloc (.cells #[.int .i64 0] 3)).alloc (.cells #[.bool false] 4)) 22 (.slice ao n cap)).alloc (.cells #[.func (.func g) #[] lb] 54)
  have b4 := Boxed.new (((w.alloc (.cells #[.int .i64 0] 3)).alloc (.cells #[.bool false] 4)).alloc (.cells #[.slice ao n cap] 22)) 54 (.func (.func g) #[] lb)
  simp only [World.size_alloc] at b1 b2 b3 b4
  have hB0 : Below w.heap.size w ((((w.alloc (.cells #[.int .i64 0] 3)).alloc (.cells #[.bool false] 4)).alloc (.cells #[.slice ao n cap] 22)).alloc (.cells #[.func (.func g) #[] lb] 54)) :=
    (((((Below.refl _ w).alloc (Nat.le_refl _) _).alloc (by simp) _).alloc (by simp; omega) _).alloc (by simp; omega) _)
  have hsz : ((((w.alloc (.cells #[.int .i64 0] 3)).alloc (.cells #[.bool false] 4)).alloc (.cells #[.slice ao n cap] 22)).alloc (.cells #[.func (.func g) #[] lb] 54)).heap.size = w.heap.size + 4 := by simp
  obtain ⟨W0, hW0⟩ : ∃ W0, (((w.alloc (.cells #[.int .i64 0] 3)).alloc (.cells #[.bool false] 4)).alloc (.cells #[.slice ao n cap] 22)).alloc (.cells #[.func (.func g) #[] lb] 54) = W0 := ⟨_, rfl⟩
  rw [hW0] at b1 b2 b3 b4 hB0 hsz ⊢
  clear hW0
  have hL0 := (LabD.later hL (keeps_of_below hB0)).wide (D' := fun b => b < w.heap.size ∨ b = w.heap.size + 1 + 1 ∨ b = w.heap.size + 1 + 1 + 1) (fun b hb => .inl hb)
  have hq0 := (hq.later (keeps_of_below hB0)).wide (D' := fun b => b < w.heap.size ∨ b = w.heap.size + 1 + 1 ∨ b = w.heap.size + 1 + 1 + 1) (fun b hb => .inl hb)
  refine wpIn_rangeFunc_ownH rfl (by omega) (gf := 39) (lb := #[.pointer (some ⟨w.heap.size + 1 + 1, 0, none⟩), .pointer (some ⟨w.heap.size + 1 + 1 + 1, 0, none⟩)]) rfl trivial (enters_of Try.func39 (by kernel_rfl) rfl)
    (those_stops _ (by omega) (w.heap.size + 1 + 1) (w.heap.size + 1 + 1 + 1) (fun b => b < w.heap.size ∨ b = w.heap.size + 1 + 1 ∨ b = w.heap.size + 1 + 1 + 1) W0 (fun b hb => by omega) (.inr (.inl rfl)) (.inr (.inr rfl)) b3.cell b4.cell hL0 hq0) keepsK_t (keepsK_b (fun b hb => by omega)) (Below.refl _ _) (fun _ => rfl)
    (fun pre W => (pre = [] ∧ Boxed W w.heap.size 3 (.int .i64 0) ∧ Boxed W (w.heap.size + 1) 4 (.bool false)) ∧ Below w.heap.size w W)
    (fun cd pre W => (cd = .ret ∧ (∃ x : Nat, pre = [x]) ∧ Boxed W w.heap.size 3 (.int .i64 (Frm.ix L (pre.getLastD 0) : Nat)) ∧ Boxed W (w.heap.size + 1) 4 (.bool true)) ∧ Below w.heap.size w W)
    (OwnFrom.and (OwnFrom.and (ownFrom_pure _ _) (OwnFrom.and (Own.from (boxed_own _ _ _) _) (Own.from (boxed_own _ _ _) _))) (ownFrom_below (Nat.le_refl _) (by omega)))
    (fun cd => OwnFrom.and (OwnFrom.and (ownFrom_pure _ _) (OwnFrom.and (ownFrom_pure _ _) (OwnFrom.and (Own.from (boxed_own _ _ _) _) (Own.from (boxed_own _ _ _) _)))) (ownFrom_below (Nat.le_refl _) (by omega)))
    ⟨⟨rfl, b1, b2⟩, hB0⟩
    (fun x a2 W => a2 = { tmps := #[.slice ao n cap, .func (.func g) #[] lb, undef, undef, .pointer (some ⟨w.heap.size, 0, none⟩), .pointer (some ⟨w.heap.size + 1, 0, none⟩), .int .i64 (Frm.ix L x : Nat), .slice ao n cap, .func (.func g) #[] lb, .func (.func 39) #[] #[.pointer (some ⟨w.heap.size + 1 + 1, 0, none⟩), .pointer (some ⟨w.heap.size + 1 + 1 + 1, 0, none⟩)], .int .i64 (Frm.ix L x : Nat), .agg #[.int .u64 (Frm.fat L (Frm.ix L x)).1, .int .i64 (Frm.fat L (Frm.ix L x)).2], undef], defers := [] })
    (fun x a2 _ X Y row hs hg hr => hs)
    ?assign ?body ?done ?stop
  case assign =>
    rintro l pre x W K hI hK
    dsimp only [encF]
    gi_wp2
    exact hK _ _ (KeepsFrom.refl _ _) (Keeps.refl _ _) hI rfl
  case body =>
    rintro l pre x a2 W hl ⟨r2, hr2⟩ ⟨⟨rfl, d1, d2⟩, hB1⟩ rfl hlt
    have c1 := d1.cell
    have f1 := d1.frozen
    have c2 := d2.cell
    have f2 := d2.frozen
    gi_wp2
    exact ⟨((KeepsOthers.setCell _ _ _).trans (KeepsOthers.setCell _ _ _)).from _, ⟨rfl, ⟨x, rfl⟩, by simpa using (d1.set (.int .i64 (Frm.ix L x : Nat))).other (B' := w.heap.size + 1) (by omega) (.bool true), (d2.other (by omega) _).set _⟩,
      (hB1.setCell (p := ⟨w.heap.size, 0, none⟩) (by show w.heap.size ≤ w.heap.size; omega) _).setCell (p := ⟨w.heap.size + 1, 0, none⟩) (by show w.heap.size ≤ w.heap.size + 1; omega) _⟩
  case done =>
    rintro D ys W hD rfl ⟨⟨hp, d1, d2⟩, hB⟩ hK
    have hN : Hid (Frm.fN P L = 0) := by unfold Hid Frm.fN; rw [Frm.fst_nil hp]; rfl
    have hF : Hid (Frm.fF P L = false) := by unfold Hid Frm.fF; rw [Frm.fst_nil hp]; rfl
    have c1 := d1.cell
    have f1 := d1.frozen
    have c2 := d2.cell
    have f2 := d2.frozen
    clear hp
    gi_wp2
    have hK' := (((KeepsOthers.setCell W ⟨w.heap.size, 0, none⟩ (.int .i64 0)).trans (KeepsOthers.setCell _ ⟨w.heap.size + 1, 0, none⟩ (.bool false))).same D _ hK rfl)
    refine ⟨by simp, .inl ⟨_, _, rfl, run_takeDeferred hK', ?_⟩⟩
    have e2 := cell_kept ((d1.set (.int .i64 0)).other (B' := w.heap.size + 1) (by omega) (.bool false)).cell (grownBy_putObj' _ D (.deferred none)) (fun r e => by cases e; exact ⟨_, hK', rfl⟩)
    have e3 := cell_kept ((d2.other (B' := w.heap.size) (by omega) (.int .i64 0)).set (.bool false)).cell (grownBy_putObj' _ D (.deferred none)) (fun r e => by cases e; exact ⟨_, hK', rfl⟩)
    refine ⟨.tuple #[.int .i64 0, .bool false], ?_, by rw [hN.out, hF.out], ((hB.setCell (p := ⟨w.heap.size, 0, none⟩) (by show w.heap.size ≤ w.heap.size; omega) _).setCell (p := ⟨w.heap.size + 1, 0, none⟩) (by show w.heap.size ≤ w.heap.size + 1; omega) _).trans (belowK_b (w := w) (Nat.le_refl _) _ D _ _ (by omega) hK' rfl rfl)⟩
    simp [results, Try.f25, go_sem, e2, e3]
  case stop =>
    rintro D cd pre W hD hpre ⟨⟨rfl, ⟨x, rfl⟩, d1, d2⟩, hB⟩ hK
    have hix : Frm.ix L ([x].getLastD 0) = x := Frm.ix_lt (Frm.hits_lt (P := P) (hpre.subset (by simp)))
    rw [hix] at d1
    clear hix
    have hN : Hid (Frm.fN P L = (x : Nat)) := by unfold Hid Frm.fN; rw [Frm.fst_pre hpre]; rfl
    have hF : Hid (Frm.fF P L = true) := by unfold Hid Frm.fF; rw [Frm.fst_pre hpre]; rfl
    gi_wp2
    refine ⟨by simp, .inl ⟨_, _, rfl, run_takeDeferred hK, ?_⟩⟩
    have e2 := cell_kept d1.cell (grownBy_putObj' _ D (.deferred none)) (fun r e => by cases e; exact ⟨_, hK, rfl⟩)
    have e3 := cell_kept d2.cell (grownBy_putObj' _ D (.deferred none)) (fun r e => by cases e; exact ⟨_, hK, rfl⟩)
    refine ⟨.tuple #[.int .i64 (x : Nat), .bool true], ?_, by rw [hN.out, hF.out], hB.trans (belowK_b (w := w) (Nat.le_refl _) W D _ _ (by omega) hK rfl rfl)⟩
    simp [results, Try.f25, go_sem, e2, e3]

set_option maxRecDepth 100000 in
set_option maxHeartbeats 2000000 in
theorem count_any {w : World} {ao : Option Addr} {n cap : Nat} {L : List Frm.Fr} {g : Nat} {lb : Array Value} {P : Frm.Fr → Bool} (hL : Lab w.heap.size w ao n cap L) (hq : AsksD (fun b => b < w.heap.size) w (.func (.func g) #[] lb) P) :
    Calls Try.prog 37 #[.slice ao n cap, .func (.func g) #[] lb] w fun e w' => e = .returned (.int .i64 (Frm.cnt P L : Nat)) ∧ Below w.heap.size w w' := by
  have hln : Hid (L.length = n) := hL.1
  have hcm := hL.2.2.1.1
  have hnc := hL.2.1
  refine (callsIn_wide (n := 5)).1 ?_
  refine callsIn_of_wp_marks Try.func37 rfl trivial ?_ rfl
  simp only [Try.ntmps37, List.size_toArray, List.length_cons, List.length_nil, Nat.reduceAdd, Nat.reduceSub, Array.replicate_succ, Array.replicate_zero, List.push_toArray, List.append_toArray, List.nil_append, List.cons_append]
  gi_wp2_with (refine ⟨trivial, ?_⟩; gi_at_call 34; refine (callsIn_wide.2 (those_any _ _ _ _ _ _)).mono ?_; rintro e w' ⟨rfl, rfl⟩)
  have b1 := ((Boxed.new w 3 (.int .i64 0)).alloc (.cells #[.slice ao n cap] 22)).alloc (.cells #[.func (.func g) #[] lb] 54)
  have b3 := (Boxed.new (w.alloc (.cells #[.int .i64 0] 3)) 22 (.slice ao n cap)).alloc (.cells #[.func (.func g) #[] lb] 54)
  have b4 := Boxed.new ((w.alloc (.cells #[.int .i64 0] 3)).alloc (.cells #[.slice ao n cap] 22)) 54 (.func (.func g) #[] lb)
  simp only [World.size_alloc] at b1 b3 b4
  have hB0 : Below w.heap.size w (((w.alloc (.cells #[.int .i64 0] 3)).alloc (.cells #[.slice ao n cap] 22)).alloc (.cells #[.func (.func g) #[] lb] 54)) :=
    ((((Below.refl _ w).alloc (Nat.le_refl _) _).alloc (by simp) _).alloc (by simp; omega) _)
  have hsz : (((w.alloc (.cells #[.int .i64 0] 3)).alloc (.cells #[.slice ao n cap] 22)).alloc (.cells #[.func (.func g) #[] lb] 54)).heap.size = w.heap.size + 3 := by simp
  obtain ⟨W0, hW0⟩ : ∃ W0, ((w.alloc (.cells #[.int .i64 0] 3)).alloc (.cells #[.slice ao n cap] 22)).alloc (.cells #[.func (.func g) #[] lb] 54) = W0 := ⟨_, rfl⟩
  rw [hW0] at b1 b3 b4 hB0 hsz ⊢
  clear hW0
  have hL0 := (LabD.later hL (keeps_of_below hB0)).wide (D' := fun b => b < w.heap.size ∨ b = w.heap.size + 1 ∨ b = w.heap.size + 1 + 1) (fun b hb => .inl hb)
  have hq0 := (hq.later (keeps_of_below hB0)).wide (D' := fun b => b < w.heap.size ∨ b = w.heap.size + 1 ∨ b = w.heap.size + 1 + 1) (fun b hb => .inl hb)
  refine wpIn_rangeFunc_ownH rfl (by omega) (gf := 39) (lb := #[.pointer (some ⟨w.heap.size + 1, 0, none⟩), .pointer (some ⟨w.heap.size + 1 + 1, 0, none⟩)]) rfl trivial (enters_of Try.func39 (by kernel_rfl) rfl)
    (those_stops _ (by omega) (w.heap.size + 1) (w.heap.size + 1 + 1) (fun b => b < w.heap.size ∨ b = w.heap.size + 1 ∨ b = w.heap.size + 1 + 1) W0 (fun b hb => by omega) (.inr (.inl rfl)) (.inr (.inr rfl)) b3.cell b4.cell hL0 hq0) keepsK_t (keepsK_b (fun b hb => by omega)) (Below.refl _ _) (fun _ => rfl)
    (fun pre W => Boxed W w.heap.size 3 (.int .i64 (pre.length : Nat)) ∧ Below w.heap.size w W)
    (fun cd pre W => False ∧ Below w.heap.size w W)
    (OwnFrom.and (Own.from (boxed_own _ _ _) _) (ownFrom_below (Nat.le_refl _) (by omega)))
    (fun cd => OwnFrom.and (ownFrom_pure _ _) (ownFrom_below (Nat.le_refl _) (by omega)))
    ⟨b1, hB0⟩
    (fun x a2 W => a2 = { tmps := #[.slice ao n cap, .func (.func g) #[] lb, undef, undef, .int .i64 0, .pointer (some ⟨w.heap.size, 0, none⟩), .slice ao n cap, .func (.func g) #[] lb, .func (.func 39) #[] #[.pointer (some ⟨w.heap.size + 1, 0, none⟩), .pointer (some ⟨w.heap.size + 1 + 1, 0, none⟩)], .int .i64 (Frm.ix L x : Nat), .agg #[.int .u64 (Frm.fat L (Frm.ix L x)).1, .int .i64 (Frm.fat L (Frm.ix L x)).2], undef, undef, undef], defers := [] })
    (fun x a2 _ X Y row hs hg hr => hs)
    ?assign ?body ?done ?stop
  case assign =>
    rintro l pre x W K hI hK
    dsimp only [encF]
    gi_wp2
    exact hK _ _ (KeepsFrom.refl _ _) (Keeps.refl _ _) hI (by simp)
  case body =>
    rintro l pre x a2 W hl ⟨r2, hr2⟩ ⟨d1, hB1⟩ rfl hlt
    have c1 := d1.cell
    have f1 := d1.frozen
    rw [Frm.hits_len] at hlt
    have hle : Frm.cnt P L ≤ n := by rw [← hln.out]; exact Frm.cnt_le
    have hw : IntKind.i64.wrap (((pre.length : Nat) : Int) + 1) = ((pre.length + 1 : Nat) : Int) := by rw [IntKind.wrap_i64]; omega
    gi_wp2
    exact ⟨(KeepsOthers.setCell _ _ _).from _, ⟨by simp, fun b hb => Below.heap_setCell _ _ _ _ (by show b ≠ w.heap.size; omega)⟩, by simpa [hw] using d1.set _, hB1.setCell (p := ⟨w.heap.size, 0, none⟩) (by show w.heap.size ≤ w.heap.size; omega) _⟩
  case done =>
    rintro D ys W hD rfl ⟨d1, hB⟩ hK
    have c1 := d1.cell
    have hu : Hid (((Frm.hits P L).length : Int) = (Frm.cnt P L : Int)) := by unfold Hid; rw [Frm.hits_len]
    gi_wp2
    refine ⟨by simp, .inl ⟨_, _, rfl, run_takeDeferred hK, ?_⟩⟩
    refine ⟨.int .i64 ((Frm.hits P L).length : Nat), ?_, by rw [hu.out], hB.trans (belowK_b (w := w) (Nat.le_refl _) _ D _ _ (by omega) hK rfl rfl)⟩
    simp [results, Try.f37, go_sem]
  case stop =>
    rintro D cd pre W hD hpre ⟨h, _⟩ hK
    exact h.elim
theorem find_any {w : World} {ao : Option Addr} {n cap : Nat} {L : List Frm.Fr} (hL : Lab w.heap.size w ao n cap L) (o p : Int) :
    Calls Try.prog 19 #[.slice ao n cap, .int .u64 o, .int .i64 p] w fun e w' => e = .returned (.tuple #[.int .i64 (Frm.fN (Frm.poB o p) L), .bool (Frm.fF (Frm.poB o p) L)]) ∧ Below w.heap.size w w' := by
  have b1 := ((Boxed.new w 3 (.int .i64 p)).alloc (.cells #[.int .u64 o] 23)).alloc (.cells #[.func (.func 40) #[] #[.pointer (some ⟨w.heap.size + 1, 0, none⟩)]] 54)
  have b2 := (Boxed.new (w.alloc (.cells #[.int .i64 p] 3)) 23 (.int .u64 o)).alloc (.cells #[.func (.func 40) #[] #[.pointer (some ⟨w.heap.size + 1, 0, none⟩)]] 54)
  have b3 := Boxed.new ((w.alloc (.cells #[.int .i64 p] 3)).alloc (.cells #[.int .u64 o] 23)) 54 (.func (.func 40) #[] #[.pointer (some ⟨w.heap.size + 1, 0, none⟩)])
  simp only [World.size_alloc] at b1 b2 b3
  have hB0 : Below w.heap.size w (((w.alloc (.cells #[.int .i64 p] 3)).alloc (.cells #[.int .u64 o] 23)).alloc (.cells #[.func (.func 40) #[] #[.pointer (some ⟨w.heap.size + 1, 0, none⟩)]] 54)) :=
    ((((Below.refl _ w).alloc (Nat.le_refl _) _).alloc (by simp) _).alloc (by simp; omega) _)
  have hc := first_any (hL.next hB0) (asks_page (D := fun b => b < _) b3.lt b1.lt b2.lt b3 b1 b2)
  go_enter Try.func19, Try.ntmps19
  go_wp2_with (first | (go_at_call 36; refine (pageOf_any _ _ _).mono ?_; rintro e w' ⟨rfl, rfl⟩) | (go_at_call 25; refine hc.mono ?_; rintro e w' ⟨rfl, hb⟩))
  go_ret2
  exact ⟨rfl, hB0.trans (hb.mono hB0.size)⟩
theorem free_any {w : World} {ao : Option Addr} {n cap : Nat} {L : List Frm.Fr} (hL : Lab w.heap.size w ao n cap L) :
    Calls Try.prog 21 #[.slice ao n cap] w fun e w' => e = .returned (.int .i64 (Frm.cnt Frm.isF L : Nat)) ∧ Below w.heap.size w w' := by
  have hc := count_any hL (asks_free _ w)
  go_enter Try.func21, Try.ntmps21
  go_wp2_with (go_at_call 37; refine hc.mono ?_; rintro e w' ⟨rfl, hb⟩)
  go_ret
  exact ⟨rfl, hb⟩
theorem held_any {w : World} {ao : Option Addr} {n cap : Nat} {L : List Frm.Fr} (hL : Lab w.heap.size w ao n cap L) (o : Int) :
    Calls Try.prog 23 #[.slice ao n cap, .int .u64 o] w fun e w' => e = .returned (.int .i64 (Frm.cnt (Frm.hdB o) L : Nat)) ∧ Below w.heap.size w w' := by
  have b1 := Boxed.new w 23 (.int .u64 o)
  have hB0 : Below w.heap.size w (w.alloc (.cells #[.int .u64 o] 23)) := (Below.refl _ w).alloc (Nat.le_refl _) _
  have hc := count_any (hL.next hB0) (asks_held (D := fun b => b < _) b1.lt b1)
  go_enter Try.func23, Try.ntmps23
  go_wp2_with (first | (go_at_call 35; refine (heldBy_any _ _).mono ?_; rintro e w' ⟨rfl, rfl⟩) | (go_at_call 37; refine hc.mono ?_; rintro e w' ⟨rfl, hb⟩))
  go_ret
  exact ⟨rfl, hB0.trans (hb.mono hB0.size)⟩
end Go.Proofs.Ytjdjiooblfgmlaa
