/-
  PROVED HERE: what put, copied and Set of package label return when they are called (contracts over this translation). The label has fewer than 2^38 pairs.
-/
import Derived.Test.YtaekiclhddfonaaLabFold
import Derived.Laws.AppendOwnNone
namespace Go.Proofs.Ytaekiclhddfonaa
open Go.RowKit Go.Shelf
set_option linter.unusedVariables false
attribute [local go_sem] Oper.semAt_some

/-- The level that put gives a category of which both labels speak. -/
def putV (c : Int) (x : Int × (Int × Int)) : Int := if x.1 = c then x.2.2 else x.2.1
theorem putV_hit {c : Int} {x : Int × (Int × Int)} (h : x.1 = c) : putV c x = x.2.2 := by unfold putV; rw [if_pos h]
theorem putV_miss {c : Int} {x : Int × (Int × Int)} (h : ¬ x.1 = c) : putV c x = x.2.1 := by unfold putV; rw [if_neg h]
def putP (c : Int) (pre : List (Int × (Int × Int))) : List (Int × Int) := pre.foldl (fun acc x => snoc acc x.1 (putV c x)) []
theorem putP_snoc (c : Int) (pre : List (Int × (Int × Int))) (x : Int × (Int × Int)) : putP c (pre ++ [x]) = snoc (putP c pre) x.1 (putV c x) := by simp [putP]
theorem putP_len (c : Int) (pre : List (Int × (Int × Int))) : (putP c pre).length ≤ pre.length := by
  have : ∀ (pre : List (Int × (Int × Int))) (acc : List (Int × Int)), (pre.foldl (fun acc x => snoc acc x.1 (putV c x)) acc).length ≤ acc.length + pre.length := by
    intro pre
    induction pre with
    | nil => intro acc; simp
    | cons x r ih => intro acc; have h1 := ih (snoc acc x.1 (putV c x)); have h2 := snoc_len acc x.1 (putV c x); simp only [List.foldl_cons, List.length_cons]; omega
  have h := this pre []
  simpa [putP] using h

theorem ownsRow_pos {W : World} {base : Nat} {e : TypeId} {size : Nat} {v : Value} {k : Nat} {xs : List Value} (hk : 0 < k) (h : W.ownsRow base e size v k xs) : ∃ g cap, v = .slice (some ⟨g, 0, none⟩) k cap := by
  rcases h.2 with ⟨_, h0⟩ | ⟨g, cap, _, rfl, _⟩
  · omega
  · exact ⟨g, cap, rfl⟩
theorem cellsOf_one (A : List (Int × Int)) : ∀ u ∈ cellsOf A, u.oneCell' = true := by
  induction A with
  | nil => intro u hu; cases hu
  | cons p r ih =>
    intro u hu
    simp only [cellsOf, List.mem_cons] at hu
    rcases hu with rfl | rfl | hu
    · rfl
    · rfl
    · exact ih u hu

set_option maxRecDepth 100000 in
set_option maxHeartbeats 2000000 in
theorem put_any {w : World} {ao : Option Addr} {k cap : Nat} {A : List (Int × Int)} (c l : Int) (hA : Lab w.heap.size w ao k cap A) (hk : k < 274877906944) :
    Calls Try.prog 35 #[.slice ao k cap, .int .u64 c, .int .i64 l] w fun e w' => ∃ ao1 n1 cap1, e = .returned (.slice ao1 n1 cap1) ∧ OwnL w.heap.size w' ao1 n1 cap1 (putP c (both A [(c, l)])) ∧ Below w.heap.size w w' := by
  refine (callsIn_wide (n := 5)).1 ?_
  refine callsIn_of_wp_marks Try.func35 rfl trivial ?_ rfl
  simp only [Try.ntmps35, List.size_toArray, List.length_cons, List.length_nil, Nat.reduceAdd, Nat.reduceSub, Array.replicate_succ, Array.replicate_zero, List.push_toArray, List.append_toArray, List.nil_append, List.cons_append]
  gi_wp2_with (refine ⟨trivial, ?_⟩; gi_at_call 37; refine (callsIn_wide.2 (both_any _ _ _ _ _ _ _)).mono ?_; rintro e w' ⟨rfl, rfl⟩)
  have bK := ((((Boxed.new w 24 (.int .u64 c)).alloc (.cells #[.slice none 0 0] 23)).alloc (.cells #[.int .u64 c, .int .i64 l] 43)).alloc (.cells #[.slice ao k cap] 23)).alloc (.cells #[.slice (some ⟨w.heap.size + 1 + 1, 0, none⟩) 1 1] 23)
  have bO := (((Boxed.new (w.alloc (.cells #[.int .u64 c] 24)) 23 (.slice none 0 0)).alloc (.cells #[.int .u64 c, .int .i64 l] 43)).alloc (.cells #[.slice ao k cap] 23)).alloc (.cells #[.slice (some ⟨w.heap.size + 1 + 1, 0, none⟩) 1 1] 23)
  have bL := ((Two.new ((w.alloc (.cells #[.int .u64 c] 24)).alloc (.cells #[.slice none 0 0] 23)) 43 (.int .u64 c) (.int .i64 l)).kept (World.grownBy_alloc _ (.cells #[.slice ao k cap] 23) none) (by simp)).kept (World.grownBy_alloc _ (.cells #[.slice (some ⟨w.heap.size + 1 + 1, 0, none⟩) 1 1] 23) none) (by simp)
  have bA := (Boxed.new (((w.alloc (.cells #[.int .u64 c] 24)).alloc (.cells #[.slice none 0 0] 23)).alloc (.cells #[.int .u64 c, .int .i64 l] 43)) 23 (.slice ao k cap)).alloc (.cells #[.slice (some ⟨w.heap.size + 1 + 1, 0, none⟩) 1 1] 23)
  have bC := Boxed.new ((((w.alloc (.cells #[.int .u64 c] 24)).alloc (.cells #[.slice none 0 0] 23)).alloc (.cells #[.int .u64 c, .int .i64 l] 43)).alloc (.cells #[.slice ao k cap] 23)) 23 (.slice (some ⟨w.heap.size + 1 + 1, 0, none⟩) 1 1)
  simp only [World.size_alloc] at bO bL bA bC
  have hB0 : Below w.heap.size w (((((w.alloc (.cells #[.int .u64 c] 24)).alloc (.cells #[.slice none 0 0] 23)).alloc (.cells #[.int .u64 c, .int .i64 l] 43)).alloc (.cells #[.slice ao k cap] 23)).alloc (.cells #[.slice (some ⟨w.heap.size + 1 + 1, 0, none⟩) 1 1] 23)) := (((((Below.refl _ w).alloc (Nat.le_refl _) _).alloc (by simp) _).alloc (by simp; omega) _).alloc (by simp; omega) _).alloc (by simp; omega) _
  have hsz : (((((w.alloc (.cells #[.int .u64 c] 24)).alloc (.cells #[.slice none 0 0] 23)).alloc (.cells #[.int .u64 c, .int .i64 l] 43)).alloc (.cells #[.slice ao k cap] 23)).alloc (.cells #[.slice (some ⟨w.heap.size + 1 + 1, 0, none⟩) 1 1] 23)).heap.size = w.heap.size + 5 := by simp
  obtain ⟨W0, hW0⟩ : ∃ W0, ((((w.alloc (.cells #[.int .u64 c] 24)).alloc (.cells #[.slice none 0 0] 23)).alloc (.cells #[.int .u64 c, .int .i64 l] 43)).alloc (.cells #[.slice ao k cap] 23)).alloc (.cells #[.slice (some ⟨w.heap.size + 1 + 1, 0, none⟩) 1 1] 23) = W0 := ⟨_, rfl⟩
  rw [hW0] at bK bO bL bA bC hB0 hsz ⊢
  clear hW0
  have hbl : (both A [(c, l)]).length ≤ k + 1 := by have := both_len A [(c, l)]; have := hA.1; simp at *; omega
  have hC : LabD (fun b => b < w.heap.size ∨ b = w.heap.size + 1 + 1) W0 (some ⟨w.heap.size + 1 + 1, 0, none⟩) 1 1 [(c, l)] := ⟨rfl, Nat.le_refl _, ⟨by omega, fun hz => by cases hz⟩, fun _ => ⟨_, _, rfl, .inr rfl, fun i hi => by
    have : i = 0 := by omega
    subst this
    exact ⟨by simpa using bL.cell0, by simpa using bL.cell1⟩⟩⟩
  refine wpIn_rangeFunc_ownH rfl (by omega) (gf := 51) (lb := #[.pointer (some ⟨w.heap.size + 1 + 1 + 1, 0, none⟩), .pointer (some ⟨w.heap.size + 1 + 1 + 1 + 1, 0, none⟩)]) rfl trivial (enters_of Try.func51 (by kernel_rfl) rfl)
    (both_stops _ (by omega) (w.heap.size + 1 + 1 + 1) (w.heap.size + 1 + 1 + 1 + 1) (fun b => b < w.heap.size ∨ b = w.heap.size + 1 + 1) W0 (by omega) (by omega) (fun b hb => by omega) bA.cell bC.cell ((hA.later hB0).labD (fun b hb => .inl hb)) hC) keepsK_t (keepsK_b (fun b hb => by omega)) (Below.refl _ _) (fun _ => rfl)
    (fun pre W => ((∃ v, Boxed W (w.heap.size + 1) 23 v ∧ W.ownsRow (w.heap.size + 3) 43 2 v (putP c pre).length (cellsOf (putP c pre)) ∧ True) ∧ Boxed W w.heap.size 24 (.int .u64 c)) ∧ (Below w.heap.size w W ∧ w.heap.size + 5 ≤ W.heap.size))
    (fun _ _ _ => False)
    (OwnFrom.and (OwnFrom.and (Own.from (holdsRow_own (w.heap.size + 3) (w.heap.size + 1) 23 43 2 (fun pre => (putP c pre).length) (fun pre => cellsOf (putP c pre)) (fun _ _ => True)) _) (Own.from (boxed_own _ _ _) _)) (OwnFrom.and (ownFrom_below (Nat.le_refl _) (by omega)) (fun _ X Y row hs hg _ => Nat.le_trans hs hg.size)))
    (fun _ _ _ _ _ hs _ _ => hs)
    ⟨⟨⟨_, bO, World.ownsRow_nil _ _ _ _, trivial⟩, bK⟩, hB0, by omega⟩
    (fun x a' W => ∃ Bx, w.heap.size + 4 < Bx ∧ Two W Bx 53 (.int .i64 x.2.1) (.int .i64 x.2.2) ∧ a' = { tmps := #[.slice ao k cap, .int .u64 c, .int .i64 l, undef, .pointer (some ⟨w.heap.size, 0, none⟩), undef, .slice none 0 0, .pointer (some ⟨w.heap.size + 1, 0, none⟩), .int .u64 x.1, .pointer (some ⟨Bx, 0, none⟩), .slice ao k cap, .int .u64 c, .int .i64 l, .agg #[.int .u64 c, .int .i64 l], .slice (some ⟨w.heap.size + 1 + 1, 0, none⟩) 1 1, .func (.func 51) #[] #[.pointer (some ⟨w.heap.size + 1 + 1 + 1, 0, none⟩), .pointer (some ⟨w.heap.size + 1 + 1 + 1 + 1, 0, none⟩)], .int .u64 x.1, .agg #[.int .i64 x.2.1, .int .i64 x.2.2], undef, undef, undef, undef, undef, undef, undef, undef, undef, undef, undef, undef, undef, undef], defers := [] })
    (fun x a' _ X Y row hs hg hr => by obtain ⟨Bx, h1, h2, h3⟩ := hs; exact ⟨Bx, h1, two_own Bx _ (fun (_ : Unit) => Value.int .i64 x.2.1) (fun _ => Value.int .i64 x.2.2) () X Y row h2 hg (fun r e => (hr r e).2), h3⟩)
    ?assign ?body ?done ?stop
  case assign =>
    rintro l' pre x W K ⟨⟨⟨v, bO1, hrow, _⟩, bF1⟩, hB1, hWs⟩ hK
    dsimp only [encP]
    gi_wp2
    exact hK _ _ ((KeepsOthers.alloc _ _).from _) ⟨by simp, fun b hb => Below.heap_alloc W _ b (by omega)⟩ ⟨⟨⟨v, bO1.alloc _, hrow.alloc _, trivial⟩, bF1.alloc _⟩, hB1.alloc hB1.size _, by simp; omega⟩ ⟨W.heap.size, by omega, Two.new W _ _ _, rfl⟩
  case body =>
    rintro l' pre x a' W hl ⟨r, hr⟩ ⟨⟨⟨v, bO1, hrow, _⟩, bF1⟩, hB1, hWs⟩ ⟨Bx, hBx, bX, rfl⟩ hlt
    obtain ⟨aoL, capL, rfl, hown⟩ := ownL_of hrow
    have hfl := putP_len c pre
    have hN : (putP c pre).length < 1099511627776 := by omega
    have c0 := bX.cell0
    have c1 := bX.cell1
    have cO := bO1.cell
    have cF := bF1.cell
    by_cases hxc : x.1 = c
    · have e1 : Hid (putV c x = x.2.2) := putV_hit hxc
      gi_wp2_with (refine ⟨trivial, ?_⟩; gi_at_call 50; refine (CallsIn.inRound l' (callsIn_wide.2 (with_any _ _ hown (by omega) hN))).mono ?_; rintro e w2 ⟨ao2, n2, cap2, rfl, hown2, hg2⟩; obtain ⟨q1, q2, q3, q4, q5, q6, q7⟩ := put_back (s := w.heap.size) bO1 hown hB1.size (by omega) (Nat.le_succ _) (Below.refl _ _) hown2 hg2; have cO2 := q1.cell; have fO2 := q1.frozen)
      exact ⟨q4.from _, ⟨q5.size, fun b hb => q7 b (by omega) (by omega) (by omega)⟩, ⟨⟨_, q2, by rw [putP_snoc, e1.out, hxc, q3.1]; exact q3.2, trivial⟩, q6 _ _ _ bF1 (by decide) (by omega)⟩, hB1.trans q5, Nat.le_trans hWs q5.size⟩
    · have e1 : Hid (putV c x = x.2.1) := putV_miss hxc
      have hxb : (x.1 == c) = false := by simpa using hxc
      gi_wp2_with (refine ⟨trivial, ?_⟩; gi_at_call 50; refine (CallsIn.inRound l' (callsIn_wide.2 (with_any _ _ hown (by omega) hN))).mono ?_; rintro e w2 ⟨ao2, n2, cap2, rfl, hown2, hg2⟩; obtain ⟨q1, q2, q3, q4, q5, q6, q7⟩ := put_back (s := w.heap.size) bO1 hown hB1.size (by omega) (Nat.le_succ _) (Below.refl _ _) hown2 hg2; have cO2 := q1.cell; have fO2 := q1.frozen)
      exact ⟨q4.from _, ⟨q5.size, fun b hb => q7 b (by omega) (by omega) (by omega)⟩, ⟨⟨_, q2, by rw [putP_snoc, e1.out, q3.1]; exact q3.2, trivial⟩, q6 _ _ _ bF1 (by decide) (by omega)⟩, hB1.trans q5, Nat.le_trans hWs q5.size⟩
  case done =>
    rintro D ys W hD rfl ⟨⟨⟨v, bO1, hrow, _⟩, bF1⟩, hB, _⟩ hK
    obtain ⟨aoL, capL, rfl, hown⟩ := ownL_of hrow
    have cO := bO1.cell
    gi_wp2
    refine ⟨by simp, .inl ⟨_, _, rfl, run_takeDeferred hK, ?_⟩⟩
    have hown' := ownL_base (b' := w.heap.size) (by omega) hown
    exact ⟨_, results_tmp rfl _ _ _, _, _, _, rfl, ⟨hown'.1, ownsRow_putObj hown'.2 _ hK rfl⟩, hB.trans (belowK_b (w := w) (Nat.le_refl _) W D _ _ (by omega) hK rfl rfl)⟩
  case stop =>
    rintro D c pre W _ _ h _
    exact h.elim

theorem copied_any {w : World} {ao : Option Addr} {k cap : Nat} {A : List (Int × Int)} (hA : Lab w.heap.size w ao k cap A) (hk : k < 274877906944) :
    Calls Try.prog 34 #[.slice ao k cap] w fun e w' => ∃ ao1 n1 cap1, e = .returned (.slice ao1 n1 cap1) ∧ Lab w'.heap.size w' ao1 n1 cap1 A ∧ Below w.heap.size w w' := by
  obtain ⟨i0, hi, hz0, hz1, hz2⟩ := info_parts infoPair
  by_cases h0 : k = 0
  · subst h0
    have hA0 : A = [] := List.eq_nil_of_length_eq_zero hA.1
    subst hA0
    cases ao with
    | none =>
      have hz := hA.2.2.1.2 rfl
      subst hz
      clear hA
      go_enter Try.func34, Try.ntmps34
      go_wp2_with (at_builtin; refine wpList_append_own_none rfl _ _ 23 rfl w.heap.size 43 i0 2 Try.underlying23 hi _ _ _ rfl (World.ownsRow_nil _ _ _ _) rfl ?_)
      go_ret
      exact ⟨_, _, _, rfl, Lab.nil _ _, Below.refl _ _⟩
    | some a =>
      clear hA
      go_enter Try.func34, Try.ntmps34
      go_wp2_with (at_builtin; refine wpList_append_own _ rfl _ _ 23 rfl w.heap.size 43 i0 (.agg #[.int .u64 0, .int .i64 0]) 2 16 Try.underlying23 hi hz0 hz1 hz2 rfl (by decide) _ _ _ rfl (World.ownsRow_nil _ _ _ _) a 0 cap [] rfl rfl (fun j u h => by simp at h) (fun u h => by cases h) (by unfold maxLen; omega) (by omega) (Nat.le_refl _) ?_; intro v' w1 hown' hgrow hnil; obtain rfl := hnil.2 ⟨rfl, rfl⟩)
      go_ret
      exact ⟨_, _, _, rfl, Lab.nil _ _, (Below.refl _ _).grown hgrow (Nat.le_refl _) (fun j e => by have e' : none = some j := e; cases e')⟩
  · obtain ⟨b, off, rfl, hbB, hc⟩ := hA.2.2.2 (by omega)
    have hl := hA.1
    have hn : ∀ j u, (cellsOf A)[j]? = some u → w.cell? ((⟨b, off, none⟩ : Addr).add j) = some u := by
      intro j u hj
      have ea : (⟨b, off, none⟩ : Addr).add j = ⟨b, off + j, none⟩ := by unfold Addr.add; split <;> simp_all
      rw [ea]
      have hj2 : j < A.length * 2 := by
        rw [← cellsOf_length]
        exact (List.getElem?_eq_some_iff.1 hj).1
      obtain ⟨i, hi2⟩ : ∃ i, j = i * 2 ∨ j = i * 2 + 1 := ⟨j / 2, by omega⟩
      rcases hi2 with rfl | rfl
      · have h1 := (cellsOf_at A i (by omega)).1
        rw [hj] at h1
        cases h1
        exact (hc i (by omega)).1
      · have h1 := (cellsOf_at A i (by omega)).2
        rw [hj] at h1
        cases h1
        exact (hc i (by omega)).2
    have HL : Hid (A.length = k) := hl
    clear hl
    go_enter Try.func34, Try.ntmps34
    go_wp2_with (at_builtin; refine wpList_append_own _ rfl _ _ 23 rfl w.heap.size 43 i0 (.agg #[.int .u64 0, .int .i64 0]) 2 16 Try.underlying23 hi hz0 hz1 hz2 rfl (by decide) _ _ _ rfl (World.ownsRow_nil _ _ _ _) ⟨b, off, none⟩ k cap (cellsOf A) rfl (by rw [cellsOf_length, HL.out]) hn (cellsOf_one A) (by unfold maxLen; omega) (by omega) (Nat.le_refl _) ?_; intro v' w1 hown' hgrow _; simp only [Nat.zero_add, List.nil_append] at hown'; obtain ⟨g', cap', rfl⟩ := ownsRow_pos (by omega) hown')
    go_ret
    exact ⟨_, _, _, rfl, OwnL.lab ⟨HL.out, hown'⟩, (Below.refl _ _).grown hgrow (Nat.le_refl _) (fun j e => by have e' : none = some j := e; cases e')⟩

def setE (A : List (Int × Int)) (c l : Int) : Int := if Lv.fit l = true then (if (putP c (both A [(c, l)])).length ≤ 16 then 0 else 6) else 4
def setL (A : List (Int × Int)) (c l : Int) : List (Int × Int) := if Lv.fit l = true then (if (putP c (both A [(c, l)])).length ≤ 16 then putP c (both A [(c, l)]) else A) else A

theorem lset_any {w : World} {ao : Option Addr} {k cap : Nat} {A : List (Int × Int)} (c l : Int) (hA : Lab w.heap.size w ao k cap A) (hk : k < 274877906944) :
    Calls Try.prog 15 #[.slice ao k cap, .int .u64 c, .int .i64 l] w fun e w' => ∃ ao1 n1 cap1, e = .returned (.tuple #[.slice ao1 n1 cap1, .int .i64 (setE A c l)]) ∧ Lab w'.heap.size w' ao1 n1 cap1 (setL A c l) ∧ Below w.heap.size w w' := by
  cases hf : Lv.fit l with
  | false =>
    have e1 : setE A c l = 4 := by unfold setE; rw [hf]; rfl
    have e2 : setL A c l = A := by unfold setL; rw [hf]; rfl
    rw [e1, e2]
    clear e1 e2
    go_enter Try.func15, Try.ntmps15
    go_wp2_with (first | (go_at_call 32; refine (fit_any _ _).mono ?_; rintro e w' ⟨rfl, rfl⟩) | (go_at_call 34; refine (copied_any hA hk).mono ?_; rintro e w1 ⟨ao1, n1, cap1, rfl, hl1, hb1⟩))
    go_ret2
    exact ⟨_, _, _, rfl, hl1, hb1⟩
  | true =>
    by_cases hl : (putP c (both A [(c, l)])).length ≤ 16
    · have e1 : setE A c l = 0 := by unfold setE; rw [hf, if_pos rfl, if_pos hl]
      have e2 : setL A c l = putP c (both A [(c, l)]) := by unfold setL; rw [hf, if_pos rfl, if_pos hl]
      rw [e1, e2]
      have HL : Hid ((putP c (both A [(c, l)])).length ≤ 16) := hl
      clear e1 e2 hl
      go_enter Try.func15, Try.ntmps15
      go_wp2_with (first | (go_at_call 32; refine (fit_any _ _).mono ?_; rintro e w' ⟨rfl, rfl⟩) | (go_at_call 35; refine (put_any c l hA hk).mono ?_; rintro e w1 ⟨ao1, n1, cap1, rfl, ho1, hb1⟩; have hn1 : (n1 : Int) ≤ 16 := by have := ho1.1; have := HL.out; omega))
      go_ret2
      exact ⟨_, _, _, rfl, ho1.lab, hb1⟩
    · have e1 : setE A c l = 6 := by unfold setE; rw [hf, if_pos rfl, if_neg hl]
      have e2 : setL A c l = A := by unfold setL; rw [hf, if_pos rfl, if_neg hl]
      rw [e1, e2]
      have HL : Hid (¬ (putP c (both A [(c, l)])).length ≤ 16) := hl
      clear e1 e2 hl
      go_enter Try.func15, Try.ntmps15
      go_wp2_with (first | (go_at_call 32; refine (fit_any _ _).mono ?_; rintro e w' ⟨rfl, rfl⟩) | (go_at_call 35; refine (put_any c l hA hk).mono ?_; rintro e w1 ⟨ao1, n1, cap1, rfl, ho1, hb1⟩; have hn1 : (16 : Int) < n1 := by (have := ho1.1); (have := HL.out); omega) | (go_at_call 34; refine (copied_any (hA.next hb1) hk).mono ?_; rintro e w2 ⟨ao2, n2, cap2, rfl, hl2, hb2⟩))
      go_ret2
      exact ⟨_, _, _, rfl, hl2, next hb1 hb2⟩
end Go.Proofs.Ytaekiclhddfonaa
