/-
  PROVED HERE: what check.Hides returns when it is called (a contract over this translation). Labels have fewer than 2^20 pairs.
-/
import Derived.Test.YtkhnlgbebbhmbaaChk7
import Derived.RangeFuncBox
namespace Go.Proofs.Ytkhnlgbebbhmbaa
open Go.RowKit Go.Shelf
set_option linter.unusedVariables false
attribute [local go_sem] Oper.semAt_some

/-- The iterator's maker: both labels are boxed, the function captures the boxes. -/
theorem exceeding_any (ao ao' : Option Addr) (n n' cap cap' : Nat) (w : World) :
    Calls Try.prog 50 #[.slice ao n cap, .slice ao' n' cap'] w fun e w' => e = .returned (.func (.func 73) #[] #[.pointer (some ⟨w.heap.size, 0, none⟩), .pointer (some ⟨w.heap.size + 1, 0, none⟩)]) ∧
      w' = (w.alloc (.cells #[.slice ao n cap] 23)).alloc (.cells #[.slice ao' n' cap'] 23) := by
  go_enter Try.func50, Try.ntmps50
  go_wp2
  go_ret
  exact ⟨rfl, rfl⟩

theorem exc_stops (n : Nat) (hn : 1 ≤ n) (Ba Bb : Nat) (D : Nat → Prop) {ao ao' : Option Addr} {k k' cap cap' : Nat} {A C : List (Int × Int)} (w : World) (hba : Ba < w.heap.size) (hbb : Bb < w.heap.size) (hD : ∀ b, D b → b < w.heap.size)
    (hBa : w.cell? ⟨Ba, 0, none⟩ = some (.slice ao k cap)) (hBb : w.cell? ⟨Bb, 0, none⟩ = some (.slice ao' k' cap')) (hA : LabD D w ao k cap A) (hC : LabD D w ao' k' cap' C) :
    SeqStopsK Fence.wide n Try.prog 73 #[.pointer (some ⟨Ba, 0, none⟩), .pointer (some ⟨Bb, 0, none⟩)] encU (Keeps D) (fun ys => ys = exc A C) (fun pre => pre <+: exc A C) (exc A C).length w := fun l J Jx W hW hJ _ hY h0 =>
  have hk : Keeps D w W := ⟨hW.size, fun b hb => hW.block b (hD b hb)⟩
  exc1_in n hn l Ba Bb D J Jx hY W hJ (fun b hb => Nat.lt_of_lt_of_le (hD b hb) hW.size) ((hW.cell (p := ⟨Ba, 0, none⟩) hba).trans hBa) ((hW.cell (p := ⟨Bb, 0, none⟩) hbb).trans hBb) (hA.later hk) (hC.later hk) h0

theorem OwnL.labD {base : Nat} {w : World} {ao : Option Addr} {n cap : Nat} {L : List (Int × Int)} (h : OwnL base w ao n cap L) : LabD (fun b => base ≤ b ∧ b < w.heap.size) w ao n cap L := by
  obtain ⟨h1, h2, h3, h4⟩ := h.lab
  refine ⟨h1, h2, h3, fun hn => ?_⟩
  obtain ⟨b, off, e, hb, hc⟩ := h4 hn
  refine ⟨b, off, e, ⟨?_, hb⟩, hc⟩
  rcases h.2.2 with ⟨hv, h0⟩ | ⟨g, cap', cur, hv, hg, _⟩
  · omega
  · simp only [Value.slice.injEq] at hv
    rw [hv.1] at e
    simp only [Option.some.injEq, Addr.mk.injEq] at e
    omega
theorem LabD.imp {D E : Nat → Prop} {w : World} {ao : Option Addr} {n cap : Nat} {L : List (Int × Int)} (h : LabD D w ao n cap L) (k : ∀ b, D b → E b) : LabD E w ao n cap L := by
  obtain ⟨h1, h2, h3, h4⟩ := h
  refine ⟨h1, h2, h3, fun hn => ?_⟩
  obtain ⟨b, off, e, hb, hc⟩ := h4 hn
  exact ⟨b, off, e, k b hb, hc⟩
theorem ownsRow_base {W : World} {b b' : Nat} {e : TypeId} {size : Nat} {v : Value} {k : Nat} {xs : List Value} (hb : b' ≤ b) (h : W.ownsRow b e size v k xs) : W.ownsRow b' e size v k xs := by
  refine ⟨h.1, ?_⟩
  rcases h.2 with h0 | ⟨g, c, cur, h1, h2, h3⟩
  · exact .inl h0
  · exact .inr ⟨g, c, cur, h1, Nat.le_trans hb h2, h3⟩
/-- Behind an append to a row in a box, and the store back. -/
theorem app_back {W w1 : World} {s r B : Nat} {t e : TypeId} {size : Nat} {v v' : Value} {k m : Nat} {xs ys : List Value} {tmp : Obj} (hv : Boxed W B t v) (hte : t ≠ e) (hrow : W.ownsRow r e size v k xs) (hs : s ≤ W.heap.size) (hsr : s ≤ r) (hB : s ≤ B)
    (hown' : w1.ownsRow r e size v' m ys) (hgrow : (W.alloc tmp).grownBy w1 v.ownBlock) :
    Boxed w1 B t v ∧ Boxed (w1.setCell ⟨B, 0, none⟩ v') B t v' ∧ (w1.setCell ⟨B, 0, none⟩ v').ownsRow r e size v' m ys ∧ KeepsOthers W (w1.setCell ⟨B, 0, none⟩ v') ∧ Below s W (w1.setCell ⟨B, 0, none⟩ v') ∧
    (∀ B' t' u, Boxed W B' t' u → t' ≠ e → B' ≠ B → Boxed (w1.setCell ⟨B, 0, none⟩ v') B' t' u) ∧ (∀ b, b < W.heap.size → b < r → b ≠ B → (w1.setCell ⟨B, 0, none⟩ v').heap[b]? = W.heap[b]?) := by
  obtain ⟨h1, h2, _, h4, h5⟩ := hv.appended hte (ownsRow_base hsr hrow) hs hB (ownsRow_base hsr hown') hgrow
  refine ⟨h1, h2, hown'.kept (grownBy_setCell' w1 B v') (.inr (h1.not_row hte hown').symm), h4, h5, ?_, ?_⟩
  · intro B' t' u hu ht hne
    exact ((hu.alloc tmp).kept hgrow (hu.not_row ht hrow)).other hne _
  intro b hbW hbr hne
  rw [Below.heap_setCell w1 ⟨B, 0, none⟩ _ b hne]
  refine (hgrow.block b (by simp; omega) (fun e' => ?_)).trans (Below.heap_alloc W tmp b hbW)
  have := (hrow.lt b e'.symm).1
  omega

theorem Cts.row {base : Nat} {w : World} {ao : Option Addr} {n cap : Nat} {C : List Int} (h : w.ownsRow base 37 1 (.slice ao n cap) C.length (C.map (Value.int .u64))) : Cts w.heap.size w ao n cap C := by
  obtain ⟨a, c, e, hc⟩ := Cts.of_row h
  simp only [Value.slice.injEq] at e
  obtain ⟨rfl, rfl, rfl⟩ := e
  exact hc
theorem exc_len (A C : List (Int × Int)) : (exc A C).length ≤ A.length + C.length := by
  unfold exc
  rw [List.length_map]
  exact Nat.le_trans (List.length_filter_le _ _) (both_len A C)
theorem raiseL_len (A : List (Int × Int)) : (raiseL A).length ≤ A.length := by
  have h2 := foldP_len (fun x _ => Lv.raise x) (both A [])
  have h3 := both_len A []
  unfold raiseL
  simp at h3
  omega

set_option maxRecDepth 100000 in
set_option maxHeartbeats 2000000 in
theorem hides_any {w : World} {ao ao' : Option Addr} {k k' cap cap' : Nat} {A C : List (Int × Int)} (hA : Lab w.heap.size w ao k cap A) (hC : Lab w.heap.size w ao' k' cap' C) (hk : k < 1048576) (hk' : k' < 1048576) :
    Calls Try.prog 28 #[.slice ao k cap, .slice ao' k' cap'] w fun e w' => ∃ ao1 n1 cap1, e = .returned (.slice ao1 n1 cap1) ∧ Cts w'.heap.size w' ao1 n1 cap1 (exc (raiseL A) C) ∧ Below w.heap.size w w' := by
  obtain ⟨i0, hi, hz0, hz1, hz2⟩ := info_parts infoU64
  have hB1 := (Below.refl w.heap.size w).alloc (Nat.le_refl _) (.cells #[.slice none 0 0] 31)
  have bO0 := Boxed.new w 31 (.slice none 0 0)
  have hA1 := hA.next hB1
  refine (callsIn_wide (n := 5)).1 ?_
  refine callsIn_of_wp_marks Try.func28 rfl trivial ?_ rfl
  simp only [Try.ntmps28, List.size_toArray, List.length_cons, List.length_nil, Nat.reduceAdd, Nat.reduceSub, Array.replicate_succ, Array.replicate_zero, List.push_toArray, List.append_toArray, List.nil_append, List.cons_append]
  gi_wp2_with (first | (refine ⟨trivial, ?_⟩; gi_at_call 44; refine (callsIn_wide.2 (lraise_any hA1 (by omega))).mono ?_; rintro e w1 ⟨ar, nr, cr, rfl, hr, hb1⟩) | (refine ⟨trivial, ?_⟩; gi_at_call 50; refine (callsIn_wide.2 (exceeding_any _ _ _ _ _ _ _)).mono ?_; rintro e w' ⟨rfl, rfl⟩))
  have hrr : OwnL (w.alloc (.cells #[.slice none 0 0] 31)).heap.size w1 ar nr cr (raiseL A) := hr
  clear hr
  have hs1 := hb1.size
  rw [World.size_alloc] at hs1
  have hBw : Below w.heap.size w w1 := hB1.trans (hb1.mono (by simp))
  have bO := ((Boxed.next bO0 hb1).alloc (.cells #[.slice ar nr cr] 23)).alloc (.cells #[.slice ao' k' cap'] 23)
  have bA := (Boxed.new w1 23 (.slice ar nr cr)).alloc (.cells #[.slice ao' k' cap'] 23)
  have bC := Boxed.new (w1.alloc (.cells #[.slice ar nr cr] 23)) 23 (.slice ao' k' cap')
  simp only [World.size_alloc] at bC
  have hB2 : Below w1.heap.size w1 ((w1.alloc (.cells #[.slice ar nr cr] 23)).alloc (.cells #[.slice ao' k' cap'] 23)) := ((Below.refl _ w1).alloc (Nat.le_refl _) _).alloc (by simp) _
  have hsz : ((w1.alloc (.cells #[.slice ar nr cr] 23)).alloc (.cells #[.slice ao' k' cap'] 23)).heap.size = w1.heap.size + 2 := by simp
  have hRl := hrr.1
  have hLA : LabD (fun b => b < w1.heap.size ∧ b ≠ w.heap.size) w1 ar nr cr (raiseL A) := hrr.labD.imp (fun b hb => ⟨hb.2, by have := hb.1; rw [World.size_alloc] at this; omega⟩)
  have hLC : LabD (fun b => b < w1.heap.size ∧ b ≠ w.heap.size) w1 ao' k' cap' C := (hC.later hBw).labD (fun b hb => ⟨by omega, by omega⟩)
  have hkp : Keeps (fun b => b < w1.heap.size ∧ b ≠ w.heap.size) w1 ((w1.alloc (.cells #[.slice ar nr cr] 23)).alloc (.cells #[.slice ao' k' cap'] 23)) := ⟨hB2.size, fun b hb => hB2.block b hb.1⟩
  have hLA2 := hLA.later hkp
  have hLC2 := hLC.later hkp
  have hBW : Below w.heap.size w ((w1.alloc (.cells #[.slice ar nr cr] 23)).alloc (.cells #[.slice ao' k' cap'] 23)) := hBw.trans (hB2.mono hBw.size)
  obtain ⟨W0, hW0⟩ : ∃ W0, (w1.alloc (.cells #[.slice ar nr cr] 23)).alloc (.cells #[.slice ao' k' cap'] 23) = W0 := ⟨_, rfl⟩
  rw [hW0] at bO bA bC hsz hLA2 hLC2 hBW ⊢
  clear hW0 hkp hB2 hLA hLC
  have hel : (exc (raiseL A) C).length ≤ 2097152 := by have := exc_len (raiseL A) C; have := raiseL_len A; have := hA.1; have := hC.1; omega
  refine wpIn_rangeFunc_ownH rfl (by omega) (gf := 73) (lb := #[.pointer (some ⟨w1.heap.size, 0, none⟩), .pointer (some ⟨w1.heap.size + 1, 0, none⟩)]) rfl trivial (enters_of Try.func73 (by kernel_rfl) rfl)
    (exc_stops _ (by omega) w1.heap.size (w1.heap.size + 1) (fun b => b < w1.heap.size ∧ b ≠ w.heap.size) W0 (by omega) (by omega) (fun b hb => by have := hb.1; omega) bA.cell bC.cell hLA2 hLC2) keepsK_t (keepsK_b (fun b hb => by have := hb.1; omega)) (Below.refl _ _) (fun _ => rfl)
    (fun pre W => ((∃ v, Boxed W w.heap.size 31 v ∧ W.ownsRow w1.heap.size 37 1 v pre.length (pre.map (Value.int .u64)) ∧ True) ∧ Boxed W w1.heap.size 23 (.slice ar nr cr)) ∧ Below w.heap.size w W)
    (fun _ _ _ => False)
    (OwnFrom.and (OwnFrom.and (Own.from (holdsRow_own w1.heap.size w.heap.size 31 37 1 (fun (pre : List Int) => pre.length) (fun (pre : List Int) => pre.map (Value.int .u64)) (fun _ _ => True)) _) (Own.from (boxed_own _ _ _) _)) (ownFrom_below (Nat.le_refl _) (by omega)))
    (fun _ _ _ _ _ hs _ _ => hs)
    ⟨⟨⟨_, bO, World.ownsRow_nil _ _ _ _, trivial⟩, bA⟩, hBW⟩
    (fun x a' _ => a' = { tmps := #[.slice ao k cap, .slice ao' k' cap', undef, undef, .slice none 0 0, .pointer (some ⟨w.heap.size, 0, none⟩), .int .u64 x, .slice ao k cap, .slice ar nr cr, .slice ao' k' cap', .func (.func 73) #[] #[.pointer (some ⟨w1.heap.size, 0, none⟩), .pointer (some ⟨w1.heap.size + 1, 0, none⟩)], .int .u64 x, undef, undef, undef, undef, undef], defers := [] })
    (fun x a' _ X Y row hs hg hr => hs)
    ?assign ?body ?done ?stop
  case assign =>
    rintro l pre x W K hJ hK
    dsimp only [encU]
    gi_wp2
    exact hK _ _ (KeepsFrom.refl _ _) (Keeps.refl _ _) hJ rfl
  case body =>
    rintro l pre x a' W hl ⟨rr, hrr⟩ ⟨⟨⟨v, bO1, hrow, _⟩, bA1⟩, hB⟩ rfl hlt
    have cO := bO1.cell
    have hA1 := bA1.lt
    gi_wp2_with (gi_at_builtin; refine wpListIn_append_own _ rfl _ _ 31 rfl w1.heap.size 37 i0 (.int .u64 0) 1 8 Try.underlying31 hi hz0 hz1 hz2 rfl (by decide) _ _ _ rfl (hrow.alloc _) ⟨W.heap.size, 0, none⟩ 1 1 [.int .u64 x] rfl rfl (cell_one_new _ _ _) (by simp [Value.oneCell']) (by unfold maxLen; omega) (by omega) (by simp; omega) ?_; intro v' w2 hown' hgrow _; obtain ⟨g', cap', rfl⟩ := ownsRow_two hown'; obtain ⟨hv1, hv2, hr2, hk2, hb2, ho2, hd2⟩ := app_back (s := w.heap.size) bO1 (by decide) hrow hB.size (by omega) (Nat.le_refl _) hown' hgrow; have hc1 := hv1.cell; have hf1 := hv1.frozen)
    exact ⟨hk2.from _, ⟨Nat.le_trans hb2.size (Nat.le_refl _), fun b hb => hd2 b (by have := hb.1; omega) hb.1 hb.2⟩, ⟨⟨_, hv2, by simpa using hr2, trivial⟩, ho2 _ _ _ bA1 (by decide) (by omega)⟩, hB.trans hb2⟩
  case done =>
    rintro Dd ys W hD rfl ⟨⟨⟨v, bO1, hrow, _⟩, bA1⟩, hB⟩ hK
    obtain ⟨aoL, capL, rfl, _⟩ := Cts.of_row hrow
    have cO := bO1.cell
    gi_wp2
    refine ⟨by simp, .inl ⟨_, _, rfl, run_takeDeferred hK, ?_⟩⟩
    exact ⟨_, results_tmp rfl _ _ _, _, _, _, rfl, Cts.row (ownsRow_putObj hrow _ hK rfl), hB.trans (belowK_b (w := w) (Nat.le_refl _) W Dd _ _ (by omega) hK rfl rfl)⟩
  case stop =>
    rintro D c pre W _ _ h _
    exact h.elim
end Go.Proofs.Ytkhnlgbebbhmbaa
