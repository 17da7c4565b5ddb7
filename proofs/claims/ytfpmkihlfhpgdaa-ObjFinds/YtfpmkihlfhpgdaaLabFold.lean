/-
  PROVED HERE: what label.fold returns when it is called with a function that answers whatever two levels by a level and leaves memory as it lay (a contract over this translation). The labels have fewer than 2^38 pairs.
-/
import Derived.Test.YtfpmkihlfhpgdaaLabIter
import Derived.Test.YtfpmkihlfhpgdaaRoundHeld
import Derived.WalkSpells
namespace Go.Proofs.Ytfpmkihlfhpgdaa
open Go.RowKit Go.Shelf
set_option linter.unusedVariables false
attribute [local go_sem] Oper.semAt_some

def foldP (op : Int → Int → Int) (pre : List (Int × (Int × Int))) : List (Int × Int) := pre.foldl (fun acc x => snoc acc x.1 (op x.2.1 x.2.2)) []
theorem foldP_snoc (op : Int → Int → Int) (pre : List (Int × (Int × Int))) (x : Int × (Int × Int)) : foldP op (pre ++ [x]) = snoc (foldP op pre) x.1 (op x.2.1 x.2.2) := by simp [foldP]
theorem foldP_len (op : Int → Int → Int) (pre : List (Int × (Int × Int))) : (foldP op pre).length ≤ pre.length := by
  have : ∀ (pre : List (Int × (Int × Int))) (acc : List (Int × Int)), (pre.foldl (fun acc x => snoc acc x.1 (op x.2.1 x.2.2)) acc).length ≤ acc.length + pre.length := by
    intro pre
    induction pre with
    | nil => intro acc; simp
    | cons x r ih => intro acc; have h1 := ih (snoc acc x.1 (op x.2.1 x.2.2)); have h2 := snoc_len acc x.1 (op x.2.1 x.2.2); simp only [List.foldl_cons, List.length_cons]; omega
  have h := this pre []
  simpa [foldP] using h
theorem bothN_len : ∀ (k : Nat) (A C : List (Int × Int)), (bothN k A C).length ≤ k := by
  intro k
  induction k with
  | zero => intro A C; simp [bothN]
  | succ k ih => intro A C; simp only [bothN]; split; simp; simpa using ih _ _
theorem both_len (A C : List (Int × Int)) : (both A C).length ≤ A.length + C.length := bothN_len _ _ _

theorem ownL_of {base : Nat} {W : World} {v : Value} {L : List (Int × Int)} (h : W.ownsRow base 61 2 v L.length (cellsOf L)) : ∃ ao cap, v = .slice ao L.length cap ∧ OwnL base W ao L.length cap L := by
  have h' := h
  rcases h.2 with ⟨rfl, h0⟩ | ⟨g, cap, _, rfl, _⟩
  · refine ⟨none, 0, by rw [h0], rfl, ?_⟩
    rw [h0] at h' ⊢
    exact h'
  · exact ⟨_, _, rfl, rfl, h'⟩
theorem ownL_base {b b' : Nat} {w : World} {ao : Option Addr} {n cap : Nat} {L : List (Int × Int)} (hb : b' ≤ b) (h : OwnL b w ao n cap L) : OwnL b' w ao n cap L := by
  refine ⟨h.1, h.2.1, ?_⟩
  rcases h.2.2 with h0 | ⟨g, c, cur, h1, h2, h3⟩
  · exact .inl h0
  · exact .inr ⟨g, c, cur, h1, Nat.le_trans hb h2, h3⟩
theorem below_grown {w w' : World} (h : Below w.heap.size w w') : w.grownBy w' none := ⟨h.os, h.tape, h.output, h.size, fun k hk _ => h.block k hk⟩
theorem OwnL.next {base : Nat} {w w' : World} {ao : Option Addr} {n cap : Nat} {L : List (Int × Int)} (h : OwnL base w ao n cap L) (k : Below w.heap.size w w') : OwnL base w' ao n cap L := by
  refine ⟨h.1, h.2.kept (below_grown k) ?_⟩
  cases ao with
  | none => exact .inl rfl
  | some a => exact .inr (by simp [Value.ownBlock])
theorem Boxed.next {W W' : World} {B : Nat} {t : TypeId} {v : Value} (h : Boxed W B t v) (k : Below W.heap.size W W') : Boxed W' B t v := h.kept (below_grown k) (by simp)

/-- Behind the callee that puts a pair to a label in a box, and the store back. -/
theorem put_back {W w1 w2 : World} {s r B : Nat} {ao ao' : Option Addr} {n n' cap cap' : Nat} {L L' : List (Int × Int)} (hv : Boxed W B 24 (.slice ao n cap)) (hrow : OwnL r W ao n cap L) (hs : s ≤ W.heap.size) (hsr : s ≤ r) (hB : s ≤ B)
    (hb : Below W.heap.size W w1) (hown : OwnL r w2 ao' n' cap' L') (hg : w1.grownBy w2 (Value.slice ao n cap).ownBlock) :
    Boxed w2 B 24 (.slice ao n cap) ∧ Boxed (w2.setCell ⟨B, 0, none⟩ (.slice ao' n' cap')) B 24 (.slice ao' n' cap') ∧ OwnL r (w2.setCell ⟨B, 0, none⟩ (.slice ao' n' cap')) ao' n' cap' L' ∧
    KeepsOthers W (w2.setCell ⟨B, 0, none⟩ (.slice ao' n' cap')) ∧ Below s W (w2.setCell ⟨B, 0, none⟩ (.slice ao' n' cap')) ∧ (∀ B' t u, Boxed W B' t u → t ≠ 61 → B' ≠ B → Boxed (w2.setCell ⟨B, 0, none⟩ (.slice ao' n' cap')) B' t u) ∧
    (∀ b, b < W.heap.size → b < r → b ≠ B → (w2.setCell ⟨B, 0, none⟩ (.slice ao' n' cap')).heap[b]? = W.heap[b]?) := by
  have hrow1 := hrow.next hb
  have hv1 := Boxed.next hv hb
  have hv2 : Boxed w2 B 24 (.slice ao n cap) := hv1.kept hg (hv1.not_row (by decide) hrow1.2)
  have hrw : ∀ j o, (Value.slice ao n cap).ownBlock = some j → w1.heap[j]? = some o → s ≤ j ∧ o.isCells = true := by
    intro j o ej hj
    rcases hrow1.2.2 with ⟨hn, _⟩ | ⟨g, cap, cur, hn, hsg, hgb, _⟩
    · rw [hn] at ej; simp [Value.ownBlock] at ej
    · rw [hn] at ej
      obtain rfl : g = j := by simpa [Value.ownBlock] using ej
      rw [hgb] at hj; cases hj; exact ⟨Nat.le_trans hsr hsg, rfl⟩
  refine ⟨hv2, hv2.set _, ⟨hown.1, hown.2.kept (grownBy_setCell' w2 B _) (.inr (hv2.not_row (by decide) hown.2).symm)⟩, ?_, ?_, ?_, ?_⟩
  · refine ((KeepsOthers.of_grownBy (below_grown hb) (fun j o e => by cases e)).trans (KeepsOthers.of_grownBy hg fun j o ej hj => (hrw j o ej hj).2)).trans (KeepsOthers.setCell _ _ _)
  · refine ((hb.mono hs).trans ((Below.refl s w1).grown hg (Nat.le_trans hs hb.size) fun j ej => ?_)).setCell (p := ⟨B, 0, none⟩) hB _
    have hlt := hrow1.2.lt j ej
    exact Nat.le_trans hsr hlt.1
  · intro B' t u hu ht hne
    have hu1 := Boxed.next hu hb
    exact (hu1.kept hg (hu1.not_row ht hrow1.2)).other hne _
  · intro b hbW hbr hne
    rw [Below.heap_setCell w2 ⟨B, 0, none⟩ _ b hne]
    refine (hg.block b (Nat.lt_of_lt_of_le hbW hb.size) (fun e => ?_)).trans (hb.block b hbW)
    have := (hrow1.2.lt b e.symm).1
    omega

theorem not_row {W : World} {b : Nat} {cs : Array Value} {t e : TypeId} {f : Nat × Nat} (h : W.heap[b]? = some (.cells cs t f)) (hte : t ≠ e) {base size k : Nat} {v : Value} {xs : List Value} (hr : W.ownsRow base e size v k xs) : some b ≠ v.ownBlock := by
  rcases hr.2 with ⟨rfl, _⟩ | ⟨g, cap, cur, rfl, _, hgb, _⟩
  · simp [Value.ownBlock]
  · intro e'
    obtain rfl : b = g := by simpa [Value.ownBlock] using e'
    have := h.symm.trans hgb
    simp at this
    exact hte this.2.1
/-- A cell of a block of another type is as it was behind the callee, and behind the store into the box. -/
theorem cell_aside {W w1 w2 : World} {s B b i : Nat} {ao : Option Addr} {n cap : Nat} {L : List (Int × Int)} {cs : Array Value} {t : TypeId} {f : Nat × Nat} {u : Value} (hrow : OwnL s W ao n cap L)
    (hb : Below W.heap.size W w1) (hg : w1.grownBy w2 (Value.slice ao n cap).ownBlock) (h : W.heap[b]? = some (.cells cs t f)) (ht : t ≠ 61) (hc : W.cell? ⟨b, i, none⟩ = some u) (hne : b ≠ B) :
    w2.cell? ⟨b, i, none⟩ = some u ∧ ∀ v, (w2.setCell ⟨B, 0, none⟩ v).cell? ⟨b, i, none⟩ = some u := by
  have hlt : b < W.heap.size := (Array.getElem?_eq_some_iff.1 h).1
  have h1 : w1.heap[b]? = some (.cells cs t f) := (hb.block b hlt).trans h
  have c1 : w1.cell? ⟨b, i, none⟩ = some u := (hb.cell (p := ⟨b, i, none⟩) hlt).trans hc
  have c2 := hg.cell c1 (not_row h1 ht (hrow.next hb).2)
  exact ⟨c2, fun v => (World.cell?_setCell_far w2 ⟨B, 0, none⟩ ⟨b, i, none⟩ v (Ne.symm hne)).trans c2⟩

set_option maxRecDepth 100000 in
set_option maxHeartbeats 2000000 in
theorem fold_any {w : World} {ao ao' : Option Addr} {k k' cap cap' : Nat} {A C : List (Int × Int)} (hA : Lab w.heap.size w ao k cap A) (hC : Lab w.heap.size w ao' k' cap' C) (hk : k < 274877906944) (hk' : k' < 274877906944)
    (g : Nat) (lb : Array Value) (eg : ∀ args w, (callFunc g args).run Try.prog w = .ok (.enter g args) w) (op : Int → Int → Int)
    (hf : ∀ (x y : Int) (W : World), Below w.heap.size w W → Calls Try.prog g (#[.int .i64 x, .int .i64 y] ++ lb) W fun e W' => e = .returned (.int .i64 (op x y)) ∧ Below W.heap.size W W') :
    Calls Try.prog 99 #[.slice ao k cap, .slice ao' k' cap', .func (.func g) #[] lb] w fun e w' => ∃ ao1 n1 cap1, e = .returned (.slice ao1 n1 cap1) ∧ OwnL w.heap.size w' ao1 n1 cap1 (foldP op (both A C)) ∧ Below w.heap.size w w' := by
  refine (callsIn_wide (n := 5)).1 ?_
  refine callsIn_of_wp_marks Try.func99 rfl trivial ?_ rfl
  simp only [Try.ntmps99, List.size_toArray, List.length_cons, List.length_nil, Nat.reduceAdd, Nat.reduceSub, Array.replicate_succ, Array.replicate_zero, List.push_toArray, List.append_toArray, List.nil_append, List.cons_append]
  gi_wp2_with (refine ⟨trivial, ?_⟩; gi_at_call 107; refine (callsIn_wide.2 (both_any _ _ _ _ _ _ _)).mono ?_; rintro e w' ⟨rfl, rfl⟩)
  have bF := (((Boxed.new w 110 (.func (.func g) #[] lb)).alloc (.cells #[.slice none 0 0] 24)).alloc (.cells #[.slice ao k cap] 24)).alloc (.cells #[.slice ao' k' cap'] 24)
  have bO := ((Boxed.new (w.alloc (.cells #[.func (.func g) #[] lb] 110)) 24 (.slice none 0 0)).alloc (.cells #[.slice ao k cap] 24)).alloc (.cells #[.slice ao' k' cap'] 24)
  have bA := (Boxed.new ((w.alloc (.cells #[.func (.func g) #[] lb] 110)).alloc (.cells #[.slice none 0 0] 24)) 24 (.slice ao k cap)).alloc (.cells #[.slice ao' k' cap'] 24)
  have bC := Boxed.new (((w.alloc (.cells #[.func (.func g) #[] lb] 110)).alloc (.cells #[.slice none 0 0] 24)).alloc (.cells #[.slice ao k cap] 24)) 24 (.slice ao' k' cap')
  simp only [World.size_alloc] at bO bA bC
  have hB0 : Below w.heap.size w ((((w.alloc (.cells #[.func (.func g) #[] lb] 110)).alloc (.cells #[.slice none 0 0] 24)).alloc (.cells #[.slice ao k cap] 24)).alloc (.cells #[.slice ao' k' cap'] 24)) := ((((Below.refl _ w).alloc (Nat.le_refl _) _).alloc (by simp) _).alloc (by simp; omega) _).alloc (by simp; omega) _
  have hsz : ((((w.alloc (.cells #[.func (.func g) #[] lb] 110)).alloc (.cells #[.slice none 0 0] 24)).alloc (.cells #[.slice ao k cap] 24)).alloc (.cells #[.slice ao' k' cap'] 24)).heap.size = w.heap.size + 4 := by simp
  obtain ⟨W0, hW0⟩ : ∃ W0, (((w.alloc (.cells #[.func (.func g) #[] lb] 110)).alloc (.cells #[.slice none 0 0] 24)).alloc (.cells #[.slice ao k cap] 24)).alloc (.cells #[.slice ao' k' cap'] 24) = W0 := ⟨_, rfl⟩
  rw [hW0] at bF bO bA bC hB0 hsz ⊢
  clear hW0
  have hbl : (both A C).length ≤ k + k' := by have := both_len A C; have := hA.1; have := hC.1; omega
  refine wpIn_rangeFunc_ownH rfl (by omega) (gf := 111) (lb := #[.pointer (some ⟨w.heap.size + 1 + 1, 0, none⟩), .pointer (some ⟨w.heap.size + 1 + 1 + 1, 0, none⟩)]) rfl trivial (enters_of Try.func111 (by kernel_rfl) rfl)
    (both_stops _ (by omega) (w.heap.size + 1 + 1) (w.heap.size + 1 + 1 + 1) (fun b => b < w.heap.size) W0 (by omega) (by omega) (fun b hb => by omega) bA.cell bC.cell (hA.later hB0) (hC.later hB0)) keepsK_t (keepsK_b (fun b hb => by omega)) (Below.refl _ _) (fun _ => rfl)
    (fun pre W => ((∃ v, Boxed W (w.heap.size + 1) 24 v ∧ W.ownsRow w.heap.size 61 2 v (foldP op pre).length (cellsOf (foldP op pre)) ∧ True) ∧ Boxed W w.heap.size 110 (.func (.func g) #[] lb)) ∧ Below w.heap.size w W)
    (fun _ _ _ => False)
    (OwnFrom.and (OwnFrom.and (Own.from (holdsRow_own w.heap.size (w.heap.size + 1) 24 61 2 (fun pre => (foldP op pre).length) (fun pre => cellsOf (foldP op pre)) (fun _ _ => True)) _) (Own.from (boxed_own _ _ _) _)) (ownFrom_below (Nat.le_refl _) (by omega)))
    (fun _ _ _ _ _ hs _ _ => hs)
    ⟨⟨⟨_, bO, World.ownsRow_nil _ _ _ _, trivial⟩, bF⟩, hB0⟩
    (fun x a' W => ∃ Bx, w.heap.size + 1 < Bx ∧ Two W Bx 118 (.int .i64 x.2.1) (.int .i64 x.2.2) ∧ a' = { tmps := #[.slice ao k cap, .slice ao' k' cap', .func (.func g) #[] lb, undef, undef, .pointer (some ⟨w.heap.size, 0, none⟩), .slice none 0 0, .pointer (some ⟨w.heap.size + 1, 0, none⟩), .int .u64 x.1, .pointer (some ⟨Bx, 0, none⟩), .slice ao k cap, .slice ao' k' cap', .func (.func 111) #[] #[.pointer (some ⟨w.heap.size + 1 + 1, 0, none⟩), .pointer (some ⟨w.heap.size + 1 + 1 + 1, 0, none⟩)], .int .u64 x.1, .agg #[.int .i64 x.2.1, .int .i64 x.2.2], undef, undef, undef, undef, undef, undef, undef, undef, undef, undef], defers := [] })
    (fun x a' _ X Y row hs hg hr => by obtain ⟨Bx, h1, h2, h3⟩ := hs; exact ⟨Bx, h1, two_own Bx _ (fun (_ : Unit) => Value.int .i64 x.2.1) (fun _ => Value.int .i64 x.2.2) () X Y row h2 hg (fun r e => (hr r e).2), h3⟩)
    ?assign ?body ?done ?stop
  case assign =>
    rintro l pre x W K ⟨⟨⟨v, bO1, hrow, _⟩, bF1⟩, hB1⟩ hK
    dsimp only [encP]
    gi_wp2
    exact hK _ _ ((KeepsOthers.alloc _ _).from _) (keeps_of_below ((Below.refl _ W).alloc hB1.size _)) ⟨⟨⟨v, bO1.alloc _, hrow.alloc _, trivial⟩, bF1.alloc _⟩, hB1.alloc hB1.size _⟩ ⟨W.heap.size, bO1.lt, Two.new W _ _ _, rfl⟩
  case body =>
    rintro l pre x a' W hl ⟨r, hr⟩ ⟨⟨⟨v, bO1, hrow, _⟩, bF1⟩, hB1⟩ ⟨Bx, hBx, bX, rfl⟩ hlt
    have hmx : Try.prog.follows .mixedOrders = true := by kernel_rfl
    obtain ⟨aoL, capL, rfl, hown⟩ := ownL_of hrow
    have hfl := foldP_len op pre
    have hN : (foldP op pre).length < 1099511627776 := by omega
    have c0 := bX.cell0
    have c1 := bX.cell1
    have cO := bO1.cell
    have cF := bF1.cell
    gi_wp2
    refine region_round (S := fun w' => w'.cell? ⟨w.heap.size, 0, none⟩ = some (.func (.func g) #[] lb) ∧ w'.cell? ⟨Bx, 0, none⟩ = some (.int .i64 x.2.1) ∧ w'.cell? ⟨Bx, 1, none⟩ = some (.int .i64 x.2.2)) hmx (by kernel_rfl) (by rintro ⟨_, _, h⟩; exact h) ⟨cF, c0, c1⟩ (fun hS => ?_)
    refine wpAnyH_take (i := 1) (v := .int .u64 x.1) rfl (by kernel_rfl) (by kernel_rfl) (by kernel_rfl) (fun _ _ _ h => h) (Or.inl ⟨by rfl, fun w2 hS2 => by (obtain ⟨s1, s2, s3⟩ := hS2); go_simp⟩) hS ?_
    simp only [Act.put]
    refine wpAnyH_take (i := 2) (v := .func (.func g) #[] lb) rfl (by kernel_rfl) (by kernel_rfl) (by kernel_rfl) (fun _ _ _ h => h) (Or.inl ⟨by rfl, fun w2 hS2 => by (obtain ⟨s1, s2, s3⟩ := hS2); go_simp⟩) hS ?_
    simp only [Act.put]
    refine wpAnyH_take (i := 3) (v := .pointer (some ⟨Bx, 0, none⟩)) rfl (by kernel_rfl) (by kernel_rfl) (by kernel_rfl) (fun _ _ _ h => h) (Or.inl ⟨by rfl, fun w2 hS2 => by (obtain ⟨s1, s2, s3⟩ := hS2); go_simp⟩) hS ?_
    simp only [Act.put]
    refine wpAnyH_take (i := 4) (v := .int .i64 x.2.1) rfl (by kernel_rfl) (by kernel_rfl) (by kernel_rfl) (fun _ _ _ h => h) (Or.inl ⟨by rfl, fun w2 hS2 => by (obtain ⟨s1, s2, s3⟩ := hS2); go_simp⟩) hS ?_
    simp only [Act.put]
    refine wpAnyH_take (i := 5) (v := .pointer (some ⟨Bx, 1, none⟩)) rfl (by kernel_rfl) (by kernel_rfl) (by kernel_rfl) (fun _ _ _ h => h) (Or.inl ⟨by rfl, fun w2 hS2 => by (obtain ⟨s1, s2, s3⟩ := hS2); go_simp⟩) hS ?_
    simp only [Act.put]
    refine wpAnyH_take (i := 6) (v := .int .i64 x.2.2) rfl (by kernel_rfl) (by kernel_rfl) (by kernel_rfl) (fun _ _ _ h => h) (Or.inl ⟨by rfl, fun w2 hS2 => by (obtain ⟨s1, s2, s3⟩ := hS2); go_simp⟩) hS ?_
    simp only [Act.put]
    refine wpAnyH_ready (rs := [0, 7]) (by kernel_rfl) (by simp) ?_
    refine AllReadyH.cons rfl (fun K hK => ?_) (AllReadyH.cons rfl (fun K hK => ?_) AllReadyH.nil)
    · go_simp
      refine hK.out _ _ hS (fun _ => ?_)
      clear hK K
      refine wpAnyH_ready (rs := [7]) (by kernel_rfl) (by simp) ?_
      refine AllReadyH.cons rfl (fun K hK => ?_) AllReadyH.nil
      go_simp
      refine (hf _ _ _ hB1.drew).mono ?_
      rintro e w1 ⟨rfl, hb0⟩
      have hb1 := (Below.refl W.heap.size W).drew.trans hb0
      have cO1 := cell_later hb1 cO
      refine hK.out _ _ ⟨cell_later hb1 cF, cell_later hb1 c0, cell_later hb1 c1⟩ (fun hS1 => ?_)
      clear hK K
      refine wpAnyH_ready (rs := [8]) (by kernel_rfl) (by simp) ?_
      refine AllReadyH.cons rfl (fun K hK => ?_) AllReadyH.nil
      go_simp
      refine (with_any _ _ (hown.next hb1) (Nat.le_trans hB1.size hb1.size) hN).mono ?_
      rintro e w2 ⟨ao2, n2, cap2, rfl, hown2, hg2⟩
      obtain ⟨q1, q2, q3, q4, q5, q6, _⟩ := put_back bO1 hown hB1.size (Nat.le_refl _) (Nat.le_succ _) hb1 hown2 hg2
      have a1 := cell_aside (B := w.heap.size + 1) hown hb1 hg2 bF1 (by decide) cF (by omega)
      have a2 := cell_aside (B := w.heap.size + 1) hown hb1 hg2 bX (by decide) c0 (by omega)
      have a3 := cell_aside (B := w.heap.size + 1) hown hb1 hg2 bX (by decide) c1 (by omega)
      have cO2 := q1.cell
      have fO2 := q1.frozen
      refine hK.out _ _ ⟨a1.1, a2.1, a3.1⟩ (fun hS2 => ?_)
      clear hK K
      refine wpAnyH_ready (rs := [9]) (by kernel_rfl) (by simp) ?_
      refine AllReadyH.cons rfl (fun K hK => ?_) AllReadyH.nil
      go_simp
      refine hK.out _ _ ⟨a1.2 _, a2.2 _, a3.2 _⟩ (fun hS3 => ?_)
      clear hK K
      refine wpAnyH_done (by kernel_rfl) ?_ _
      exact ⟨q4.from _, keeps_of_below q5, ⟨⟨_, q2, by rw [foldP_snoc, ← q3.1] at *; exact q3.2, trivial⟩, q6 _ _ _ bF1 (by decide) (by omega)⟩, hB1.trans q5⟩
    · go_simp
      refine (hf _ _ _ hB1.drew).mono ?_
      rintro e w1 ⟨rfl, hb0⟩
      have hb1 := (Below.refl W.heap.size W).drew.trans hb0
      have cO1 := cell_later hb1 cO
      refine hK.out _ _ ⟨cell_later hb1 cF, cell_later hb1 c0, cell_later hb1 c1⟩ (fun hS1 => ?_)
      clear hK K
      refine wpAnyH_ready (rs := [0]) (by kernel_rfl) (by simp) ?_
      refine AllReadyH.cons rfl (fun K hK => ?_) AllReadyH.nil
      go_simp
      refine hK.out _ _ hS1 (fun _ => ?_)
      clear hK K
      refine wpAnyH_ready (rs := [8]) (by kernel_rfl) (by simp) ?_
      refine AllReadyH.cons rfl (fun K hK => ?_) AllReadyH.nil
      go_simp
      refine (with_any _ _ (hown.next hb1) (Nat.le_trans hB1.size hb1.size) hN).mono ?_
      rintro e w2 ⟨ao2, n2, cap2, rfl, hown2, hg2⟩
      obtain ⟨q1, q2, q3, q4, q5, q6, _⟩ := put_back bO1 hown hB1.size (Nat.le_refl _) (Nat.le_succ _) hb1 hown2 hg2
      have a1 := cell_aside (B := w.heap.size + 1) hown hb1 hg2 bF1 (by decide) cF (by omega)
      have a2 := cell_aside (B := w.heap.size + 1) hown hb1 hg2 bX (by decide) c0 (by omega)
      have a3 := cell_aside (B := w.heap.size + 1) hown hb1 hg2 bX (by decide) c1 (by omega)
      have cO2 := q1.cell
      have fO2 := q1.frozen
      refine hK.out _ _ ⟨a1.1, a2.1, a3.1⟩ (fun hS2 => ?_)
      clear hK K
      refine wpAnyH_ready (rs := [9]) (by kernel_rfl) (by simp) ?_
      refine AllReadyH.cons rfl (fun K hK => ?_) AllReadyH.nil
      go_simp
      refine hK.out _ _ ⟨a1.2 _, a2.2 _, a3.2 _⟩ (fun hS3 => ?_)
      clear hK K
      refine wpAnyH_done (by kernel_rfl) ?_ _
      exact ⟨q4.from _, keeps_of_below q5, ⟨⟨_, q2, by rw [foldP_snoc, ← q3.1] at *; exact q3.2, trivial⟩, q6 _ _ _ bF1 (by decide) (by omega)⟩, hB1.trans q5⟩
  case done =>
    rintro D ys W hD rfl ⟨⟨⟨v, bO1, hrow, _⟩, bF1⟩, hB⟩ hK
    obtain ⟨aoL, capL, rfl, hown⟩ := ownL_of hrow
    have cO := bO1.cell
    gi_wp2
    refine ⟨by simp, .inl ⟨_, _, rfl, run_takeDeferred hK, ?_⟩⟩
    exact ⟨_, results_tmp rfl _ _ _, _, _, _, rfl, ⟨hown.1, ownsRow_putObj hown.2 _ hK rfl⟩, hB.trans (belowK_b (w := w) (Nat.le_refl _) W D _ _ (by omega) hK rfl rfl)⟩
  case stop =>
    rintro D c pre W _ _ h _
    exact h.elim
end Go.Proofs.Ytfpmkihlfhpgdaa
