/-
 PROVED HERE: a region that draws its order, in the round of a loop over an iterator: what is shown of it outside a round ho. What is asked stands at each.
-/
import Derived.OrdersHeld
import Derived.OrdersIn
import Derived.Deep.RegionHeld
import Derived.RangeFuncCalls
import Derived.RangeFuncNested
import Derived.OwnWalkIn
import Derived.WalkSpells
import Derived.Laws.AppendOwnNone
import Derived.Test.YtdeddhojjolihaaGreatZ0
import Derived.Test.YtdeddhojjolihaaGreatZ2
import Derived.Test.YtdeddhojjolihaaGreatZ3
namespace Go.Proofs.YtdeddhojjolihaaGreat
set_option maxRecDepth 100000
set_option maxHeartbeats 8000000
set_option linter.unusedVariables false
open Go.Proofs.Tryz
section
open Go.RowKit
def noDefer (ops : Array Oper) : Bool := ops.all fun o => match o.op with | .defer _ => false | _ => true
variable {ops : Array Oper}
theorem noDefer_spec (h : noDefer ops = true) {i : Nat} {o : Oper} (ho : ops[i]? = some o) : ∀ c, o.op ≠ .defer c := by
 intro c e
 have hm : o ∈ ops := Array.mem_of_getElem? ho
 have := Array.all_eq_true_iff_forall_mem.1 h o hm
 rw [e] at this
 cases this
variable {Q : Exit → Act → World → Prop} {P : Program}
theorem wpOp_round (hd : noDefer ops = true) (hl : ¬ LetsOut Q) (l n i : Nat) {K : Act → World → Prop} {a : Act} {w : World} (h : wpOp P ops Q i K a w) :
  wpOpIn (Fence.wide.inRound l) n P ops Q i K a w := by
 unfold wpOp at h
 unfold wpOpIn
 cases ho : ops[i]? with
 | none => simpa [ho] using h
 | some o =>
  simp only [ho] at h ⊢
  split
  ·rename_i hw
   rw [if_pos hw] at h
   rcases h with h | ⟨_, h⟩
   ·refine ⟨fun _ _ => trivial, ?_⟩
    rw [Oper.semAt_plain (Fence.wide.inRound l) _ o (noDefer_spec hd ho)]
    unfold Oper.wp at h
    generalize (execOp a.eval o).run P w = r at *
    cases r with
    | ok nx w' =>
     cases nx with
     | enter f args => exact ⟨fun e => (by cases e), CallsIn.inRound l (callsIn_wide.2 h)⟩
     | value v => exact h
     | skip => exact h
     | defer d => exact h
     | row row args => exact ⟨fun e => (by cases e), fun c cs _ => (by obtain ⟨v, w2, r, s⟩ := h c cs; exact ⟨v, w2, r, stepsIn_wide.2 s⟩)⟩
     | _ => exact h.elim
    | halt x w' => cases x <;> exact h
   ·exact absurd h hl
  ·rename_i hw
   rw [if_neg hw] at h
   exact ⟨fun _ _ => trivial, h⟩
theorem wpAny_round {md : Region.Mode} (hd : noDefer ops = true) (hl : ¬ LetsOut Q) (l n : Nat) :
  ∀ (fuel : Nat) (listed : Array Bool) (a : Act) (w : World), wpAny P md ops Q fuel listed a w → wpAnyIn (Fence.wide.inRound l) n P md ops Q fuel listed a w
 | 0, _, _, _, h => h
 | fuel + 1, _, _, _, h => ⟨h.1, fun i hi => wpOpIn_mono (fun a' w' h' => wpAny_round hd hl l n fuel _ a' w' h') (wpOp_round hd hl l n i (h.2 i hi))⟩
theorem region_round {S : World → Prop} {id l n : Nat} {a : Act} {w : World} (hm : P.follows .mixedOrders = true) (hd : noDefer ops = true) (hl : ¬ LetsOut Q)
  (hS : S w.drew) (h : S w.drew → wpAnyH P .any ops Q S ops.size (Array.replicate ops.size false) a w.drew) : (Code.region id ops true).wpIn (Fence.wide.inRound l) n P Q a w :=
 wpIn_region_any hm (wpAny_round hd hl l n _ _ _ _ (wpAny_of_held _ _ _ _ (h hS)))
end
section
open Go.RowKit Go.Shelf
attribute [local go_sem] Oper.semAt_some
def xrz (op : Int → Int → Int) (pre : List (Int × (Int × Int))) : List (Int × Int) := pre.foldl (fun acc x => snoc acc x.1 (op x.2.1 x.2.2)) []
theorem jaz (op : Int → Int → Int) (pre : List (Int × (Int × Int))) (x : Int × (Int × Int)) : xrz op (pre ++ [x]) = snoc (xrz op pre) x.1 (op x.2.1 x.2.2) := by simp [xrz]
theorem j9z (op : Int → Int → Int) (pre : List (Int × (Int × Int))) : (xrz op pre).length ≤ pre.length := by
 have : ∀ (pre : List (Int × (Int × Int))) (acc : List (Int × Int)), (pre.foldl (fun acc x => snoc acc x.1 (op x.2.1 x.2.2)) acc).length ≤ acc.length + pre.length := by
  intro pre
  induction pre with
  | nil => intro acc; simp
  | cons x r ih => intro acc; have h1 := ih (snoc acc x.1 (op x.2.1 x.2.2)); have h2 := snoc_len acc x.1 (op x.2.1 x.2.2); simp only [List.foldl_cons, List.length_cons]; omega
 have h := this pre []
 simpa [xrz] using h
theorem guz : ∀ (k : Nat) (A C : List (Int × Int)), (x7z k A C).length ≤ k := by
 intro k
 induction k with
 | zero => intro A C; simp [x7z]
 | succ k ih => intro A C; simp only [x7z]; split; simp; simpa using ih _ _
theorem yhz (A C : List (Int × Int)) : (both A C).length ≤ A.length + C.length := guz _ _ _
variable {L : List (Int × Int)} {v : Value}
theorem uGz {base : Nat} {W : World} (h : W.ownsRow base 111 2 v L.length (cellsOf L)) : ∃ ao cap, v = .slice ao L.length cap ∧ OwnL base W ao L.length cap L := by
 have h' := h
 rcases h.2 with ⟨rfl, h0⟩ | ⟨g, cap, _, rfl, _⟩
 ·refine ⟨none, 0, by rw [h0], rfl, ?_⟩
  rw [h0] at h' ⊢
  exact h'
 ·exact ⟨_, _, rfl, rfl, h'⟩
variable {ao : Option Addr} {n cap : Nat}
theorem uHz {b b' : Nat} {w : World} (hb : b' ≤ b) (h : OwnL b w ao n cap L) : OwnL b' w ao n cap L := by
 refine ⟨h.1, h.2.1, ?_⟩
 rcases h.2.2 with h0 | ⟨g, c, cur, h1, h2, h3⟩
 ·exact .inl h0
 ·exact .inr ⟨g, c, cur, h1, Nat.le_trans hb h2, h3⟩
theorem below_grown {w w' : World} (h : Below w.heap.size w w') : w.grownBy w' none := ⟨h.os, h.tape, h.output, h.size, fun k hk _ => h.block k hk⟩
theorem OwnL.next {base : Nat} {w w' : World} (h : OwnL base w ao n cap L) (k : Below w.heap.size w w') : OwnL base w' ao n cap L := by
 refine ⟨h.1, h.2.kept (below_grown k) ?_⟩
 cases ao with
 | none => exact .inl rfl
 | some a => exact .inr (by simp [Value.ownBlock])
theorem Boxed.next {W W' : World} {B : Nat} {t : TypeId} (h : Boxed W B t v) (k : Below W.heap.size W W') : Boxed W' B t v := h.kept (below_grown k) (by simp)
theorem v2z {W w1 w2 : World} {s r B : Nat} {ao ao' : Option Addr} {n n' cap cap' : Nat} {L L' : List (Int × Int)} (hv : Boxed W B 34 (.slice ao n cap)) (hrow : OwnL r W ao n cap L) (hs : s ≤ W.heap.size) (hsr : s ≤ r) (hB : s ≤ B)
  (hb : Below W.heap.size W w1) (hown : OwnL r w2 ao' n' cap' L') (hg : w1.grownBy w2 (Value.slice ao n cap).ownBlock) :
  Boxed w2 B 34 (.slice ao n cap) ∧ Boxed (w2.setCell ⟨B, 0, none⟩ (.slice ao' n' cap')) B 34 (.slice ao' n' cap') ∧ OwnL r (w2.setCell ⟨B, 0, none⟩ (.slice ao' n' cap')) ao' n' cap' L' ∧
  KeepsOthers W (w2.setCell ⟨B, 0, none⟩ (.slice ao' n' cap')) ∧ Below s W (w2.setCell ⟨B, 0, none⟩ (.slice ao' n' cap')) ∧ (∀ B' t u, Boxed W B' t u → t ≠ 111 → B' ≠ B → Boxed (w2.setCell ⟨B, 0, none⟩ (.slice ao' n' cap')) B' t u) ∧
  (∀ b, b < W.heap.size → b < r → b ≠ B → (w2.setCell ⟨B, 0, none⟩ (.slice ao' n' cap')).heap[b]? = W.heap[b]?) := by
 have hrow1 := hrow.next hb
 have hv1 := Boxed.next hv hb
 have hv2 : Boxed w2 B 34 (.slice ao n cap) := hv1.kept hg (hv1.not_row (by decide) hrow1.2)
 have hrw : ∀ j o, (Value.slice ao n cap).ownBlock = some j → w1.heap[j]? = some o → s ≤ j ∧ o.isCells = true := by
  intro j o ej hj
  rcases hrow1.2.2 with ⟨hn, _⟩ | ⟨g, cap, cur, hn, hsg, hgb, _⟩
  ·rw [hn] at ej; simp [Value.ownBlock] at ej
  ·rw [hn] at ej
   obtain rfl : g = j := by simpa [Value.ownBlock] using ej
   rw [hgb] at hj; cases hj; exact ⟨Nat.le_trans hsr hsg, rfl⟩
 refine ⟨hv2, hv2.set _, ⟨hown.1, hown.2.kept (grownBy_setCell' w2 B _) (.inr (hv2.not_row (by decide) hown.2).symm)⟩, ?_, ?_, ?_, ?_⟩
 ·refine ((KeepsOthers.of_grownBy (below_grown hb) (fun j o e => by cases e)).trans (KeepsOthers.of_grownBy hg fun j o ej hj => (hrw j o ej hj).2)).trans (KeepsOthers.setCell _ _ _)
 ·refine ((hb.mono hs).trans ((Below.refl s w1).grown hg (Nat.le_trans hs hb.size) fun j ej => ?_)).setCell (p := ⟨B, 0, none⟩) hB _
  have hlt := hrow1.2.lt j ej
  exact Nat.le_trans hsr hlt.1
 ·intro B' t u hu ht hne
  have hu1 := Boxed.next hu hb
  exact (hu1.kept hg (hu1.not_row ht hrow1.2)).other hne _
 ·intro b hbW hbr hne
  rw [Below.heap_setCell w2 ⟨B, 0, none⟩ _ b hne]
  refine (hg.block b (Nat.lt_of_lt_of_le hbW hb.size) (fun e => ?_)).trans (hb.block b hbW)
  have := (hrow1.2.lt b e.symm).1
  omega
theorem not_row {W : World} {b : Nat} {cs : Array Value} {t e : TypeId} {f : Nat × Nat} (h : W.heap[b]? = some (.cells cs t f)) (hte : t ≠ e) {base size k : Nat} {xs : List Value} (hr : W.ownsRow base e size v k xs) : some b ≠ v.ownBlock := by
 rcases hr.2 with ⟨rfl, _⟩ | ⟨g, cap, cur, rfl, _, hgb, _⟩
 ·simp [Value.ownBlock]
 ·intro e'
  obtain rfl : b = g := by simpa [Value.ownBlock] using e'
  have := h.symm.trans hgb
  simp at this
  exact hte this.2.1
theorem wDz {W w1 w2 : World} {s B b i : Nat} {cs : Array Value} {t : TypeId} {f : Nat × Nat} {u : Value} (hrow : OwnL s W ao n cap L)
  (hb : Below W.heap.size W w1) (hg : w1.grownBy w2 (Value.slice ao n cap).ownBlock) (h : W.heap[b]? = some (.cells cs t f)) (ht : t ≠ 111) (hc : W.cell? ⟨b, i, none⟩ = some u) (hne : b ≠ B) :
  w2.cell? ⟨b, i, none⟩ = some u ∧ ∀ v, (w2.setCell ⟨B, 0, none⟩ v).cell? ⟨b, i, none⟩ = some u := by
 have hlt : b < W.heap.size := (Array.getElem?_eq_some_iff.1 h).1
 have h1 : w1.heap[b]? = some (.cells cs t f) := (hb.block b hlt).trans h
 have c1 : w1.cell? ⟨b, i, none⟩ = some u := (hb.cell (p := ⟨b, i, none⟩) hlt).trans hc
 have c2 := hg.cell c1 (not_row h1 ht (hrow.next hb).2)
 exact ⟨c2, fun v => (World.cell?_setCell_far w2 ⟨B, 0, none⟩ ⟨b, i, none⟩ v (Ne.symm hne)).trans c2⟩
theorem fold_any {w : World} {ao ao' : Option Addr} {k k' cap cap' : Nat} {A C : List (Int × Int)} (hA : Lab w.heap.size w ao k cap A) (hC : Lab w.heap.size w ao' k' cap' C) (hk : k < 274877906944) (hk' : k' < 274877906944)
  (g : Nat) (lb : Array Value) (eg : ∀ args w, (callFunc g args).run prog w = .ok (.enter g args) w) (op : Int → Int → Int)
  (hf : ∀ (x y : Int) (W : World), Below w.heap.size w W → Calls prog g (#[.int .i64 x, .int .i64 y] ++ lb) W fun e W' => e = .returned (.int .i64 (op x y)) ∧ Below W.heap.size W W') :
  Calls prog 192 #[.slice ao k cap, .slice ao' k' cap', .func (.func g) #[] lb] w fun e w' => ∃ ao1 n1 cap1, e = .returned (.slice ao1 n1 cap1) ∧ OwnL w.heap.size w' ao1 n1 cap1 (xrz op (both A C)) ∧ Below w.heap.size w w' := by
 refine (callsIn_wide (n := 5)).1 ?_
 refine callsIn_of_wp_marks func192 rfl trivial ?_ rfl
 simp only [ntmps192, List.size_toArray, List.length_cons, List.length_nil, Nat.reduceAdd, Nat.reduceSub, Array.replicate_succ, Array.replicate_zero, List.push_toArray, List.append_toArray, List.nil_append, List.cons_append]
 gi_wp2_with (refine ⟨trivial, ?_⟩; gi_at_call 155; refine (callsIn_wide.2 (yiz _ _ _ _ _ _ _)).mono ?_; rintro e w' ⟨rfl, rfl⟩)
 have bF := (((Boxed.new w 159 (.func (.func g) #[] lb)).alloc (.cells #[.slice none 0 0] 34)).alloc (.cells #[.slice ao k cap] 34)).alloc (.cells #[.slice ao' k' cap'] 34)
 have bO := ((Boxed.new (w.alloc (.cells #[.func (.func g) #[] lb] 159)) 34 (.slice none 0 0)).alloc (.cells #[.slice ao k cap] 34)).alloc (.cells #[.slice ao' k' cap'] 34)
 have bA := (Boxed.new ((w.alloc (.cells #[.func (.func g) #[] lb] 159)).alloc (.cells #[.slice none 0 0] 34)) 34 (.slice ao k cap)).alloc (.cells #[.slice ao' k' cap'] 34)
 have bC := Boxed.new (((w.alloc (.cells #[.func (.func g) #[] lb] 159)).alloc (.cells #[.slice none 0 0] 34)).alloc (.cells #[.slice ao k cap] 34)) 34 (.slice ao' k' cap')
 simp only [World.size_alloc] at bO bA bC
 have hB0 : Below w.heap.size w ((((w.alloc (.cells #[.func (.func g) #[] lb] 159)).alloc (.cells #[.slice none 0 0] 34)).alloc (.cells #[.slice ao k cap] 34)).alloc (.cells #[.slice ao' k' cap'] 34)) := ((((Below.refl _ w).alloc (Nat.le_refl _) _).alloc (by simp) _).alloc (by simp; omega) _).alloc (by simp; omega) _
 have hsz : ((((w.alloc (.cells #[.func (.func g) #[] lb] 159)).alloc (.cells #[.slice none 0 0] 34)).alloc (.cells #[.slice ao k cap] 34)).alloc (.cells #[.slice ao' k' cap'] 34)).heap.size = w.heap.size + 4 := by simp
 obtain ⟨W0, hW0⟩ : ∃ W0, (((w.alloc (.cells #[.func (.func g) #[] lb] 159)).alloc (.cells #[.slice none 0 0] 34)).alloc (.cells #[.slice ao k cap] 34)).alloc (.cells #[.slice ao' k' cap'] 34) = W0 := ⟨_, rfl⟩
 rw [hW0] at bF bO bA bC hB0 hsz ⊢
 clear hW0
 have hbl : (both A C).length ≤ k + k' := by have := yhz A C; have := hA.1; have := hC.1; omega
 refine wpIn_rangeFunc_ownH rfl (by omega) (gf := 169) (lb := #[.pointer (some ⟨w.heap.size + 1 + 1, 0, none⟩), .pointer (some ⟨w.heap.size + 1 + 1 + 1, 0, none⟩)]) rfl trivial (enters_of func169 (by kernel_rfl) rfl)
  (jez _ (by omega) (w.heap.size + 1 + 1) (w.heap.size + 1 + 1 + 1) (fun b => b < w.heap.size) W0 (by omega) (by omega) (fun b hb => by omega) bA.cell bC.cell (hA.later hB0) (hC.later hB0)) keepsK_t (keepsK_b (fun b hb => by omega)) (Below.refl _ _) (fun _ => rfl)
  (fun pre W => ((∃ v, Boxed W (w.heap.size + 1) 34 v ∧ W.ownsRow w.heap.size 111 2 v (xrz op pre).length (cellsOf (xrz op pre)) ∧ True) ∧ Boxed W w.heap.size 159 (.func (.func g) #[] lb)) ∧ Below w.heap.size w W)
  (fun _ _ _ => False)
  (OwnFrom.and (OwnFrom.and (Own.from (holdsRow_own w.heap.size (w.heap.size + 1) 34 111 2 (fun pre => (xrz op pre).length) (fun pre => cellsOf (xrz op pre)) (fun _ _ => True)) _) (Own.from (boxed_own _ _ _) _)) (ownFrom_below (Nat.le_refl _) (by omega)))
  (fun _ _ _ _ _ hs _ _ => hs)
  ⟨⟨⟨_, bO, World.ownsRow_nil _ _ _ _, trivial⟩, bF⟩, hB0⟩
  (fun x a' W => ∃ Bx, w.heap.size + 1 < Bx ∧ Two W Bx 197 (.int .i64 x.2.1) (.int .i64 x.2.2) ∧ a' = { tmps := #[.slice ao k cap, .slice ao' k' cap', .func (.func g) #[] lb, undef, undef, .pointer (some ⟨w.heap.size, 0, none⟩), .slice none 0 0, .pointer (some ⟨w.heap.size + 1, 0, none⟩), .int .u64 x.1, .pointer (some ⟨Bx, 0, none⟩), .slice ao k cap, .slice ao' k' cap', .func (.func 169) #[] #[.pointer (some ⟨w.heap.size + 1 + 1, 0, none⟩), .pointer (some ⟨w.heap.size + 1 + 1 + 1, 0, none⟩)], .int .u64 x.1, .agg #[.int .i64 x.2.1, .int .i64 x.2.2], undef, undef, undef, undef, undef, undef, undef, undef, undef, undef], defers := [] })
  (fun x a' _ X Y row hs hg hr => by obtain ⟨Bx, h1, h2, h3⟩ := hs; exact ⟨Bx, h1, y2z Bx _ (fun (_ : Unit) => Value.int .i64 x.2.1) (fun _ => Value.int .i64 x.2.2) () X Y row h2 hg (fun r e => (hr r e).2), h3⟩)
  ?assign ?body ?done ?stop
 case assign =>
  rintro l pre x W K ⟨⟨⟨v, bO1, hrow, _⟩, bF1⟩, hB1⟩ hK
  dsimp only [encP]
  gi_wp2
  exact hK _ _ ((KeepsOthers.alloc _ _).from _) (wsz ((Below.refl _ W).alloc hB1.size _)) ⟨⟨⟨v, bO1.alloc _, hrow.alloc _, trivial⟩, bF1.alloc _⟩, hB1.alloc hB1.size _⟩ ⟨W.heap.size, bO1.lt, Two.new W _ _ _, rfl⟩
 case body =>
  rintro l pre x a' W hl ⟨r, hr⟩ ⟨⟨⟨v, bO1, hrow, _⟩, bF1⟩, hB1⟩ ⟨Bx, hBx, bX, rfl⟩ hlt
  have hmx : prog.follows .mixedOrders = true := by kernel_rfl
  obtain ⟨aoL, capL, rfl, hown⟩ := uGz hrow
  have hfl := j9z op pre
  have hN : (xrz op pre).length < 1099511627776 := by omega
  have c0 := bX.cell0
  have c1 := bX.cell1
  have cO := bO1.cell
  have cF := bF1.cell
  gi_wp2
  refine region_round (S := fun w' => w'.cell? ⟨w.heap.size, 0, none⟩ = some (.func (.func g) #[] lb) ∧ w'.cell? ⟨Bx, 0, none⟩ = some (.int .i64 x.2.1) ∧ w'.cell? ⟨Bx, 1, none⟩ = some (.int .i64 x.2.2)) hmx (by kernel_rfl) (by rintro ⟨_, _, h⟩; exact h) ⟨cF, c0, c1⟩ (fun hS => ?_)
  refine wpAnyH_take (i := 1) (v := .int .u64 x.1) rfl (by kernel_rfl) (by kernel_rfl) (by kernel_rfl) (fun _ _ _ h => h) (Or.inl ⟨by rfl, fun w2 hS2 => by (obtain ⟨s1, s2, s3⟩ := hS2); go_simp⟩) hS ?_
  simp only [Act.put]
  refine wpAnyH_take (i := 2) (v := .func (.func g) #[] lb) rfl (by kernel_rfl) (by kernel_rfl) (by kernel_rfl) (fun _ _ _ h => h) (Or.inl ⟨by rfl, fun w2 hS2 => by (obtain ⟨s1, s2, s3⟩ := hS2); go_simp⟩) hS ?_
  simp only [Act.put]
  refine wpAnyH_take (i := 3) (v := .pointer (some ⟨Bx, 0, none⟩)) rfl (by kernel_rfl) (by kernel_rfl) (by kernel_rfl) (fun _ _ _ h => h) (Or.inl ⟨by rfl, fun w2 hS2 => by (obtain ⟨s1, s2, s3⟩ := hS2); go_simp⟩) hS ?_
  simp only [Act.put]
  refine wpAnyH_take (i := 4) (v := .int .i64 x.2.1) rfl (by kernel_rfl) (by kernel_rfl) (by kernel_rfl) (fun _ _ _ h => h) (Or.inl ⟨by rfl, fun w2 hS2 => by (obtain ⟨s1, s2, s3⟩ := hS2); go_simp⟩) hS ?_
  simp only [Act.put]
  refine wpAnyH_take (i := 5) (v := .pointer (some ⟨Bx, 1, none⟩)) rfl (by kernel_rfl) (by kernel_rfl) (by kernel_rfl) (fun _ _ _ h => h) (Or.inl ⟨by rfl, fun w2 hS2 => by (obtain ⟨s1, s2, s3⟩ := hS2); go_simp⟩) hS ?_
  simp only [Act.put]
  refine wpAnyH_take (i := 6) (v := .int .i64 x.2.2) rfl (by kernel_rfl) (by kernel_rfl) (by kernel_rfl) (fun _ _ _ h => h) (Or.inl ⟨by rfl, fun w2 hS2 => by (obtain ⟨s1, s2, s3⟩ := hS2); go_simp⟩) hS ?_
  simp only [Act.put]
  refine wpAnyH_ready (rs := [0, 7]) (by kernel_rfl) (by simp) ?_
  refine AllReadyH.cons rfl (fun K hK => ?_) (AllReadyH.cons rfl (fun K hK => ?_) AllReadyH.nil)
  ·go_simp
   refine hK.out _ _ hS (fun _ => ?_)
   clear hK K
   refine wpAnyH_ready (rs := [7]) (by kernel_rfl) (by simp) ?_
   refine AllReadyH.cons rfl (fun K hK => ?_) AllReadyH.nil
   go_simp
   refine (hf _ _ _ hB1.drew).mono ?_
   rintro e w1 ⟨rfl, hb0⟩
   have hb1 := (Below.refl W.heap.size W).drew.trans hb0
   have cO1 := cell_later hb1 cO
   refine hK.out _ _ ⟨cell_later hb1 cF, cell_later hb1 c0, cell_later hb1 c1⟩ (fun hS1 => ?_)
   clear hK K
   refine wpAnyH_ready (rs := [8]) (by kernel_rfl) (by simp) ?_
   refine AllReadyH.cons rfl (fun K hK => ?_) AllReadyH.nil
   go_simp
   refine (vNz _ _ (hown.next hb1) (Nat.le_trans hB1.size hb1.size) hN).mono ?_
   rintro e w2 ⟨ao2, n2, cap2, rfl, hown2, hg2⟩
   obtain ⟨q1, q2, q3, q4, q5, q6, _⟩ := v2z bO1 hown hB1.size (Nat.le_refl _) (Nat.le_succ _) hb1 hown2 hg2
   have a1 := wDz (B := w.heap.size + 1) hown hb1 hg2 bF1 (by decide) cF (by omega)
   have a2 := wDz (B := w.heap.size + 1) hown hb1 hg2 bX (by decide) c0 (by omega)
   have a3 := wDz (B := w.heap.size + 1) hown hb1 hg2 bX (by decide) c1 (by omega)
   have cO2 := q1.cell
   have fO2 := q1.frozen
   refine hK.out _ _ ⟨a1.1, a2.1, a3.1⟩ (fun hS2 => ?_)
   clear hK K
   refine wpAnyH_ready (rs := [9]) (by kernel_rfl) (by simp) ?_
   refine AllReadyH.cons rfl (fun K hK => ?_) AllReadyH.nil
   go_simp
   refine hK.out _ _ ⟨a1.2 _, a2.2 _, a3.2 _⟩ (fun hS3 => ?_)
   clear hK K
   refine wpAnyH_done (by kernel_rfl) ?_ _
   exact ⟨q4.from _, wsz q5, ⟨⟨_, q2, by rw [jaz, ← q3.1] at *; exact q3.2, trivial⟩, q6 _ _ _ bF1 (by decide) (by omega)⟩, hB1.trans q5⟩
  ·go_simp
   refine (hf _ _ _ hB1.drew).mono ?_
   rintro e w1 ⟨rfl, hb0⟩
   have hb1 := (Below.refl W.heap.size W).drew.trans hb0
   have cO1 := cell_later hb1 cO
   refine hK.out _ _ ⟨cell_later hb1 cF, cell_later hb1 c0, cell_later hb1 c1⟩ (fun hS1 => ?_)
   clear hK K
   refine wpAnyH_ready (rs := [0]) (by kernel_rfl) (by simp) ?_
   refine AllReadyH.cons rfl (fun K hK => ?_) AllReadyH.nil
   go_simp
   refine hK.out _ _ hS1 (fun _ => ?_)
   clear hK K
   refine wpAnyH_ready (rs := [8]) (by kernel_rfl) (by simp) ?_
   refine AllReadyH.cons rfl (fun K hK => ?_) AllReadyH.nil
   go_simp
   refine (vNz _ _ (hown.next hb1) (Nat.le_trans hB1.size hb1.size) hN).mono ?_
   rintro e w2 ⟨ao2, n2, cap2, rfl, hown2, hg2⟩
   obtain ⟨q1, q2, q3, q4, q5, q6, _⟩ := v2z bO1 hown hB1.size (Nat.le_refl _) (Nat.le_succ _) hb1 hown2 hg2
   have a1 := wDz (B := w.heap.size + 1) hown hb1 hg2 bF1 (by decide) cF (by omega)
   have a2 := wDz (B := w.heap.size + 1) hown hb1 hg2 bX (by decide) c0 (by omega)
   have a3 := wDz (B := w.heap.size + 1) hown hb1 hg2 bX (by decide) c1 (by omega)
   have cO2 := q1.cell
   have fO2 := q1.frozen
   refine hK.out _ _ ⟨a1.1, a2.1, a3.1⟩ (fun hS2 => ?_)
   clear hK K
   refine wpAnyH_ready (rs := [9]) (by kernel_rfl) (by simp) ?_
   refine AllReadyH.cons rfl (fun K hK => ?_) AllReadyH.nil
   go_simp
   refine hK.out _ _ ⟨a1.2 _, a2.2 _, a3.2 _⟩ (fun hS3 => ?_)
   clear hK K
   refine wpAnyH_done (by kernel_rfl) ?_ _
   exact ⟨q4.from _, wsz q5, ⟨⟨_, q2, by rw [jaz, ← q3.1] at *; exact q3.2, trivial⟩, q6 _ _ _ bF1 (by decide) (by omega)⟩, hB1.trans q5⟩
 case done =>
  rintro D ys W hD rfl ⟨⟨⟨v, bO1, hrow, _⟩, bF1⟩, hB⟩ hK
  obtain ⟨aoL, capL, rfl, hown⟩ := uGz hrow
  have cO := bO1.cell
  gi_wp2
  refine ⟨by simp, .inl ⟨_, _, rfl, run_takeDeferred hK, ?_⟩⟩
  exact ⟨_, results_tmp rfl _ _ _, _, _, _, rfl, ⟨hown.1, ownsRow_putObj hown.2 _ hK rfl⟩, hB.trans (belowK_b (w := w) (Nat.le_refl _) W D _ _ (by omega) hK rfl rfl)⟩
 case stop =>
  rintro D c pre W _ _ h _
  exact h.elim
end
section
def Rc : Int → List (Int × Int) → Prop
 | _, [] => True
 | b, p :: r => b < p.1 ∧ Rc p.1 r
def lok (v : Int) : Prop := 0 ≤ v ∧ v ≤ 5 ∧ v ≠ 2
def Fit (L : List (Int × Int)) : Prop := (∃ b, Rc b L) ∧ ∀ p ∈ L, lok p.2
variable {L : List (Int × Int)} {b b' : Int}
theorem Rc.low (h : Rc b L) (k : b' ≤ b) : Rc b' L := by
 cases L with
 | nil => trivial
 | cons p r => exact ⟨by have := h.1; omega, h.2⟩
variable {r : List (Int × Int)}
theorem uKz {p : Int × Int} (h : okAt (p :: r) 0 = true) : lok p.2 := by
 simp [okAt, Lv.fit] at h
 exact ⟨h.1.1, h.1.2, h.2⟩
theorem j0z {p : Int × Int} {j : Nat} (h : okAt (p :: r) (j + 1) = true) : okAt r j = true ∧ (j = 0 → p.1 < (r.getD 0 (0, 0)).1) := by
 simp only [okAt, Bool.and_eq_true, Bool.or_eq_true, Bool.not_eq_true', decide_eq_true_eq, decide_eq_false_iff_not, List.getD_cons_succ] at h ⊢
 obtain ⟨h1, h2, h3⟩ := h
 refine ⟨⟨h1, h2, ?_⟩, ?_⟩
 ·cases j with
  | zero => exact .inl rfl
  | succ i => exact .inr (by simpa using h3)
 ·intro hj; subst hj; simpa using h3
theorem fit_of : (∀ j, j < L.length → okAt L j = true) → (∀ p ∈ L, lok p.2) ∧ ∀ b, (∀ q s, L = q :: s → b < q.1) → Rc b L := by
 induction L with
 | nil => intro _; exact ⟨fun p hp => (by cases hp), fun _ _ => trivial⟩
 | cons p r ih =>
  intro h
  have h0 := uKz (h 0 (by simp))
  have hr : ∀ j, j < r.length → okAt r j = true := fun j hj => (j0z (h (j + 1) (by simpa using hj))).1
  obtain ⟨i1, i2⟩ := ih hr
  refine ⟨fun q hq => ?_, fun b hb => ⟨hb p r rfl, i2 p.1 fun q s e => ?_⟩⟩
  ·rcases List.mem_cons.1 hq with rfl | hq
   ·exact h0
   ·exact i1 q hq
  ·subst e
   have := (j0z (h 1 (by simp))).2 rfl
   simpa using this
theorem fit_iff : fitB L = true → Fit L := by
 intro h
 unfold fitB at h
 rw [List.all_eq_true] at h
 obtain ⟨h1, h2⟩ := fit_of (L := L) (fun j hj => h j (List.mem_range.2 hj))
 refine ⟨?_, h1⟩
 cases L with
 | nil => exact ⟨0, trivial⟩
 | cons p r => exact ⟨p.1 - 1, h2 _ (fun q s e => by cases e; omega)⟩
theorem w5z : ∀ {b c : Int}, Rc b L → c ≤ b → get L c = 2 := by
 induction L with
 | nil => intro b c _ _; rfl
 | cons p r ih =>
  intro b c h hc
  have hp := h.1
  simp only [get]
  rw [if_neg (by omega)]
  exact ih h.2 (by omega)
theorem kEz : ∀ {b : Int} {p : Int × Int}, Rc b L → p ∈ L → get L p.1 = p.2 := by
 induction L with
 | nil => intro b p _ hp; cases hp
 | cons q r ih =>
  intro b p h hp
  rcases List.mem_cons.1 hp with rfl | hp
  ·simp [get]
  ·have hg := ih h.2 hp
   simp only [get]
   by_cases he : q.1 = p.1
   ·have hlow := w5z h.2 (c := p.1) (by omega)
    exfalso
    have : ∀ {b : Int} {L : List (Int × Int)}, Rc b L → p ∈ L → b < p.1 := by
     intro b L
     induction L generalizing b with
     | nil => intro _ h; cases h
     | cons x y ihy =>
      intro h hm
      rcases List.mem_cons.1 hm with rfl | hm
      ·exact h.1
      ·have := ihy h.2 hm; have := h.1; omega
    have := this h.2 hp
    omega
   ·rw [if_neg he]; exact hg
theorem kDz (h : ∀ p ∈ L, lok p.2) (c : Int) : 0 ≤ get L c ∧ get L c ≤ 5 := by
 induction L with
 | nil => simp [get]
 | cons p r ih =>
  simp only [get]
  split
  ·exact ⟨(h p (by simp)).1, (h p (by simp)).2.1⟩
  ·exact ih (fun q hq => h q (by simp [hq]))
theorem ext_rc : ∀ {A C : List (Int × Int)} {b b' : Int}, Rc b A → Rc b' C → (∀ p ∈ A, lok p.2) → (∀ p ∈ C, lok p.2) → (∀ c, get A c = get C c) → A = C := by
 intro A
 induction A with
 | nil =>
  intro C b b' _ hC _ lC h
  cases C with
  | nil => rfl
  | cons q s =>
   have h1 := h q.1
   simp [get] at h1
   exact absurd h1.symm (lC q (by simp)).2.2
 | cons p r ih =>
  intro C b b' hA hC lA lC h
  cases C with
  | nil =>
   have h1 := h p.1
   simp [get] at h1
   exact absurd h1 (lA p (by simp)).2.2
  | cons q s =>
   have hpq : p.1 = q.1 := by
    rcases Int.lt_trichotomy p.1 q.1 with hlt | he | hgt
    ·exfalso
     have h1 := h p.1
     have h2 : get (q :: s) p.1 = 2 := w5z (b := p.1) (show Rc p.1 (q :: s) from ⟨hlt, hC.2⟩) (by omega)
     rw [h2] at h1
     simp [get] at h1
     exact (lA p (by simp)).2.2 h1
    ·exact he
    ·exfalso
     have h1 := h q.1
     have h2 : get (p :: r) q.1 = 2 := w5z (b := q.1) (show Rc q.1 (p :: r) from ⟨hgt, hA.2⟩) (by omega)
     rw [h2] at h1
     simp [get] at h1
     exact (lC q (by simp)).2.2 h1.symm
   have hv : p.2 = q.2 := by
    have h1 := h p.1
    simp [get, hpq] at h1
    exact h1
   have hrs : r = s := by
    refine ih hA.2 hC.2 (fun x hx => lA x (by simp [hx])) (fun x hx => lC x (by simp [hx])) (fun c => ?_)
    by_cases hc : c ≤ p.1
    ·rw [w5z hA.2 hc, w5z hC.2 (by omega)]
    ·have h1 := h c
     simp only [get] at h1
     rwa [if_neg (by omega), if_neg (by omega)] at h1
   rw [hrs, Prod.ext hpq hv]
variable {A C : List (Int × Int)}
theorem ext (hA : Fit A) (hC : Fit C) (h : ∀ c, get A c = get C c) : A = C := by
 obtain ⟨⟨b, r⟩, l⟩ := hA
 obtain ⟨⟨b', r'⟩, l'⟩ := hC
 exact ext_rc r r' l l' h
def kFz (h : Int → Int → Int → Int) (pre : List (Int × (Int × Int))) : List (Int × Int) := pre.foldl (fun acc x => snoc acc x.1 (h x.1 x.2.1 x.2.2)) []
theorem snoc_app (A : List (Int × Int)) (c l : Int) : snoc A c l = A ++ snoc [] c l := by unfold snoc; split <;> simp
theorem u8z (h : Int → Int → Int → Int) : ∀ (pre : List (Int × (Int × Int))) (acc : List (Int × Int)), pre.foldl (fun acc x => snoc acc x.1 (h x.1 x.2.1 x.2.2)) acc = acc ++ kFz h pre := by
 intro pre
 induction pre with
 | nil => intro acc; simp [kFz]
 | cons x r ih =>
  intro acc
  simp only [kFz, List.foldl_cons]
  rw [ih, ih (snoc [] x.1 (h x.1 x.2.1 x.2.2)), snoc_app acc]
  simp
theorem yJz (h : Int → Int → Int → Int) (x : Int × (Int × Int)) (r : List (Int × (Int × Int))) : kFz h (x :: r) = snoc [] x.1 (h x.1 x.2.1 x.2.2) ++ kFz h r := by
 simp only [kFz, List.foldl_cons]
 exact u8z h r _
theorem xjz {A : List (Int × Int)} {b c : Int} (h : Rc b A) (hc : ∀ p r, A = p :: r → c ≤ p.1) : Rc c (q3z A c) ∧ wBz A c = get A c ∧ ∀ k, k ≠ c → get (q3z A c) k = get A k := by
 cases A with
 | nil => exact ⟨trivial, rfl, fun _ _ => rfl⟩
 | cons p r =>
  have hcp := hc p r rfl
  by_cases he : p.1 = c
  ·have e1 : q3z (p :: r) c = r := by simp [q3z, he]
   rw [e1]
   refine ⟨he ▸ h.2, by simp [wBz, get, he], fun k hk => ?_⟩
   simp only [get]
   rw [if_neg (by omega)]
  ·have e1 : q3z (p :: r) c = p :: r := by simp [q3z, he]
   rw [e1]
   refine ⟨⟨by omega, h.2⟩, ?_, fun _ _ => rfl⟩
   have hlow : get (p :: r) c = 2 := w5z (b := c) (show Rc c (p :: r) from ⟨by omega, h.2⟩) (by omega)
   rw [hlow]
   simp [wBz, he]
theorem k9z (h : 0 < A.length + C.length) : (∀ p r, A = p :: r → fore A C ≤ p.1) ∧ (∀ p r, C = p :: r → fore A C ≤ p.1) ∧ ∀ b, Rc b A → Rc b C → b < fore A C := by
 cases A with
 | nil =>
  cases C with
  | nil => simp at h
  | cons q s => exact ⟨fun _ _ e => (by cases e), fun p r e => (by cases e; simp [fore]), fun b _ hC => hC.1⟩
 | cons p r =>
  cases C with
  | nil => exact ⟨fun _ _ e => (by cases e; simp [fore]), fun p r e => (by cases e), fun b hA _ => hA.1⟩
  | cons q s =>
   by_cases hpq : p.1 < q.1
   ·have e : fore (p :: r) (q :: s) = p.1 := by simp [fore, hpq]
    rw [e]
    exact ⟨fun _ _ e => (by cases e; omega), fun _ _ e => (by cases e; omega), fun b hA _ => hA.1⟩
   ·have e : fore (p :: r) (q :: s) = q.1 := by simp [fore, hpq]
    rw [e]
    exact ⟨fun _ _ e => (by cases e; omega), fun _ _ e => (by cases e; omega), fun b _ hC => hC.1⟩
theorem j8z (h : Int → Int → Int → Int) (h2 : ∀ k, h k 2 2 = 2) : ∀ (N : Nat) {A C : List (Int × Int)} {b : Int}, A.length + C.length ≤ N → Rc b A → Rc b C →
  Rc b (kFz h (both A C)) ∧ (∀ p ∈ kFz h (both A C), p.2 ≠ 2) ∧ ∀ k, get (kFz h (both A C)) k = h k (get A k) (get C k) := by
 intro N
 induction N with
 | zero =>
  intro A C b hN _ _
  have hA : A = [] := List.eq_nil_of_length_eq_zero (by omega)
  have hC : C = [] := List.eq_nil_of_length_eq_zero (by omega)
  subst hA hC
  exact ⟨trivial, fun p hp => (by cases hp), fun k => (h2 k).symm⟩
 | succ N ih =>
  intro A C b hN hA hC
  by_cases h0 : A.length + C.length = 0
  ·exact ih (by omega) hA hC
  ·obtain ⟨f1, f2, f3⟩ := k9z (A := A) (C := C) (by omega)
   have hbc := f3 b hA hC
   obtain ⟨a1, a2, a3⟩ := xjz (c := fore A C) hA f1
   obtain ⟨c1, c2, c3⟩ := xjz (c := fore A C) hC f2
   have hl := wWz (A := A) (C := C) (by omega)
   obtain ⟨i1, i2, i3⟩ := ih (A := q3z A (fore A C)) (C := q3z C (fore A C)) (b := fore A C) (by omega) a1 c1
   rw [kOz (by omega), yJz]
   dsimp only
   rw [a2, c2]
   by_cases hv : h (fore A C) (get A (fore A C)) (get C (fore A C)) = 2
   ·rw [vSz hv, List.nil_append]
    refine ⟨i1.low (by omega), i2, fun k => ?_⟩
    by_cases hk : k = fore A C
    ·rw [hk, hv]; exact w5z i1 (by omega)
    ·rw [i3, a3 k hk, c3 k hk]
   ·rw [vTz hv]
    simp only [List.nil_append, List.cons_append]
    refine ⟨⟨hbc, i1⟩, fun p hp => ?_, fun k => ?_⟩
    ·rcases List.mem_cons.1 hp with rfl | hp
     ·exact hv
     ·exact i2 p hp
    ·simp only [get]
     by_cases hk : fore A C = k
     ·rw [if_pos hk, ← hk]
     ·rw [if_neg hk, i3, a3 k (Ne.symm hk), c3 k (Ne.symm hk)]
theorem Rc.both_low (h : Rc b A) (k : Rc b' C) : Rc (min b b') A ∧ Rc (min b b') C := ⟨h.low (by omega), k.low (by omega)⟩
variable {h : Int → Int → Int → Int}
theorem v7z (h2 : ∀ k, h k 2 2 = 2) (hA : Rc b A) (hC : Rc b' C) (k : Int) : get (kFz h (both A C)) k = h k (get A k) (get C k) :=
 (j8z h h2 _ (Nat.le_refl _) (hA.both_low hC).1 (hA.both_low hC).2).2.2 k
theorem jwz (h2 : ∀ k, h k 2 2 = 2) (hA : Rc b A) (hC : Rc b' C) (hr : ∀ k, 0 ≤ h k (get A k) (get C k) ∧ h k (get A k) (get C k) ≤ 5) : Fit (kFz h (both A C)) := by
 obtain ⟨r, n2, g⟩ := j8z h h2 _ (Nat.le_refl _) (hA.both_low hC).1 (hA.both_low hC).2
 refine ⟨⟨_, r⟩, fun p hp => ?_⟩
 have e := kEz r hp
 rw [g] at e
 have := hr p.1
 rw [e] at this
 exact ⟨this.1, this.2, n2 p hp⟩
theorem leq_main : ∀ (N : Nat) {A C : List (Int × Int)} {b : Int}, A.length + C.length ≤ N → Rc b A → Rc b C → (leqB A C = true ↔ ∀ k, Lv.leq (get A k) (get C k) = true) := by
 intro N
 induction N with
 | zero =>
  intro A C b hN _ _
  have hA : A = [] := List.eq_nil_of_length_eq_zero (by omega)
  have hC : C = [] := List.eq_nil_of_length_eq_zero (by omega)
  subst hA hC
  exact ⟨fun _ k => by show Lv.leq 2 2 = true; decide, fun _ => rfl⟩
 | succ N ih =>
  intro A C b hN hA hC
  by_cases h0 : A.length + C.length = 0
  ·exact ih (by omega) hA hC
  ·obtain ⟨f1, f2, f3⟩ := k9z (A := A) (C := C) (by omega)
   obtain ⟨a1, a2, a3⟩ := xjz (c := fore A C) hA f1
   obtain ⟨c1, c2, c3⟩ := xjz (c := fore A C) hC f2
   have hl := wWz (A := A) (C := C) (by omega)
   have i := ih (A := q3z A (fore A C)) (C := q3z C (fore A C)) (b := fore A C) (by omega) a1 c1
   unfold leqB at i ⊢
   rw [kOz (by omega), List.all_cons, Bool.and_eq_true, i]
   dsimp only
   rw [a2, c2]
   refine ⟨fun ⟨h1, h2⟩ k => ?_, fun h => ⟨h _, fun k => ?_⟩⟩
   ·by_cases hk : k = fore A C
    ·rw [hk]; exact h1
    ·have := h2 k; rwa [a3 k hk, c3 k hk] at this
   ·by_cases hk : k = fore A C
    ·rw [hk, w5z a1 (by omega), w5z c1 (by omega)]; decide
    ·rw [a3 k hk, c3 k hk]; exact h k
theorem leqB_iff (hA : Fit A) (hC : Fit C) : leqB A C = true ↔ ∀ k, get A k ≤ get C k := by
 obtain ⟨⟨b, r⟩, l⟩ := hA
 obtain ⟨⟨b', r'⟩, l'⟩ := hC
 rw [leq_main _ (Nat.le_refl _) (r.both_low r').1 (r.both_low r').2]
 have key : ∀ k, Lv.leq (get A k) (get C k) = true ↔ get A k ≤ get C k := by
  intro k
  have h1 := kDz l k
  have h2 := kDz l' k
  rw [Lv.leq_iff, Lv.lv_of h1.1 h1.2, Lv.lv_of h2.1 h2.2]
 exact ⟨fun h k => (key k).1 (h k), fun h k => (key k).2 (h k)⟩
def yHz (A C : List (Int × Int)) : List (Int × Int) := xrz Lv.join (both A C)
def wAz (A : List (Int × Int)) : List (Int × Int) := xrz (fun x _ => Lv.raise x) (both A [])
theorem Fit.rc {A : List (Int × Int)} (h : Fit A) : ∃ b, Rc b A := h.1
theorem Fit.nil : Fit [] := ⟨⟨0, trivial⟩, fun p hp => (by cases hp)⟩
theorem Fit.range {A : List (Int × Int)} (h : Fit A) (k : Int) : 0 ≤ get A k ∧ get A k ≤ 5 := kDz h.2 k
theorem uYz (hA : Fit A) (hC : Fit C) : Fit (yHz A C) := by
 obtain ⟨b, r⟩ := hA.rc
 obtain ⟨b', r'⟩ := hC.rc
 exact jwz (h := fun _ x y => Lv.join x y) (fun _ => by decide) r r' (fun k => ⟨Lv.join_lo _ _, Lv.join_hi _ _⟩)
theorem yDz {A : List (Int × Int)} (hA : Fit A) (k : Int) : get (wAz A) k = if get A k = 0 then 5 else get A k := by
 obtain ⟨b, r⟩ := hA.rc
 have h := v7z (h := fun _ x _ => Lv.raise x) (fun _ => by decide) r (C := []) (b' := 0) trivial k
 have h1 := hA.range k
 unfold Lv.raise at h
 rw [Lv.lv_of h1.1 h1.2] at h
 exact h
theorem k3z {A : List (Int × Int)} (hA : Fit A) : Fit (wAz A) := by
 obtain ⟨b, r⟩ := hA.rc
 exact jwz (h := fun _ x _ => Lv.raise x) (fun _ => by decide) r (C := []) (b' := 0) trivial (fun k => ⟨Lv.raise_lo _, Lv.raise_hi _⟩)
end
end Go.Proofs.YtdeddhojjolihaaGreat
