/-
 PROVED HERE: a range over a function whose iterator keeps a variable of its own in memory, and whose body never leaves earl. What is asked stands at each.
-/
import Derived.Test.YtklnneiblmakmaaGreatZ33
namespace Go.Proofs.YtklnneiblmakmaaGreat
set_option maxRecDepth 100000
set_option maxHeartbeats 8000000
set_option linter.unusedVariables false
section
open Go.RowKit Go.Shelf
def StayT {β : Type} (B : Nat) (t : TypeId) (J : β → World → Prop) : Prop := ∀ s A A' row, J s A → A.grownBy A' row → (∀ r, row = some r → B ≤ r ∧ ∃ C, A.heap[r]? = some (.cells C t)) → J s A'
def KT (D : Nat → Prop) (t : TypeId) (B : Nat) (W W' : World) : Prop := Keeps D W W' ∧ ∀ b C, B ≤ b → W.heap[b]? = some (.cells C t) → W'.heap[b]? = some (.cells C t)
theorem KT.trans {D : Nat → Prop} {t : TypeId} {B : Nat} {X Y Z : World} (h : KT D t B X Y) (k : KT D t B Y Z) : KT D t B X Z := ⟨h.1.trans k.1, fun b C hb hc => k.2 b C hb (h.2 b C hb hc)⟩
theorem KT.putObj {D : Nat → Prop} {t : TypeId} {B : Nat} {W : World} {l : Nat} {r : Loop} (o : Obj) (hD : ∀ b, D b → b ≠ l) (h : W.heap[l]? = some (.loop r)) : KT D t B W (W.putObj l o) :=
 ⟨⟨by simp [World.putObj], fun b hb => World.putObj_heap_other (hD b hb)⟩, fun b C _ hc => (World.putObj_heap_other (fun e => by rw [e, h] at hc; cases hc)).trans hc⟩
def SeqT {α : Type} (F : Fence) (n : Nat) (P : Program) (g : Nat) (lb : Array Value) (encs : α → Array Value) (D : Nat → Prop) (t : TypeId) (S : List α → Prop) (N : Nat) (w : World) : Prop :=
 ∀ (l : Nat) (J : List α → World → Prop) (W : World), Below w.heap.size w W → StayT W.heap.size t J →
  (∀ pre x W1, J pre W1 → pre.length < N → YieldAt F (n - 1) P l (encs x) W1 fun e W' => e = .returned (.bool true) ∧ J (pre ++ [x]) W' ∧ KT D t W.heap.size W1 W') → J [] W →
  CallsIn F n P g (#[.func (.yield l) #[] #[]] ++ lb) W fun e W' => (∃ v, e = .returned v) ∧ ∃ xs, S xs ∧ J xs W'
theorem vfz {F : Fence} {n : Nat} {P : Program} {α : Type} {g : Operand} {ps : Array Tmp} {assign body : Code} {Q : Exit → Act → World → Prop} {a : Act} {w : World}
  (hro : F.round = none) (h1 : 1 ≤ n) {gf : Nat} {lb : Array Value} (hg : a.eval g = .func (.func gf) #[] lb) (hFg : F.fn gf) (eg : ∀ args w, (callFunc gf args).run P w = .ok (.enter gf args) w)
  {encs : α → Array Value} {D : Nat → Prop} {t : TypeId} {S : List α → Prop} {N : Nat} {w0 : World} (hseq : SeqT F (n - 1) P gf lb encs D t S N w0) (hD : ∀ b, D b → b < w.heap.size) (hb0 : Below w0.heap.size w0 w) (hps : ∀ x, (encs x).size = ps.size)
  (I : List α → World → Prop) (hI : OwnFrom w.heap.size I) (hIt : StayT w.heap.size t I) (h0 : I [] w) (ax : α → Act)
  (hassign : ∀ (l : Nat) (x : α) (W : World) (K : Act → World → Prop), K (ax x) W →
   assign.wpIn (F.inRound l) (n - 1 - 1) P (Exit.then K (fun _ _ _ => False)) { tmps := (ps.zip (encs x)).foldl (fun t (p, v) => t.setIfInBounds p v) a.tmps, defers := [] } W)
  (hbody : ∀ (l : Nat) (pre : List α) (x : α) (W : World), w.heap.size ≤ l → I pre W → pre.length < N → body.wpIn (F.inRound l) (n - 1 - 1) P (fun e _ W' => e = .normal ∧ KeepsFrom w.heap.size W W' ∧ KT D t (w.heap.size + 2) W W' ∧ I (pre ++ [x]) W') (ax x) W)
  (hdone : ∀ (E : Nat) (xs : List α) (W : World), w.heap.size ≤ E → S xs → I xs W → W.heap[E]? = some (.deferred (some [])) → Q .normal { a with defers := { target := .collected E, args := #[] } :: a.defers } W) :
  (Code.rangeFunc g ps assign body).wpIn F n P Q a w := by
 refine wpIn_rangeFunc fun fn hfn => ?_
 rw [hro]
 obtain ⟨rc, hrc⟩ : ∃ rc : LoopState → Loop, rc = fun st => { state := st, pending := none, fn := fn, tmps := a.tmps, params := ps, assign := assign, body := body, defers := w.heap.size } := ⟨_, rfl⟩
 have hsz : ((w.alloc (.deferred (some []))).alloc (.loop (rc .ready))).heap.size = w.heap.size + 2 := by simp
 have hl0 : ((w.alloc (.deferred (some []))).alloc (.loop (rc .ready))).heap[w.heap.size + 1]? = some (.loop (rc .ready)) := by
  have := World.alloc_heap_new (w.alloc (.deferred (some []))) (.loop (rc .ready)); rwa [World.size_alloc] at this
 have hk0 : ((w.alloc (.deferred (some []))).alloc (.loop (rc .ready))).heap[w.heap.size]? = some (.deferred (some [])) := (Below.heap_alloc _ _ _ (by simp)).trans (World.alloc_heap_new w _)
 have hbl : Below w.heap.size w ((w.alloc (.deferred (some []))).alloc (.loop (rc .ready))) := ((Below.refl _ w).alloc (Nat.le_refl _) _).alloc (by simp) _
 have hi0 : I [] ((w.alloc (.deferred (some []))).alloc (.loop (rc .ready))) := hI.alloc _ (hI.alloc _ h0)
 have hent : (Instr.enterLoop fn a.tmps ps assign body none).run P w = .ok (w.heap.size + 1, [{ target := .collected w.heap.size, args := #[] }]) ((w.alloc (.deferred (some []))).alloc (.loop (rc .ready))) := by rw [hrc]; exact run_enterLoop_outer _ _ _ _ _
 generalize (w.alloc (.deferred (some []))).alloc (.loop (rc .ready)) = V at hsz hl0 hk0 hbl hi0 hent
 obtain ⟨s0, hs0⟩ : ∃ s0, w.heap.size = s0 := ⟨_, rfl⟩
 refine ⟨w.heap.size + 1, [{ target := .collected w.heap.size, args := #[] }], V, { target := .fn (.func gf) lb, args := #[.func (.yield (w.heap.size + 1)) #[] #[]] }, V, gf, #[.func (.yield (w.heap.size + 1)) #[] #[]] ++ lb, V, hent, ?_, ?_, ?_, fun _ => h1, ?_⟩
 ·simp only [resolve, hg]
  simp [go_sem]
 ·intro f' hf'
  simp [Target.leads] at hf'
  subst hf'
  exact hFg
 ·simp [invoke, go_sem, eg]
 refine (hseq (w.heap.size + 1) (fun pre W => I pre W ∧ W.heap[w.heap.size + 1]? = some (.loop (rc .ready)) ∧ W.heap[w.heap.size]? = some (.deferred (some []))) V (btz hb0 hbl) ?stay ?round ⟨hi0, hl0, hk0⟩).mono ?behind
 case stay =>
  rintro pre A A' row ⟨q1, q2, q3⟩ hgr hrow
  have q : ∀ b, b < V.heap.size → (b < A.heap.size) → A'.heap[b]? = A.heap[b]? := fun b hb hb2 => hgr.block b hb2 (fun e => by have := (hrow b e.symm).1; omega)
  exact ⟨hIt pre A A' row q1 hgr (fun r e => ⟨by have := (hrow r e).1; omega, (hrow r e).2⟩), (q _ (by omega) (Array.getElem?_eq_some_iff.1 q2).1).trans q2, (q _ (by omega) (Array.getElem?_eq_some_iff.1 q3).1).trans q3⟩
 case round =>
  rintro pre x W ⟨hi, hl, hk⟩ hlen
  have hy := run_yield (P := P) (args := encs x) hl (by rw [hrc]; exact hps x)
  rw [hrc] at hy
  refine ⟨fn, _, assign, body, hy, roundIn_of_wpIn hfn (hassign _ x W _ ?_)⟩
  refine ⟨_, run_beginRound hl (by rw [hrc]), ?_⟩
  have hlt : w.heap.size + 1 < W.heap.size := (Array.getElem?_eq_some_iff.1 hl).1
  have hl2 : (W.putObj (w.heap.size + 1) (.loop { rc .ready with state := .busy })).heap[w.heap.size + 1]? = some (.loop { rc .ready with state := .busy }) := World.putObj_heap_same hlt
  have hk2 : (W.putObj (w.heap.size + 1) (.loop { rc .ready with state := .busy })).heap[w.heap.size]? = some (.deferred (some [])) := (World.putObj_heap_other (by omega)).trans hk
  have hDl : ∀ b, D b → b ≠ w.heap.size + 1 := fun b hb => by have := hD b hb; omega
  refine wpIn_mono (hbody (w.heap.size + 1) pre x _ (by omega) (hI.putObj _ hi (by omega) hl rfl) hlen) ?_
  rintro e a3 W3 ⟨rfl, hkf, hkt, hi3⟩
  have hl3 := hkf.same _ _ (by omega) hl2 rfl
  have hk3 := hkf.same _ _ (Nat.le_refl _) hk2 rfl
  refine ⟨_, _, run_endRound (P := P) none hl3, rfl, ⟨hI.putObj _ hi3 (by omega) hl3 rfl, ?_, (World.putObj_heap_other (by omega)).trans hk3⟩, ?_⟩
  ·rw [World.putObj_heap_same (Array.getElem?_eq_some_iff.1 hl3).1, hrc]
   rfl
  ·rw [hsz]
   exact (KT.putObj _ hDl hl).trans (hkt.trans (KT.putObj _ hDl hl3))
 case behind =>
  rintro e W ⟨⟨v, rfl⟩, xs, hS, hi, hl, hk⟩
  refine ⟨none, _, by have := run_endLoop (P := P) hl (by rw [hrc]; simp); rw [hrc] at this; exact this, hdone _ xs _ (Nat.le_refl _) hS (hI.putObj _ hi (by omega) hl rfl) ((World.putObj_heap_other (by omega)).trans hk)⟩
end
end Go.Proofs.YtklnneiblmakmaaGreat
