/-
  PROVED HERE: the statement 'for x := range f' in a frame of one function, where rounds come to their end or throw (no Go text).
-/
import Derived.Test.YtbmfehkahjeobaaDoorCod7
import Derived.WalkKit
import Derived.WalkSmall
import Derived.Test.YtbmfehkahjeobaaDoorLabCon3
namespace Go.Proofs.YtbmfehkahjeobaaDoor
open Go.RowKit

def Plainly (Q : Exit → Act → World → Prop) : Exit → Act → World → Prop
  | .normal, a, w => Q .normal a w
  | .panic ch, a, w => Q (.panic ch) a w
  | _, _, _ => False
theorem wpF_block {f id : Nat} {P : Program} {c : Code} {Q : Exit → Act → World → Prop} {a : Act} {w : World} (h : wpF f P c (Plainly Q) a w) : wpF f P (.block id c) Q a w := by
  intro b k cs hr hb
  have h0 := fenced_wide P (lone (b.atR a (.code (.block id c) :: k)) cs w)
  obtain ⟨e, a₁, w₁, hq, harr⟩ := h b (.inBlock id :: k) cs hr hb
  cases e with
  | normal => exact ⟨.normal, a₁, w₁, hq, .head h0 stepR_block (StepsIn.trans harr (.one (fenced_wide P _) stepR_inBlock))⟩
  | panic ch =>
    obtain ⟨todo, hs⟩ := harr
    exact ⟨.panic ch, a₁, w₁, hq, todo, .head h0 stepR_block hs⟩
  | _ => exact hq.elim

/-- What a round's body must achieve. -/
def bodyThrows {α : Type} (B : Nat) (I : List α → World → Prop) (Ip : List PanicEntry → List α → World → Prop) (s : List α) (X : World) : Exit → Act → World → Prop
  | .normal, _, X' => KeepsFrom B X X' ∧ I s X'
  | .panic ch, a, X' => a.defers = [] ∧ KeepsFrom B X X' ∧ Ip ch s X'
  | _, _, _ => False

/-- An iterator over the list xs, whatever its rounds do: each comes to its end, or throws. -/
def SeqThrows {α : Type} (n : Nat) (P : Program) (gf : Nat) (lb : Array Value) (encs : α → Array Value) (xs : List α) (w : World) (I : List α → World → Prop) : Prop :=
  ∀ (l : Nat) (J : List α → World → Prop) (Jp : List PanicEntry → List α → World → Prop) (W : World), Below w.heap.size w W → (∀ pre X k, J pre X → J pre (X.drewN k)) → (∀ pre X, J pre X → I pre X) →
    (∀ pre x X, J pre X → pre ++ [x] <+: xs → YieldAt Fence.wide n P l (encs x) X fun e X' => (e = .returned (.bool true) ∧ J (pre ++ [x]) X') ∨ ∃ ch, e = .panicked ch ∧ Jp ch (pre ++ [x]) X') → J [] W →
    CallsIn Fence.wide (n + 1) P gf (#[.func (.yield l) #[] #[]] ++ lb) W fun e X' => ((∃ v, e = .returned v) ∧ J xs X') ∨ ∃ ch pre, e = .panicked ch ∧ pre <+: xs ∧ Jp ch pre X'

theorem wpF_range {α : Type} {f n : Nat} {P : Program} {fn : Func} {g : Operand} {ps : Array Tmp} {assign body : Code} {Q : Exit → Act → World → Prop} {a : Act} {w : World} (hf : P.funcs[f]? = some fn)
    {gf : Nat} {lb : Array Value} (hg : a.eval g = .func (.func gf) #[] lb) (eg : ∀ args w, (callFunc gf args).run P w = .ok (.enter gf args) w) {encs : α → Array Value} (hps : ∀ x, (encs x).size = ps.size) (xs : List α)
    (I : List α → World → Prop) (Ip : List PanicEntry → List α → World → Prop) (hI : OwnFrom w.heap.size I) (h0 : I [] w) (hseq : SeqThrows n P gf lb encs xs w I)
    (a₁ : α → Act) (hassign : ∀ (l : Nat) (x : α) (X : World) (K : Act → World → Prop), K (a₁ x) X → assign.wpIn (Fence.wide.inRound l) n P (Exit.then K (fun _ _ _ => False)) { tmps := (ps.zip (encs x)).foldl (fun t (p, v) => t.setIfInBounds p v) a.tmps, defers := [] } X)
    (hbody : ∀ (l : Nat) (pre : List α) (x : α) (X : World), I pre X → pre ++ [x] <+: xs → body.wpIn (Fence.wide.inRound l) n P (bodyThrows w.heap.size I Ip (pre ++ [x]) X) (a₁ x) X)
    (hdone : ∀ (D : Nat) (X : World), w.heap.size ≤ D → I xs X → X.heap[D]? = some (.deferred (some [])) → Q .normal { a with defers := { target := .collected D, args := #[] } :: a.defers } X)
    (hthrow : ∀ (D : Nat) (ch : List PanicEntry) (pre : List α) (X : World), w.heap.size ≤ D → pre <+: xs → Ip ch pre X → X.heap[D]? = some (.deferred (some [])) → Q (.panic ch) { a with defers := { target := .collected D, args := #[] } :: a.defers } X) :
    wpF f P (.rangeFunc g ps assign body) Q a w := by
  intro b k cs hr hb
  have hall : ∀ m, Machine.fenced P Fence.wide m := fenced_wide P
  obtain ⟨rec, hrec⟩ : ∃ rec : LoopState → Loop, rec = fun st => { state := st, pending := none, fn := f, tmps := a.tmps, params := ps, assign, body, defers := w.heap.size } := ⟨_, rfl⟩
  obtain ⟨W1, hW1⟩ : ∃ W1, (w.alloc (.deferred (some []))).alloc (.loop (rec .ready)) = W1 := ⟨_, rfl⟩
  have hL1 : W1.heap[w.heap.size + 1]? = some (.loop (rec .ready)) := by
    rw [← hW1]
    have := World.alloc_heap_new (w.alloc (.deferred (some []))) (.loop (rec .ready))
    rwa [World.size_alloc] at this
  have hD1 : W1.heap[w.heap.size]? = some (.deferred (some [])) := by
    rw [← hW1, Below.heap_alloc _ _ _ (by rw [World.size_alloc]; omega)]
    exact World.alloc_heap_new w _
  have hI1 : I [] W1 := by rw [← hW1]; exact hI.alloc _ (hI.alloc _ h0)
  have hB1 : Below w.heap.size w W1 := by rw [← hW1]; exact ((Below.refl _ w).alloc (Nat.le_refl _) _).alloc (by rw [World.size_alloc]; omega) _
  have he : (Instr.enterLoop b.fn a.tmps ps assign body b.roundOf).run P w = .ok (w.heap.size + 1, [{ target := .collected w.heap.size, args := #[] }]) W1 := by
    rw [hr, hb, ← hW1, hrec]; exact run_enterLoop_outer _ _ _ _ _
  have hres : (resolve a.eval (rangeCall g (w.heap.size + 1)) 0).run P W1 = .ok { target := .fn (.func gf) lb, args := #[.func (.yield (w.heap.size + 1)) #[] #[]] } W1 := by
    simp only [resolve, hg]
    simp [go_sem]
  have hinv : (invoke (.fn (.func gf) lb) #[.func (.yield (w.heap.size + 1)) #[] #[]]).run P W1 = .ok (.enter gf (#[.func (.yield (w.heap.size + 1)) #[] #[]] ++ lb)) W1 := by simp [invoke, go_sem, eg]
  have henter := stepR_rangeFunc (P := P) (b := b) (a := a) (k := k) (cs := cs) (w := w) he hres hinv
  have hput : ∀ (pre : List α) (X : World) (o o' : Obj), I pre X → X.heap[w.heap.size + 1]? = some o → o.isCells = false → I pre (X.putObj (w.heap.size + 1) o') := fun pre X o o' hi ho hc => hI.putObj _ hi (by omega) ho hc
  have hcall := (hseq (w.heap.size + 1)
    (fun pre X => I pre X ∧ X.heap[w.heap.size + 1]? = some (.loop (rec .ready)) ∧ X.heap[w.heap.size]? = some (.deferred (some [])))
    (fun ch pre X => Ip ch pre X ∧ X.heap[w.heap.size]? = some (.deferred (some []))) W1 hB1
    (fun pre X m h => ⟨hI pre X (X.drewN m) none h.1 ⟨rfl, rfl, rfl, Nat.le_refl _, fun _ _ _ => rfl⟩ (fun r e => by cases e), h.2.1, h.2.2⟩) (fun pre X h => h.1) ?round ⟨hI1, hL1, hD1⟩)
  case round =>
    rintro pre x X ⟨hi, hl, hd⟩ hlen
    have hlt : w.heap.size + 1 < X.heap.size := (Array.getElem?_eq_some_iff.1 hl).1
    have hy := run_yield (P := P) (args := encs x) hl (by rw [hrec]; exact hps x)
    rw [hrec] at hy
    refine ⟨f, _, assign, body, hy, round_throws hf (hassign _ x X _ ?_)⟩
    refine ⟨_, run_beginRound hl (by rw [hrec]), ?_⟩
    have hl2 : (X.putObj (w.heap.size + 1) (.loop { rec .ready with state := .busy })).heap[w.heap.size + 1]? = some (.loop { rec .ready with state := .busy }) := World.putObj_heap_same hlt
    have hd2 : (X.putObj (w.heap.size + 1) (.loop { rec .ready with state := .busy })).heap[w.heap.size]? = some (.deferred (some [])) := (World.putObj_heap_other (by omega)).trans hd
    refine wpIn_mono (hbody _ pre x _ (hput pre X _ _ hi hl rfl) hlen) ?_
    rintro e a3 X3 hp
    cases e with
    | normal =>
      obtain ⟨hk3, hi3⟩ := hp
      have hl3 := hk3.same _ _ (by omega) hl2 rfl
      have hd3 := hk3.same _ _ (Nat.le_refl _) hd2 rfl
      have hr3 := run_endRound (P := P) none hl3
      refine ⟨_, _, hr3, .inl ⟨rfl, hput _ _ _ _ hi3 hl3 rfl, ?_, (World.putObj_heap_other (by omega)).trans hd3⟩⟩
      rw [World.putObj_heap_same (Array.getElem?_eq_some_iff.1 hl3).1, hrec]
      rfl
    | panic ch =>
      obtain ⟨hda, hk3, hi3⟩ := hp
      exact ⟨hda, .inr ⟨ch, rfl, hi3, hk3.same _ _ (Nat.le_refl _) hd2 rfl⟩⟩
    | _ => exact hp.elim
  obtain ⟨e, w₃, fr, hR, hsteps, hfn, hleave⟩ := hcall.2 (b.atR { a with defers := [{ target := .collected w.heap.size, args := #[] }] ++ a.defers } (.inRangeFunc (w.heap.size + 1) :: k) :: cs) (room_wide _)
  rcases hR with ⟨⟨v, rfl⟩, hi, hl, hd⟩ | ⟨ch, pre, rfl, hpre, hip, hd⟩
  · have hend := run_endLoop (P := P) hl (by rw [hrec]; simp)
    refine ⟨.normal, _, w₃.putObj (w.heap.size + 1) (.loop { rec .ready with state := .exhausted }), hdone w.heap.size _ (Nat.le_refl _) (hput _ _ _ _ hi hl rfl) ((World.putObj_heap_other (by omega)).trans hd), ?_⟩
    have hend' : (Instr.endLoop (w.heap.size + 1)).run P w₃ = .ok none (w₃.putObj (w.heap.size + 1) (.loop { rec .ready with state := .exhausted })) := by rw [hrec] at hend ⊢; exact hend
    refine StepsIn.head (hall _) henter (StepsIn.trans hsteps (.head (hall _) ?_ (.one (hall _) (stepR_endRangeFunc hend'))))
    rw [← finish_atR_inRangeFunc (w.heap.size + 1) v]; exact step_leave_returned hleave
  · refine ⟨.panic ch, _, w₃, hthrow w.heap.size ch pre _ (Nat.le_refl _) hpre hip hd, .inRangeFunc (w.heap.size + 1) :: k, .head (hall _) henter (StepsIn.trans hsteps (.one (hall _) ?_))⟩
    rw [← Frame.raise_atR]; exact step_leave_panicked hleave
end Go.Proofs.YtbmfehkahjeobaaDoor
