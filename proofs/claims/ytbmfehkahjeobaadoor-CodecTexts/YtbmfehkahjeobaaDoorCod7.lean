/-
  PROVED HERE: a range over a function whose rounds may throw (no Go text): what a round's body throws goes through the iterator and out of the statement. The statement's frame is of one function of the program.
-/
import Derived.Test.YtbmfehkahjeobaaDoorLv
import Derived.RangeFuncNested
import Derived.RangeFuncCalls
import Derived.RangeFuncLeaves
import Derived.OwnWalkIn
namespace Go.Proofs.YtbmfehkahjeobaaDoor
open Go.RowKit

/-- What is asked at a round's end, where the body comes to its end or throws. -/
def roundThrows (P : Program) (l : Nat) (R : Ending → World → Prop) : Exit → Act → World → Prop
  | .normal, _, w => ∃ v w', (Instr.endRound l none).run P w = .ok v w' ∧ R (.returned v) w'
  | .panic ch, a, w => a.defers = [] ∧ R (.panicked ch) w
  | _, _, _ => False

theorem round_throws {n l : Nat} {P : Program} {f : FuncId} {fn : Func} {tmps : Array Value} {assign body : Code} {w : World} {R : Ending → World → Prop} (hf : P.funcs[f]? = some fn)
    (h : assign.wpIn (Fence.wide.inRound l) n P (Exit.then (fun a₁ w₁ => ∃ w₂, (Instr.beginRound l).run P w₁ = .ok () w₂ ∧ body.wpIn (Fence.wide.inRound l) n P (roundThrows P l R) a₁ w₂) (fun _ _ _ => False))
      { tmps := tmps, defers := [] } w) : RoundIn Fence.wide n P l f tmps assign body w R := by
  refine ⟨trivial, fun c cs hr => ?_⟩
  obtain ⟨b, hbe, hbk, hbr, hbf⟩ : ∃ b : Frame, Frame.round l f tmps assign body .normal = b.atR { tmps := tmps, defers := [] } [.code assign, .beginRound, .code body] ∧ b.kind = .normal ∧ b.roundOf = some l ∧ b.fn = f :=
    ⟨{ (default : Frame) with fn := f, kind := .normal, roundOf := some l }, by simp [Frame.round, Frame.atR], rfl, rfl, rfl⟩
  have hall : ∀ m, Machine.fenced P Fence.wide m := fenced_wide P
  obtain ⟨e, a₁, w₁, hq, harr⟩ := h b [.beginRound, .code body] (c :: cs) hbr trivial (room_wide _)
  rw [← hbe] at harr
  cases e with
  | normal =>
    obtain ⟨w₂, hbg, hbody⟩ := hq
    obtain ⟨e₂, a₂, w₃, hq₂, harr₂⟩ := hbody b [] (c :: cs) hbr trivial (room_wide _)
    have s1 := StepsIn.trans harr (StepsIn.one (hall _) (stepR_beginRound (P := P) (b := b) (a := a₁) (k := [.code body]) (cs := c :: cs) hbr hbg))
    cases e₂ with
    | normal =>
      obtain ⟨v, w₄, hend, hR⟩ := hq₂
      exact ⟨.returned v, w₄, hR, StepsIn.trans s1 (StepsIn.trans harr₂ (.one (hall _) (stepR_round_end hbr hbk hend)))⟩
    | panic ch =>
      obtain ⟨hd, hR⟩ := hq₂
      obtain ⟨todo, hs⟩ := harr₂
      refine ⟨.panicked ch, w₃, hR, StepsIn.trans s1 (StepsIn.trans hs (.one (hall _) (step_leave_panicked ⟨rfl, hd, fn, ?_⟩)))⟩
      show P.funcs[b.fn]? = some fn
      rw [hbf]; exact hf
    | exit id => exact hq₂.elim
    | goto t => exact hq₂.elim
    | ret => exact hq₂.elim
    | outgrown => exact hq₂.elim
  | exit id => exact hq.elim
  | goto t => exact hq.elim
  | ret => exact hq.elim
  | panic ch => exact hq.elim
  | outgrown => exact hq.elim

/-- The walk in a frame of function f. -/
def wpF (f : FuncId) (P : Program) (c : Code) (Q : Exit → Act → World → Prop) (a : Act) (w : World) : Prop :=
  ∀ (b : Frame) (k : List Item) (cs : List Frame), b.roundOf = none → b.fn = f →
    ∃ e a' w', Q e a' w' ∧ ArrivesIn (Machine.fenced P Fence.wide) P (lone (b.atR a (.code c :: k)) cs w) b k cs e a' w'
theorem wpF_of {f n : Nat} {P : Program} {c : Code} {Q : Exit → Act → World → Prop} {a : Act} {w : World} (h : c.wpIn Fence.wide n P Q a w) : wpF f P c Q a w :=
  fun b k cs hr _ => h b k cs hr trivial (room_wide _)
theorem wpF_seq {f : Nat} {P : Program} {x y : Code} {Q : Exit → Act → World → Prop} {a : Act} {w : World} (h : wpF f P x (Exit.then (wpF f P y Q) Q) a w) : wpF f P (.seq x y) Q a w := by
  intro b k cs hr hb
  have h0 := fenced_wide P (lone (b.atR a (.code (.seq x y) :: k)) cs w)
  obtain ⟨e, a₁, w₁, hq, harr⟩ := h b (.code y :: k) cs hr hb
  cases e with
  | normal =>
    obtain ⟨e₂, a₂, w₂, hq₂, harr₂⟩ := hq b k cs hr hb
    exact ⟨e₂, a₂, w₂, hq₂, .of_steps (.head h0 stepR_seq harr) harr₂⟩
  | _ => exact ⟨_, a₁, w₁, hq, .of_steps (.one h0 stepR_seq) (.pass (x := .code y) rfl (fun _ _ => .inl (by simp)) harr)⟩
theorem calls_of_wpF {f n : Nat} {P : Program} {fn : Func} {c : Code} {args : Array Value} {w : World} {R : Ending → World → Prop} (hf : P.funcs[f]? = some fn) (hb : fn.body = some c)
    (h : wpF f P c (bodyPostM Fence.wide n P fn R) { tmps := args ++ Array.replicate (fn.ntmps - args.size) undef, defers := [] } w) : CallsIn Fence.wide n P f args w R := by
  refine ⟨trivial, fun cs hr => ?_⟩
  obtain ⟨b, hbe, hbk, hbr, hbf⟩ : ∃ b : Frame, Frame.enter P f args .normal = b.atR { tmps := args ++ Array.replicate (fn.ntmps - args.size) undef, defers := [] } [.code c] ∧ b.kind = .normal ∧ b.roundOf = none ∧ b.fn = f :=
    ⟨{ (default : Frame) with fn := f, kind := .normal, roundOf := none }, by simp [Frame.enter, Frame.atR, hf, hb], rfl, rfl, rfl⟩
  obtain ⟨e, a', w', hq, harr⟩ := h b [] cs hbr hbf
  rw [← hbe] at harr
  have hf' : P.funcs[b.fn]? = some fn := by rw [hbf]; exact hf
  have hall : ∀ m, Machine.fenced P Fence.wide m := fenced_wide P
  cases e with
  | normal =>
    obtain ⟨e', w'', fr', hR, hs, hfn, hl⟩ := leaves_stepsInM a'.defers .returning w' { b.atR a' [] with mode := .returning } cs rfl rfl rfl hf' hbk trivial hr hq
    exact ⟨e', w'', fr', hR, ComesIn.of_steps (StepsIn.trans harr (.one (hall _) (stepR_end hbr))) hs, hfn.trans hbf, hl⟩
  | ret =>
    obtain ⟨todo, hs₀⟩ := harr.1 hbr
    obtain ⟨e', w'', fr', hR, hs, hfn, hl⟩ := leaves_stepsInM a'.defers .returning w' { b.atR a' todo with mode := .returning } cs rfl rfl rfl hf' hbk trivial hr hq
    exact ⟨e', w'', fr', hR, ComesIn.of_steps hs₀ hs, hfn.trans hbf, hl⟩
  | panic ch =>
    obtain ⟨todo, hs₀⟩ := harr
    obtain ⟨e', w'', fr', hR, hs, hfn, hl⟩ := leaves_stepsInM a'.defers (.panicking ch) w' { b.atR a' todo with mode := .panicking ch } cs rfl rfl rfl hf' hbk trivial hr hq
    exact ⟨e', w'', fr', hR, ComesIn.of_steps hs₀ hs, hfn.trans hbf, hl⟩
  | exit id => exact hq.elim
  | goto l => exact hq.elim
  | outgrown => exact ⟨.outgrown, w', b, hq, harr.resolve_left (by rw [hbk]; simp), hbf, trivial⟩
end Go.Proofs.YtbmfehkahjeobaaDoor
