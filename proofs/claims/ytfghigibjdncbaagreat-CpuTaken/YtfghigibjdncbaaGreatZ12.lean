/-
 PROVED HERE: chapter 13's examples as the law asks them: its 'awake' answers true (a contract over this translation); alloc. What is asked stands at each.
-/
import Derived.Deep.DeepCutAuto
import Derived.Deep.OwnRows
import Derived.Test.YtfghigibjdncbaaGreatZ10
namespace Go.Proofs.YtfghigibjdncbaaGreat
set_option maxRecDepth 100000
set_option maxHeartbeats 8000000
open Go.RowKit Go.Shelf
set_option linter.unusedVariables false
attribute [local go_sem] Oper.semAt_some

section
variable {P : Program} {ops : Array Oper} {rest : List Oper} {op : Oper} {a : Act} {Q : Exit → Act → World → Prop} {w : World}
theorem wpList_buildw (hw : Region.wanted op (yielded ops a.tmps) = true) (t : TypeId) (parts : List (Nat × Operand)) (ho : op.op = .build t parts.toArray) (cells : Array Value) (hf : P.built t (parts.map fun p => (p.1, a.eval p.2)) = some cells)
  (h : wpList P ops Q rest (a.put op.dst (.agg cells)) w) : wpList P ops Q (op :: rest) a w := by
 have hf' : P.built t (parts.toArray.map fun (i, x) => (i, a.eval x)).toList = some cells := by simpa using hf
 exact wpList_wanted hw (wp_build t parts.toArray ho (by rw [hf']; rfl) (by rw [hf']; exact h))
end
def thr (L : Lb) : Ob := ⟨1, 4, L, 1, false, [], [], [], zTh, zGt, [], []⟩
end Go.Proofs.YtfghigibjdncbaaGreat
namespace Go.Proofs.YtfghigibjdncbaaGreat
set_option maxRecDepth 100000
set_option maxHeartbeats 8000000
open Go.RowKit Go.Shelf
set_option linter.unusedVariables false
attribute [local go_sem] Oper.semAt_some

section
variable {ops : Array Oper} {Q : Exit → Act → World → Prop} {S : World → Prop} {w : World} {m : Nat} {a : Act} {l : Array Bool}
theorem share (n : Nat) (l' : Array Bool) (F : Act → World → Prop) (hF : ∀ A W, F A W → wpAnyH Tryz.prog .any ops Q S n l' A W) (h : (∀ A W, F A W → wpAnyH Tryz.prog .any ops Q S n l' A W) → wpAnyH Tryz.prog .any ops Q S m l a w) : wpAnyH Tryz.prog .any ops Q S m l a w := h hF
theorem wpOp_storeL {i : Nat} {ty : TypeId} {B off : Nat} {v : Value} {d : Option Tmp} {W : World} {K : Act → World → Prop} (hi : (ops[i]?).bind (fun o => storeOf ops o a) = some (ty, B, off, v, d)) (hr : (storeVar ty ⟨B, off, none⟩ v).run Tryz.prog w = .ok () W)
  (h : K (a.put d undef) W) : wpOp Tryz.prog ops Q i K a w := by
 cases ho : ops[i]? with
 | none => rw [ho] at hi; cases hi
 | some o =>
  rw [ho] at hi
  have hi' : storeOf ops o a = _ := hi
  unfold storeOf at hi'
  split at hi'
  ·rename_i hw
   split at hi'
   ·rename_i t x y hop
    split at hi'
    ·rename_i b o' hx
     cases hi'
     unfold wpOp
     simp only [ho, hw, if_true]
     left
     unfold Oper.wp execOp
     simp only [hop, hx, Instr.storeAt, Instr.sureAddr, Sem.run_bind, Sem.run_pure, Result.andThen_ok, hr]
     exact h
    ·cases hi'
   ·cases hi'
  ·cases hi'
theorem wpAnyH_two {i j : Nat} {n : Nat} (hm : m = n + 1) (hr : Region.ready .any ops l = [i, j]) (h : wpOp Tryz.prog ops Q i (fun a' w' => S w' ∧ wpAnyH Tryz.prog .any ops Q S n (l.setIfInBounds i true) a' w') a w) (h' : wpOp Tryz.prog ops Q j (fun a' w' => S w' ∧ wpAnyH Tryz.prog .any ops Q S n (l.setIfInBounds j true) a' w') a w) : wpAnyH Tryz.prog .any ops Q S m l a w := by
 subst hm
 refine wpAnyH_all hr (by simp) ?_
 intro k hk
 rw [List.mem_cons, List.mem_singleton] at hk
 rcases hk with rfl | rfl
 ·exact h
 ·exact h'
theorem wpAnyH_single {i : Nat} {n : Nat} (hm : m = n + 1) (hr : Region.ready .any ops l = [i]) (h : wpOp Tryz.prog ops Q i (fun a' w' => S w' ∧ wpAnyH Tryz.prog .any ops Q S n (l.setIfInBounds i true) a' w') a w) : wpAnyH Tryz.prog .any ops Q S m l a w := by
 subst hm
 refine wpAnyH_all hr (by simp) ?_
 intro k hk
 obtain rfl : k = i := by simpa using hk
 exact h
end
end Go.Proofs.YtfghigibjdncbaaGreat
