/-
 PROVED HERE: a drawn region's operations taken in symbols, nil checks and extracts, too (no Go text); a processor in memory. What is asked stands at each.
-/
import Derived.Test.YtdeddhojjolihaaGreatZ12
import Derived.Test.YtdeddhojjolihaaGreatZ15
import Derived.Test.YtdeddhojjolihaaGreatZ25
import Derived.Test.YtdeddhojjolihaaGreatZ37
import Derived.Test.YtdeddhojjolihaaGreatZ38
import Derived.Test.YtdeddhojjolihaaGreatZ39
import Derived.Test.YtdeddhojjolihaaGreatZ41
namespace Go.Proofs.YtdeddhojjolihaaGreat
set_option maxRecDepth 100000
set_option maxHeartbeats 8000000
set_option linter.unusedVariables false
open Go.Proofs.Tryz
section
open Go.ChangeShapes Go.WideShapes Go.ChangeAt Go.RowKit
def symn (P : Program) (ops : Array Oper) (g : Option Value) (o : Oper) (a : Act) : Option (Value × List Obl) :=
 if Region.wanted o (yielded ops a.tmps) then
  match o.op with
  | .nilCheck x =>
   match a.eval x with
   | .pointer (some p) => some (.pointer (some p), [])
   | _ => none
  | .extract x i =>
   match a.eval x with
   | .tuple vs => (vs[i]?).map fun v => (v, [])
   | _ => none
  | _ => symw P g o a
 else some (undef, [])
def symN (P : Program) (md : Region.Mode) (ops : Array Oper) : List (Nat × Option Value) → Array Bool → Act → Option (Array Bool × Act × List Obl)
 | [], l, a => some (l, a, [])
 | (i, g) :: gs, l, a =>
  match ops[i]? with
  | none => none
  | some o =>
   if (Region.free md ops l i && (Region.ready md ops l).contains i) = true then
    match symn P ops g o a with
    | none => none
    | some (v, obs) =>
     match symN P md ops gs (l.setIfInBounds i true) (a.put o.dst v) with
     | none => none
     | some (l', a', obs') => some (l', a', obs ++ obs')
   else none
section
variable {P : Program} {ops : Array Oper} {Q : Exit → Act → World → Prop} {w : World} {md : Region.Mode} {S : World → Prop}
theorem kpz {g : Option Value} {o : Oper} {a : Act} {v : Value} {obs : List Obl} (h : symn P ops g o a = some (v, obs)) (k : Obls P S obs) : YieldsIf P ops S o v a := by
 unfold symn at h
 split at h
 ·rename_i hw
  refine .inl ⟨hw, fun w hS => ?_⟩
  split at h
  ·rename_i x ho
   split at h
   ·rename_i p hx
    cases h
    unfold execOp
    simp [ho, hx]
   ·cases h
  ·rename_i x i ho
   split at h
   ·rename_i vs hx
    cases hv : vs[i]? with
    | none => rw [hv] at h; cases h
    | some u =>
     rw [hv] at h
     cases h
     unfold execOp
     simp [ho, hx, hv, Instr.extract]
   ·cases h
  ·exact vOz h k hS
 ·rename_i hw; cases h; exact .inr ⟨by simpa using hw, rfl⟩
theorem qoz (hs : Region.noSelect ops = true) (hQ : ∀ c a d v w, Q (.panic c) (Act.put a (some d) v) w → Q (.panic c) a w) (hS : S w) : ∀ (gs : List (Nat × Option Value)) {l l' : Array Bool} {a a' : Act} {obs : List Obl} {n m : Nat}, m = n + gs.length → symN P md ops gs l a = some (l', a', obs) → Obls P S obs → wpAnyH P md ops Q S n l' a' w → wpAnyH P md ops Q S m l a w
 | [], l, l', a, a', obs, n, m, hm, h, k, q => by cases h; subst hm; exact q
 | (i, g) :: gs, l, l', a, a', obs, n, m, hm, h, k, q => by
  subst hm
  unfold symN at h
  split at h
  ·cases h
  ·rename_i o ho
   split at h
   ·rename_i hf
    rw [Bool.and_eq_true] at hf
    split at h
    ·cases h
    ·rename_i v obs1 hv
     split at h
     ·cases h
     ·rename_i l2 a2 obs2 h2
      cases h
      obtain ⟨k1, k2⟩ := Obls.app k
      exact wpAnyH_take ho hs hf.1 hf.2 (fun c a w h => putQ hQ h) (kpz hv k1) hS (qoz hs hQ hS gs rfl h2 k2 q)
   ·cases h
end
def xtz (P : Program) (md : Region.Mode) (ops : Array Oper) (Q : Exit → Act → World → Prop) (S : World → Prop) (z : Nat) : Nat → Array Bool → Act → World → Prop
 | 0, listed, a, w => Region.ready md ops listed = [] ∧ Q .normal a w
 | fuel + 1, listed, a, w =>
  (Region.ready md ops listed = [] → Q .normal a w) ∧
  ∀ i ∈ Region.ready md ops listed, wpOp P ops Q i (fun a' w' => (i ≠ z → S w') ∧ xtz P md ops Q S z fuel (listed.setIfInBounds i true) a' w') a w
def chK (md : Region.Mode) (ops : Array Oper) : Nat → List Nat → Bool
 | _, [] => true
 | p, c :: r =>
  match ops[c]? with
  | none => false
  | some o => o.after.toList.any (fun e => Region.binds md e && e.on == p) && chK md ops c r
section
variable {P : Program} {ops : Array Oper} {Q : Exit → Act → World → Prop} {md : Region.Mode} {S : World → Prop} {z : Nat}
theorem kWz : ∀ (fuel : Nat) (listed : Array Bool) (a : Act) (w : World), xtz P md ops Q S z fuel listed a w → wpAny P md ops Q fuel listed a w
 | 0, _, _, _, h => h
 | fuel + 1, _, _, _, h => ⟨h.1, fun i hi => wpOp_mono (fun a' w' h' => kWz fuel _ a' w' h'.2) (h.2 i hi)⟩
theorem gqz {listed : Array Bool} {j : Nat} (hj : j ∈ Region.ready md ops listed) : ∀ (l : List Nat) (p : Nat), listed.getD p true = false → (∀ k ∈ l, listed.getD k true = false) → chK md ops p l = true → j ∉ l
 | [], _, _, _, _ => by simp
 | c :: r, p, hp, hu, hc => by
  unfold chK at hc
  split at hc
  ·cases hc
  ·rename_i o ho
   rw [Bool.and_eq_true, List.any_eq_true] at hc
   obtain ⟨⟨e, he, hb⟩, hr⟩ := hc
   rw [Bool.and_eq_true, beq_iff_eq] at hb
   intro hm
   rcases List.mem_cons.1 hm with rfl | hm
   ·obtain ⟨_, oj, hoj, hall⟩ := mem_ready.1 hj
    rw [ho] at hoj
    cases hoj
    have h1 := hall e (by simpa using he) hb.1
    rw [hb.2] at h1
    rcases Nat.lt_or_ge p listed.size with h' | h'
    ·simp [h'] at hp h1; rw [hp] at h1; cases h1
    ·simp [Array.getElem?_eq_none h'] at h1
   ·exact gqz hj r c (hu c (List.mem_cons_self ..)) (fun k hk => hu k (List.mem_cons_of_mem _ hk)) hr hm
theorem jKz {i : Nat} {oi : Oper} {v : Value} {ch : List Nat} (hi : ops[i]? = some oi) (hsel : ∀ (j : Nat) (o : Oper) cs b, ops[j]? = some o → o.op ≠ .select cs b)
  (hQ : ∀ c a w, Q (.panic c) (a.put oi.dst v) w → Q (.panic c) a w) (hch : chK md ops i ch = true) (hz : z ∈ ch) :
  ∀ (fuel : Nat) (listed : Array Bool) (a : Act) (w : World),
   (∀ j oj, ops[j]? = some oj → j ≠ i → listed.getD j true = false → (∀ e ∈ oj.after, Region.binds md e = true → e.on ≠ i) → oi.apart ops oj = true) →
   (∀ k ∈ ch, listed.getD k true = false) →
   i ∈ Region.ready md ops listed → YieldsIf P ops S oi v a → S w →
   xtz P md ops Q S z fuel (listed.setIfInBounds i true) (a.put oi.dst v) w → xtz P md ops Q S z (fuel + 1) listed a w := by
 intro fuel
 induction fuel with
 | zero =>
  intro listed a w _ _ hr hy hS H
  refine ⟨fun h => (by rw [h] at hr; cases hr), fun j hj => ?_⟩
  by_cases hji : j = i
  ·subst hji; exact hy.wpOp hi hS ⟨fun _ => hS, H⟩
  ·have := ready_mono hj hji
   rw [H.1] at this
   cases this
 | succ fuel ih =>
  intro listed a w hfree hun hr hy hS H
  refine ⟨fun h => (by rw [h] at hr; cases hr), fun j hj => ?_⟩
  by_cases hji : j = i
  ·subst hji; exact hy.wpOp hi hS ⟨fun _ => hS, H⟩
  ·have hjc : j ∉ ch := gqz hj ch i (mem_ready.1 hr).1 hun hch
   have hjz : j ≠ z := fun e => hjc (e ▸ hz)
   have h1 := H.2 j (ready_mono hj hji)
   obtain ⟨hjun, oj, hoj, hall⟩ := mem_ready.1 hj
   have hnot : ∀ e ∈ oj.after, Region.binds md e = true → e.on ≠ i := fun e he hb heq => by
    have h1 := hall e he hb
    have h0 := (mem_ready.1 hr).1
    rw [heq] at h1
    rcases Nat.lt_or_ge i listed.size with h' | h'
    ·simp [h'] at h0 h1; rw [h0] at h1; cases h1
    ·simp [Array.getElem?_eq_none h'] at h1
   have h2 := wpOp_putIf hoj (hfree j oj hoj hji hjun hnot) (fun cs b => hsel i oi cs b hi) (fun cs b => hsel j oj cs b hoj) hQ hy h1
   have hset : ∀ k, (listed.setIfInBounds j true).getD k true = false → listed.getD k true = false := fun k hun => by
    by_cases hjk : j = k
    ·subst hjk; exact hjun
    ·rw [getD_set_ne true hjk] at hun; exact hun
   have hfree' : ∀ k ok, ops[k]? = some ok → k ≠ i → (listed.setIfInBounds j true).getD k true = false →
     (∀ e ∈ ok.after, Region.binds md e = true → e.on ≠ i) → oi.apart ops ok = true := fun k ok hk hki hun hno => hfree k ok hk hki (hset k hun) hno
   have hun' : ∀ k ∈ ch, (listed.setIfInBounds j true).getD k true = false := fun k hk => by
    have : j ≠ k := fun e => hjc (e ▸ hk)
    rw [getD_set_ne true this]
    exact hun k hk
   refine wpOp_mono (fun a' w' h3 => ⟨h3.2.1, ih (listed.setIfInBounds j true) a' w' hfree' hun' (ready_mono hr (Ne.symm hji)) h3.1 (h3.2.1 hjz) ?_⟩) h2
   rw [Array.setIfInBounds_comm _ _ hji]
   exact h3.2.2
def symK (P : Program) (md : Region.Mode) (ops : Array Oper) (z : Nat) : List (Nat × Option Value × List Nat) → Array Bool → Act → Option (Array Bool × Act × List Obl)
 | [], l, a => some (l, a, [])
 | (i, g, ch) :: gs, l, a =>
  match ops[i]? with
  | none => none
  | some o =>
   if (Region.free md ops l i && (Region.ready md ops l).contains i && chK md ops i (ch ++ [z]) && (ch ++ [z]).all fun k => !(l.getD k true)) = true then
    match symn P ops g o a with
    | none => none
    | some (v, obs) =>
     match symK P md ops z gs (l.setIfInBounds i true) (a.put o.dst v) with
     | none => none
     | some (l', a', obs') => some (l', a', obs ++ obs')
   else none
theorem qPz {w : World} (hs : Region.noSelect ops = true) (hQ : ∀ c a d v w, Q (.panic c) (Act.put a (some d) v) w → Q (.panic c) a w) (hS : S w) : ∀ (gs : List (Nat × Option Value × List Nat)) {l l' : Array Bool} {a a' : Act} {obs : List Obl} {n m : Nat}, m = n + gs.length → symK P md ops z gs l a = some (l', a', obs) → Obls P S obs → xtz P md ops Q S z n l' a' w → xtz P md ops Q S z m l a w
 | [], l, l', a, a', obs, n, m, hm, h, k, q => by cases h; subst hm; exact q
 | (i, g, ch) :: gs, l, l', a, a', obs, n, m, hm, h, k, q => by
  subst hm
  unfold symK at h
  split at h
  ·cases h
  ·rename_i o ho
   split at h
   ·rename_i hf
    rw [Bool.and_eq_true, Bool.and_eq_true, Bool.and_eq_true, List.all_eq_true] at hf
    split at h
    ·cases h
    ·rename_i v obs1 hv
     split at h
     ·cases h
     ·rename_i l2 a2 obs2 h2
      cases h
      obtain ⟨k1, k2⟩ := Obls.app k
      exact jKz ho (Region.noSelect_spec hs) (fun c a w h => putQ hQ h) hf.1.2 (by simp) _ l a w (Region.free_spec ho hf.1.1.1) (fun k hk => by simpa using hf.2 k hk) (by simpa using hf.1.1.2) (kpz hv k1) hS (qPz hs hQ hS gs rfl h2 k2 q)
   ·cases h
theorem q1z {listed : Array Bool} {a : Act} {w : World} (hr : Region.ready md ops listed = []) (h : Q .normal a w) :
  ∀ fuel, xtz P md ops Q S z fuel listed a w
 | 0 => ⟨hr, h⟩
 | _ + 1 => ⟨fun _ => h, by rw [hr]; simp⟩
theorem qtz {w : World} {l : Array Bool} {a : Act} {i n m : Nat} (hm : m = n + 1) (hr : Region.ready md ops l = [i]) (h : wpOp P ops Q i (fun a' w' => (i ≠ z → S w') ∧ xtz P md ops Q S z n (l.setIfInBounds i true) a' w') a w) : xtz P md ops Q S z m l a w := by
 subst hm
 refine ⟨fun h0 => (by rw [hr] at h0; cases h0), fun k hk => ?_⟩
 rw [hr] at hk
 obtain rfl : k = i := by simpa using hk
 exact h
theorem wrz {id : Nat} {a : Act} {w : World} (z : Nat) (hm : P.follows .mixedOrders = true)
  (hS : S w.drew) (h : S w.drew → xtz P .any ops Q S z ops.size (Array.replicate ops.size false) a w.drew) : (Code.region id ops true).wp P Q a w :=
 wp_region_any hm (kWz _ _ _ _ (h hS))
end
section
variable {ops : Array Oper} {Q : Exit → Act → World → Prop} {w : World} {a : Act}
theorem wVz {i : Nat} {f : FuncId} {vs : List Value} {d : Option Tmp} {R : Ending → World → Prop} {K : Act → World → Prop} (hi : (ops[i]?).bind (fun o => w9z ops o a) = some (f, vs, d))
  (hf : ∀ args w, (callFunc f args).run prog w = .ok (.enter f args) w) (hc : Calls prog f vs.toArray w R)
  (h : ∀ e w', R e w' → (∃ v, e = .returned v ∧ K (a.put d v) w') ∨ ∃ ps, e = .panicked ps ∧ Q (.panic ps) a w') : wpOp prog ops Q i K a w := by
 cases ho : ops[i]? with
 | none => rw [ho] at hi; cases hi
 | some o =>
  rw [ho] at hi
  obtain ⟨h1, h2, h3⟩ := xXz (show w9z ops o a = _ from hi) hf w
  unfold wpOp
  simp only [ho, h1, if_true]
  left
  unfold Oper.wp
  rw [h3, Oper.upon_enter]
  refine hc.mono ?_
  intro e w' hR
  rcases h e w' hR with ⟨v, rfl, h⟩ | ⟨ps, rfl, h⟩
  ·rw [h2]
   exact h
  ·exact h
end
end
section
open Go.RowKit Go.Shelf
attribute [local go_sem] Oper.semAt_some
abbrev Ez (Z : Nat → Prop) (B : Nat) (w : World) : Nat → Prop := fun b => (b < w.heap.size ∧ b ≠ B) ∧ ¬ Z b
structure Pz (Z : Nat → Prop) (w : World) (B : Nat) (F : Array Value) (x : Ob) (t ke ro : Int) (ao : Option Addr) (n cap : Nat) (X : List Ob) : Prop where
 blk : Blk w B F 59
 size : F.size = 55
 one : F.all (·.oneCell') = true
 ob : ObD (Ez Z B w) w (F.extract 0 51) x
 wld : F.extract 51 (51 + 4) = #[.int .i64 t, .int .u64 ke, .int .u64 ro, .slice ao n cap]
 obs : ObsD (Ez Z B w) (Ez Z B w) w ao n cap X
 zlt : ∀ b, Z b → b < w.heap.size
structure Ot (B : Nat) (w w' : World) : Prop where
 low : Below B w w'
 oth : ∀ b, b < w.heap.size → b ≠ B → w'.heap[b]? = w.heap[b]?
theorem Ot.refl (B : Nat) (w : World) : Ot B w w := ⟨Below.refl _ _, fun _ _ _ => rfl⟩
theorem Ot.trans {B : Nat} {a b c : World} (h : Ot B a b) (k : Ot B b c) : Ot B a c :=
 ⟨h.low.trans k.low, fun q hq hne => (k.oth q (Nat.lt_of_lt_of_le hq h.low.size) hne).trans (h.oth q hq hne)⟩
theorem Ot.of {B : Nat} {w w' : World} (k : Below w.heap.size w w') (hB : B < w.heap.size) : Ot B w w' := ⟨k.mono (by omega), fun b hb _ => k.block b hb⟩
theorem Ot.set {B : Nat} {w w' : World} (q : Oth B w w') : Ot B w w' := ⟨q.below _ _ (Nat.le_refl _) (Below.refl _ _), fun b _ hne => q.block b hne⟩
section
variable {Z : Nat → Prop} {w w' : World} {B : Nat} {F : Array Value} {x : Ob} {t ke ro : Int} {ao : Option Addr} {n cap : Nat} {X : List Ob}
theorem Pz.next (h : Pz Z w B F x t ke ro ao n cap X) (k : Below w.heap.size w w') : Pz Z w' B F x t ke ro ao n cap X :=
 have g : ∀ b, Ez Z B w b → Ez Z B w' b := fun b hb => ⟨⟨Nat.lt_of_lt_of_le hb.1.1 k.size, hb.1.2⟩, hb.2⟩
 ⟨h.blk.next k, h.size, h.one, (h.ob.laterK fun b hb => k.block b hb.1.1).wide g, h.wld, (h.obs.laterK (fun b hb => k.block b hb.1.1) fun b hb => k.block b hb.1.1).wide g g, fun b hb => Nat.lt_of_lt_of_le (h.zlt b hb) k.size⟩
theorem x4z {i : Nat} (h : F.size = 55) (hi : i < 51) : (F.extract 0 51)[i]? = F[i]? := by
 rw [Array.getElem?_extract, if_pos (by omega), Nat.zero_add]
theorem ghz {j : Nat} {v : Value} (h : F.size = 55) (hj : j < 51) : (F.setIfInBounds j v).extract 0 51 = (F.extract 0 51).setIfInBounds j v := by
 apply Array.ext_getElem?
 intro i
 have hz : (F.extract 0 51).size = 51 := by simp [h]
 rw [qwz (by rw [hz]; exact hj)]
 by_cases hi : i < 51
 ·rw [Array.getElem?_extract, if_pos (by simp [h]; omega), Nat.zero_add, qwz (by omega), x4z h hi]
 ·rw [Array.getElem?_eq_none (by simp [h]; omega), if_neg (by omega), Array.getElem?_eq_none (by rw [hz]; omega)]
theorem ext_set4 {j : Nat} {v : Value} (h : F.size = 55) (hj : j < 51) : (F.setIfInBounds j v).extract 51 (51 + 4) = F.extract 51 (51 + 4) := by
 apply Array.ext_getElem?
 intro i
 by_cases hi : i < 4
 ·rw [Array.getElem?_extract, if_pos (by simp [h]; omega), Array.getElem?_extract, if_pos (by omega), qwz (by omega), if_neg (by omega)]
 ·rw [Array.getElem?_eq_none (by simp [h]; omega), Array.getElem?_eq_none (by simp [h]; omega)]
theorem Pz.put (h : Pz Z w B F x t ke ro ao n cap X) {j : Nat} (hj : j < 35) {v : Value} (hv : v.oneCell' = true) {t' : Th} (k : ThF (Ez Z B w) w (fun i => if j = i then some v else (F.extract 0 51)[8 + i]?) t') (hb : Blk w' B (F.setIfInBounds (8 + j) v) 59) (q : Oth B w w') : Pz Z w' B (F.setIfInBounds (8 + j) v) { x with th := t' } t ke ro ao n cap X :=
 have g : ∀ b, Ez Z B w b → Ez Z B w' b := fun b hb => ⟨⟨by rw [q.size]; exact hb.1.1, hb.1.2⟩, hb.2⟩
 ⟨hb, by simp [h.size], q8z h.one hv, by rw [ghz h.size (by omega)]; exact ((h.ob.thput hj hv k).laterK fun b hb => q.block b hb.1.2).wide g, by rw [ext_set4 h.size (by omega)]; exact h.wld, (h.obs.laterK (fun b hb => q.block b hb.1.2) fun b hb => q.block b hb.1.2).wide g g, fun b hb => by rw [q.size]; exact h.zlt b hb⟩
theorem Pz.at (h : Pz Z w B F x t ke ro ao n cap X) {i : Nat} (hi : i < 51) {v : Option Value} (e : (F.extract 0 51)[i]? = v) : F[i]? = v := (x4z h.size hi).symm.trans e
theorem Pz.pc (h : Pz Z w B F x t ke ro ao n cap X) : F[24]? = some (.int .u64 x.th.pc) := h.at (by omega) h.ob.th.pc
theorem Pz.reg (h : Pz Z w B F x t ke ro ao n cap X) {k : Nat} (hk : k < 16) : F[8 + k]? = some (.int .u64 (x.th.regs.getD k 0)) := h.at (by omega) (h.ob.th.regs k hk)
end
structure WdT (t : Th) : Prop where
 reg : ∀ k, 0 ≤ t.regs.getD k 0 ∧ t.regs.getD k 0 < 18446744073709551616
 pc : 0 ≤ t.pc ∧ t.pc < 18446744073709551616
theorem ado_int (op : Int) {b c : Int} (hb : 0 ≤ b ∧ b < 18446744073709551616) (hc : 0 ≤ c ∧ c < 18446744073709551616) (w : World) :
  Calls prog 106 #[.int .i64 op, .int .u64 b, .int .u64 c] w fun e w' => e = .returned (.tuple #[.int .u64 (doI op b c), .bool (Al.okB op)]) ∧ w = w' := by
 have := ado_any op (b := b.toNat) (c := c.toNat) (by unfold Al.W; omega) (by unfold Al.W; omega) w
 rw [Int.toNat_of_nonneg hb.1, Int.toNat_of_nonneg hc.1] at this
 exact this
theorem Blk.keepO {W1 w3 w : World} {B I : Nat} {C : Array Value} {ty : TypeId} (h : Blk W1 I C ty) (q : Ot B W1 w3) (hN : Hid (w.heap.size = I ∧ W1.heap.size = I + 1)) (hB : B < w.heap.size) : Blk w3 I C ty := (q.oth I h.lt (by have := hN.out; omega)).trans h
theorem vDz {S : World → Prop} {x y : Operand} {a b c : Int} (e : (a + b) % 18446744073709551616 = c) : Obl.holds prog S (.test .add 22 x y (.int .u64 a) (.int .u64 b) (.int .u64 c)) := fun w hS => by
 subst e
 have := IntKind.wrap_u64 (a + b)
 go_simp
--@HEAD-END
variable {Z : Nat → Prop} {ao : Option Addr} {F : Array Value} {t ke ro : Int} {n cap : Nat} {X : List Ob} {w : World} {B : Nat} {x : Ob}
theorem j6z {i : Int} (h : Pz Z w B F x t ke ro ao n cap X) : Calls prog 71 #[.pointer (some ⟨B, 0, none⟩), .int .i32 i] w fun e w' => e = .returned (.tuple #[]) ∧ ∃ F', Pz Z w' B F' { x with th := { x.th with pc := frI x.th i } } t ke ro ao n cap X ∧ Ot B w w' := by
 have hmx : prog.follows .mixedOrders = true := by kernel_rfl
 have ga2 := isAgg22
 have hb := h.blk
 have hB := hb
 have hz := h.size
 have hBl := h.blk.lt
 have hp : F[24]? = some (.int .u64 x.th.pc) := h.pc
 have hk := Below.refl w.heap.size w
 have e1 : (1 + ((Al.extN i : Nat) : Int)) % 18446744073709551616 = (1 + i) % 18446744073709551616 := by unfold Al.extN; omega
 have e2 : (x.th.pc + (1 + i) % 18446744073709551616) % 18446744073709551616 = frI x.th i := by unfold frI; omega
 replace e1 : Hid _ := e1
 replace e2 : Hid _ := e2
 go_enter func71, ntmps71
 refine wrz (S := fun W => Blk W B F 59 ∧ Below w.heap.size w W) 14 hmx (⟨hB.next (Below.refl _ _).drew, hk.trans ((Below.refl _ _).drew.mono hk.size)⟩) (fun hS0 => ?_)
 generalize w.drew = v0 at hS0 ⊢
 refine qPz (by kernel_rfl) (fun _ _ _ _ _ h => h) hS0 [(0, none, []), (1, none, []), (2, none, []), (3, none, []), (4, none, []), (5, some (.int .u64 x.th.pc), []), (6, none, [])] (l' := #[tt, tt, tt, tt, tt, tt, tt, ff, ff, ff, ff, ff, ff, ff, ff]) (a' := { tmps := #[.pointer (some ⟨B, 0, none⟩), .int .i32 i, undef, undef, .pointer (some ⟨B, 0, none⟩), .pointer (some ⟨B, 0, none⟩), .pointer (some ⟨B, 0, none⟩), .pointer (some ⟨B, 8, none⟩), .pointer (some ⟨B, 24, none⟩), .int .u64 x.th.pc, .int .i32 i, undef, undef, undef, undef, undef, undef, undef], defers := [] }) (obs := [.load 22 B 24 (.int .u64 x.th.pc)]) (n := 8) (by kernel_rfl) (by kernel_rfl) ⟨qgz (fun W hS => hS.1) hp ga2, trivial⟩ ?_
 refine qtz (i := 7) (n := 7) rfl (by kernel_rfl) ?_
 refine qpz (f := 68) (vs := [.int .i32 i]) (d := some 11) (by kernel_rfl) call68 (jyz _ _) ?_
 rintro e w01 ⟨rfl, rfl⟩
 refine ⟨_, rfl, fun _ => hS0, ?_⟩
 refine qPz (by kernel_rfl) (fun _ _ _ _ _ h => h) hS0 [(8, some (.int .u64 ((1 + i) % 18446744073709551616)), []), (9, some (.int .u64 (frI x.th i)), []), (10, none, [11, 12, 13]), (11, none, [12, 13]), (12, none, [13]), (13, none, [])] (l' := #[tt, tt, tt, tt, tt, tt, tt, tt, tt, tt, tt, tt, tt, tt, ff]) (a' := { tmps := #[.pointer (some ⟨B, 0, none⟩), .int .i32 i, undef, undef, .pointer (some ⟨B, 0, none⟩), .pointer (some ⟨B, 0, none⟩), .pointer (some ⟨B, 0, none⟩), .pointer (some ⟨B, 8, none⟩), .pointer (some ⟨B, 24, none⟩), .int .u64 x.th.pc, .int .i32 i, .int .u64 ((Al.extN i : Nat) : Int), .int .u64 ((1 + i) % 18446744073709551616), .int .u64 (frI x.th i), .pointer (some ⟨B, 0, none⟩), .pointer (some ⟨B, 0, none⟩), .pointer (some ⟨B, 8, none⟩), .pointer (some ⟨B, 24, none⟩)], defers := [] }) (obs := [.test .add 22 (.const (.int .u64 1)) (.tmp 11) (.int .u64 1) (.int .u64 ((Al.extN i : Nat) : Int)) (.int .u64 ((1 + i) % 18446744073709551616)), .test .add 22 (.tmp 9) (.tmp 12) (.int .u64 x.th.pc) (.int .u64 ((1 + i) % 18446744073709551616)) (.int .u64 (frI x.th i))]) (n := 1) (by kernel_rfl) (by kernel_rfl) ⟨vDz e1.out, vDz e2.out, trivial⟩ ?_
 obtain ⟨W9, hr9, hb9, o9⟩ := qHz (ty := 22) (j := 24) (v := .int .u64 (frI x.th i)) hS0.1 rfl (by kernel_rfl) (by rw [hz]; decide) rfl
 refine qtz (i := 14) (n := 0) rfl (by kernel_rfl) ?_
 refine qAz (ty := 22) (B := B) (off := 24) (v := .int .u64 (frI x.th i)) (d := none) (by kernel_rfl) hr9 ?_
 refine ⟨(fun q => absurd rfl q), ?_⟩
 refine q1z (by kernel_rfl) ?_ _
 go_wp2
 go_end0
 have hP := (h.next hS0.2).put (j := 16) (by decide) (by rfl) ((h.next hS0.2).ob.th.setpc (frI x.th i)) hb9 o9
 exact ⟨rfl, _, hP, (Ot.of hS0.2 hBl).trans (Ot.set o9)⟩
theorem u7z (t : Th) : frI t 0 = nxI t := by unfold frI nxI; rw [Int.add_zero]
theorem uPz (h : Pz Z w B F x t ke ro ao n cap X) : Calls prog 103 #[.pointer (some ⟨B, 0, none⟩)] w fun e w' => e = .returned (.tuple #[]) ∧ ∃ F', Pz Z w' B F' { x with th := { x.th with pc := nxI x.th } } t ke ro ao n cap X ∧ Ot B w w' := by
 have hj := j6z (i := 0) h
 rw [u7z] at hj
 go_enter func103, ntmps103
 go_wp2_with (go_at_call 71; (with_reducible refine hj.mono ?_); rintro e w1 ⟨rfl, hq⟩)
 go_end0
 exact ⟨rfl, hq⟩
theorem ygz {b : Bool} {i : Int} (h : Pz Z w B F x t ke ro ao n cap X) : Calls prog 72 #[.pointer (some ⟨B, 0, none⟩), .bool b, .int .i32 i] w fun e w' => e = .returned (.tuple #[]) ∧ ∃ F', Pz Z w' B F' { x with th := { x.th with pc := if b = true then frI x.th i else nxI x.th } } t ke ro ao n cap X ∧ Ot B w w' := by
 have hj := j6z (i := 0) h
 rw [u7z] at hj
 have hj1 := j6z (i := i) h
 cases b
 ·go_enter func72, ntmps72
  go_wp2_with (go_at_call 71; (with_reducible refine hj.mono ?_); rintro e w1 ⟨rfl, F1, hP1, hq⟩)
  go_end0
  exact ⟨rfl, by first | exact ⟨F1, hP1, hq⟩ | exact ⟨⟨F1, hP1⟩, hq⟩⟩
 ·go_enter func72, ntmps72
  go_wp2_with (go_at_call 71; (with_reducible refine hj1.mono ?_); rintro e w1 ⟨rfl, F1, hP1, hq⟩)
  go_end0
  exact ⟨rfl, by first | exact ⟨F1, hP1, hq⟩ | exact ⟨⟨F1, hP1⟩, hq⟩⟩
theorem ytz {k : Nat} {v : Int} (h : Pz Z w B F x t ke ro ao n cap X) (hk16 : k < 16) : Calls prog 67 #[.pointer (some ⟨B, 0, none⟩), .int .i64 (k : Int), .int .u64 v] w fun e w' => e = .returned (.tuple #[]) ∧ ∃ F', Pz Z w' B F' { x with th := seI x.th (k : Int) v } t ke ro ao n cap X ∧ Ot B w w' := by
 have hmx : prog.follows .mixedOrders = true := by kernel_rfl
 have ga2 := isAgg22
 have hb := h.blk
 have hB := hb
 have hz := h.size
 have hBl := h.blk.lt
 have hp : F[24]? = some (.int .u64 x.th.pc) := h.pc
 have hk := Below.refl w.heap.size w
 have hi8 : ∀ W, (Instr.indexAt 37 (.pointer (some ⟨B, 8, none⟩)) (.int .i64 (k : Int))).run prog W = .ok (.pointer (some ⟨B, 8 + k, none⟩)) W := fun W => qFz hk16 W
 go_enter func67, ntmps67
 go_wp2_with (first
  | go_skip
  | (with_reducible refine klz (by kernel_rfl) 37 _ _ rfl _ _ rfl rfl _ (hi8 _) ?_)
  | ((with_reducible refine qkz rfl 22 _ _ rfl B (8 + k) rfl (.int .u64 v) rfl rfl F _ hb (by kernel_rfl) (by rw [hz]; omega) rfl ?_); intro W2 hb2 o2; have hP2 := h.put (j := k) (by omega) (by rfl) (h.ob.th.setreg hk16 v) hb2 o2)
  | (go_at_call 103; (with_reducible refine (uPz hP2).mono ?_); rintro e w3 ⟨rfl, F3, hP3, q3⟩))
 go_end0
 exact ⟨rfl, F3, hP3, (Ot.set o2).trans q3⟩
variable {a b c : Nat} {op i : Int}
theorem y8z (h : Pz Z w B F x t ke ro ao n cap X) (hb16 : b < 16) : Calls prog 70 #[.pointer (some ⟨B, 0, none⟩), .agg #[.int .i64 op, .int .i64 (a : Int), .int .i64 (b : Int), .int .i64 (c : Int), .int .i32 i]] w fun e w' => e = .returned (.int .u64 (smI x.th (b : Int) i)) ∧ Below w.heap.size w w' := by
 have hmx : prog.follows .mixedOrders = true := by kernel_rfl
 have ga2 := isAgg22
 have hb := h.blk
 have hB := hb
 have hz := h.size
 have hBl := h.blk.lt
 have hp : F[24]? = some (.int .u64 x.th.pc) := h.pc
 have hk := Below.refl w.heap.size w
 have hr := h.reg hb16
 have e2 : (x.th.regs.getD b 0 + ((Al.extN i : Nat) : Int)) % 18446744073709551616 = smI x.th (b : Int) i := by show _ = (x.th.regs.getD b 0 + i) % _; unfold Al.extN; omega
 replace e2 : Hid _ := e2
 have ga3 := isAgg3
 have ga4 := isAgg21
 obtain ⟨CI, hCI⟩ : ∃ CI : Array Value, CI = #[.int .i64 op, .int .i64 (a : Int), .int .i64 (b : Int), .int .i64 (c : Int), .int .i32 i] := ⟨_, rfl⟩
 have c1 : CI[1]? = some (.int .i64 (a : Int)) := by rw [hCI]; rfl
 have c2 : CI[2]? = some (.int .i64 (b : Int)) := by rw [hCI]; rfl
 have c4 : CI[4]? = some (.int .i32 i) := by rw [hCI]; rfl
 rw [← hCI]
 clear hCI
 go_enter func70, ntmps70
 go_wp2_with (first
  | go_skip
  | (with_reducible refine qdz rfl 68 _ rfl CI rfl ?_; intro I W1 hN1 hI hk1; replace hb := hb.next hk1; replace hk := btz hk hk1))
 replace hB := hb
 refine PgM.region_out (S := fun W => Blk W B F 59 ∧ Blk W I CI 68 ∧ Below w.heap.size w W) hmx (⟨hB.next (Below.refl _ _).drew, hI.next (Below.refl _ _).drew, hk.trans ((Below.refl _ _).drew.mono hk.size)⟩) (fun hS0 => ?_)
 generalize W1.drew = v0 at hS0 ⊢
 refine qoz (by kernel_rfl) (fun _ _ _ _ _ h => h) hS0 [(0, none), (1, none), (2, some (.int .i64 (b : Int))), (3, none), (4, none), (5, none), (6, none), (7, some (.pointer (some ⟨B, 8 + b, none⟩))), (8, some (.int .u64 (x.th.regs.getD b 0))), (9, none), (10, some (.int .i32 i))] (l' := #[tt, tt, tt, tt, tt, tt, tt, tt, tt, tt, tt, ff, ff, ff]) (a' := { tmps := #[.pointer (some ⟨B, 0, none⟩), .agg CI, undef, .pointer (some ⟨I, 0, none⟩), .int .u64 0, .pointer (some ⟨B, 0, none⟩), .pointer (some ⟨I, 2, none⟩), .int .i64 (b : Int), .pointer (some ⟨B, 0, none⟩), .pointer (some ⟨B, 0, none⟩), .pointer (some ⟨B, 8, none⟩), .pointer (some ⟨B, 8, none⟩), .pointer (some ⟨B, 8 + b, none⟩), .int .u64 (x.th.regs.getD b 0), .pointer (some ⟨I, 4, none⟩), .int .i32 i, ud, undef], defers := [] }) (obs := [.load 3 I 2 (.int .i64 (b : Int)), .ia 37 (.pointer (some ⟨B, 8, none⟩)) (.int .i64 (b : Int)) (.pointer (some ⟨B, 8 + b, none⟩)), .load 22 B (8 + b) (.int .u64 (x.th.regs.getD b 0)), .load 21 I 4 (.int .i32 i)]) (n := 3) (by kernel_rfl) (by kernel_rfl) ⟨qgz (fun W hS => hS.2.1) c2 ga3, fun W hS => qFz hb16 W, qgz (fun W hS => hS.1) hr ga2, qgz (fun W hS => hS.2.1) c4 ga4, trivial⟩ ?_
 refine qjz (i := 11) (n := 2) rfl (by kernel_rfl) ?_
 refine qpz (f := 68) (vs := [.int .i32 i]) (d := some 16) (by kernel_rfl) call68 (jyz _ _) ?_
 rintro e w01 ⟨rfl, rfl⟩
 refine ⟨_, rfl, hS0, ?_⟩
 refine qoz (by kernel_rfl) (fun _ _ _ _ _ h => h) hS0 [(12, some (.int .u64 (smI x.th (b : Int) i))), (13, none)] (l' := #[tt, tt, tt, tt, tt, tt, tt, tt, tt, tt, tt, tt, tt, tt]) (a' := { tmps := #[.pointer (some ⟨B, 0, none⟩), .agg CI, undef, .pointer (some ⟨I, 0, none⟩), .int .u64 (smI x.th (b : Int) i), .pointer (some ⟨B, 0, none⟩), .pointer (some ⟨I, 2, none⟩), .int .i64 (b : Int), .pointer (some ⟨B, 0, none⟩), .pointer (some ⟨B, 0, none⟩), .pointer (some ⟨B, 8, none⟩), .pointer (some ⟨B, 8, none⟩), .pointer (some ⟨B, 8 + b, none⟩), .int .u64 (x.th.regs.getD b 0), .pointer (some ⟨I, 4, none⟩), .int .i32 i, .int .u64 ((Al.extN i : Nat) : Int), .int .u64 (smI x.th (b : Int) i)], defers := [] }) (obs := [.test .add 22 (.tmp 13) (.tmp 16) (.int .u64 (x.th.regs.getD b 0)) (.int .u64 ((Al.extN i : Nat) : Int)) (.int .u64 (smI x.th (b : Int) i))]) (n := 0) (by kernel_rfl) (by kernel_rfl) ⟨vDz e2.out, trivial⟩ ?_
 refine wpAnyH_done (by kernel_rfl) ?_ _
 go_wp2
 go_ret
 exact ⟨rfl, hS0.2.2⟩
theorem uJz (h : Pz Z w B F x t ke ro ao n cap X) (ha16 : a < 16) (hb16 : b < 16) (hc16 : c < 16) (hw : WdT x.th) : Calls prog 77 #[.pointer (some ⟨B, 0, none⟩), .agg #[.int .i64 op, .int .i64 (a : Int), .int .i64 (b : Int), .int .i64 (c : Int), .int .i32 i]] w fun e w' => e = .returned (.tuple #[]) ∧ ∃ F', Pz Z w' B F' { x with th := seI x.th (a : Int) (doI op (rgI x.th (b : Int)) (rgI x.th (c : Int))) } t ke ro ao n cap X ∧ Ot B w w' := by
 have hmx : prog.follows .mixedOrders = true := by kernel_rfl
 have ga2 := isAgg22
 have hb := h.blk
 have hB := hb
 have hz := h.size
 have hBl := h.blk.lt
 have hp : F[24]? = some (.int .u64 x.th.pc) := h.pc
 have hk := Below.refl w.heap.size w
 have hr := h.reg hb16
 have hrc := h.reg hc16
 have ga3 := isAgg3
 have ga4 := isAgg21
 obtain ⟨CI, hCI⟩ : ∃ CI : Array Value, CI = #[.int .i64 op, .int .i64 (a : Int), .int .i64 (b : Int), .int .i64 (c : Int), .int .i32 i] := ⟨_, rfl⟩
 have c0 : CI[0]? = some (.int .i64 op) := by rw [hCI]; rfl
 have c1 : CI[1]? = some (.int .i64 (a : Int)) := by rw [hCI]; rfl
 have c2 : CI[2]? = some (.int .i64 (b : Int)) := by rw [hCI]; rfl
 have c3 : CI[3]? = some (.int .i64 (c : Int)) := by rw [hCI]; rfl
 rw [← hCI]
 clear hCI
 have hdo := fun (W : World) => ado_int op (hw.reg b) (hw.reg c) W
 obtain ⟨V, hV⟩ : ∃ V : Int, Hid (doI op (x.th.regs.getD b 0) (x.th.regs.getD c 0) = V) := ⟨_, rfl⟩
 rw [hV.out] at hdo
 go_enter func77, ntmps77
 go_wp2_with (first
  | go_skip
  | (with_reducible refine qdz rfl 68 _ rfl CI rfl ?_; intro I W1 hN1 hI hk1; replace hb := hb.next hk1; replace hk := btz hk hk1))
 replace hB := hb
 refine PgM.region_out (S := fun W => Blk W B F 59 ∧ Blk W I CI 68 ∧ Below w.heap.size w W) hmx (⟨hB.next (Below.refl _ _).drew, hI.next (Below.refl _ _).drew, hk.trans ((Below.refl _ _).drew.mono hk.size)⟩) (fun hS0 => ?_)
 generalize W1.drew = v0 at hS0 ⊢
 refine qoz (by kernel_rfl) (fun _ _ _ _ _ h => h) hS0 [(0, none), (1, some (.int .i64 op)), (2, none), (3, none), (4, some (.int .i64 (b : Int))), (5, none), (6, none), (7, none), (8, none), (9, some (.pointer (some ⟨B, 8 + b, none⟩))), (10, some (.int .u64 (x.th.regs.getD b 0))), (11, none), (12, none), (13, some (.int .i64 (c : Int))), (14, none), (15, none), (16, none), (17, none), (18, some (.pointer (some ⟨B, 8 + c, none⟩))), (19, some (.int .u64 (x.th.regs.getD c 0)))] (l' := #[tt, tt, tt, tt, tt, tt, tt, tt, tt, tt, tt, tt, tt, tt, tt, tt, tt, tt, tt, tt, ff, ff, ff, ff, ff, ff]) (a' := { tmps := #[.pointer (some ⟨B, 0, none⟩), .agg CI, undef, .pointer (some ⟨I, 0, none⟩), ud, ud, undef, .pointer (some ⟨I, 0, none⟩), .int .i64 op, .pointer (some ⟨B, 0, none⟩), .pointer (some ⟨I, 2, none⟩), .int .i64 (b : Int), .pointer (some ⟨B, 0, none⟩), .pointer (some ⟨B, 0, none⟩), .pointer (some ⟨B, 8, none⟩), .pointer (some ⟨B, 8, none⟩), .pointer (some ⟨B, 8 + b, none⟩), .int .u64 (x.th.regs.getD b 0), .pointer (some ⟨B, 0, none⟩), .pointer (some ⟨I, 3, none⟩), .int .i64 (c : Int), .pointer (some ⟨B, 0, none⟩), .pointer (some ⟨B, 0, none⟩), .pointer (some ⟨B, 8, none⟩), .pointer (some ⟨B, 8, none⟩), .pointer (some ⟨B, 8 + c, none⟩), .int .u64 (x.th.regs.getD c 0), ud, ud, ud, ud, ud, ud, ud, undef], defers := [] }) (obs := [.load 3 I 0 (.int .i64 op), .load 3 I 2 (.int .i64 (b : Int)), .ia 37 (.pointer (some ⟨B, 8, none⟩)) (.int .i64 (b : Int)) (.pointer (some ⟨B, 8 + b, none⟩)), .load 22 B (8 + b) (.int .u64 (x.th.regs.getD b 0)), .load 3 I 3 (.int .i64 (c : Int)), .ia 37 (.pointer (some ⟨B, 8, none⟩)) (.int .i64 (c : Int)) (.pointer (some ⟨B, 8 + c, none⟩)), .load 22 B (8 + c) (.int .u64 (x.th.regs.getD c 0))]) (n := 6) (by kernel_rfl) (by kernel_rfl) ⟨qgz (fun W hS => hS.2.1) c0 ga3, qgz (fun W hS => hS.2.1) c2 ga3, fun W hS => qFz hb16 W, qgz (fun W hS => hS.1) hr ga2, qgz (fun W hS => hS.2.1) c3 ga3, fun W hS => qFz hc16 W, qgz (fun W hS => hS.1) hrc ga2, trivial⟩ ?_
 refine qjz (i := 20) (n := 5) rfl (by kernel_rfl) ?_
 refine qpz (f := 106) (vs := [.int .i64 op, .int .u64 (x.th.regs.getD b 0), .int .u64 (x.th.regs.getD c 0)]) (d := some 27) (by kernel_rfl) call106 (hdo _) ?_
 rintro e w01 ⟨rfl, rfl⟩
 refine ⟨_, rfl, hS0, ?_⟩
 refine qoz (by kernel_rfl) (fun _ _ _ _ _ h => h) hS0 [(21, none), (22, none), (23, none), (24, none), (25, none)] (l' := #[tt, tt, tt, tt, tt, tt, tt, tt, tt, tt, tt, tt, tt, tt, tt, tt, tt, tt, tt, tt, tt, tt, tt, tt, tt, tt]) (a' := { tmps := #[.pointer (some ⟨B, 0, none⟩), .agg CI, undef, .pointer (some ⟨I, 0, none⟩), .int .u64 V, .bool (Al.okB op), .tuple #[.int .u64 V, .bool (Al.okB op)], .pointer (some ⟨I, 0, none⟩), .int .i64 op, .pointer (some ⟨B, 0, none⟩), .pointer (some ⟨I, 2, none⟩), .int .i64 (b : Int), .pointer (some ⟨B, 0, none⟩), .pointer (some ⟨B, 0, none⟩), .pointer (some ⟨B, 8, none⟩), .pointer (some ⟨B, 8, none⟩), .pointer (some ⟨B, 8 + b, none⟩), .int .u64 (x.th.regs.getD b 0), .pointer (some ⟨B, 0, none⟩), .pointer (some ⟨I, 3, none⟩), .int .i64 (c : Int), .pointer (some ⟨B, 0, none⟩), .pointer (some ⟨B, 0, none⟩), .pointer (some ⟨B, 8, none⟩), .pointer (some ⟨B, 8, none⟩), .pointer (some ⟨B, 8 + c, none⟩), .int .u64 (x.th.regs.getD c 0), .tuple #[.int .u64 V, .bool (Al.okB op)], .int .u64 V, .bool (Al.okB op), ud, ud, ud, ud, undef], defers := [] }) (obs := []) (n := 0) (by kernel_rfl) (by kernel_rfl) trivial ?_
 refine wpAnyH_done (by kernel_rfl) ?_ _
 go_wp2_with (first
  | go_skip
  | (with_reducible refine qaz (by kernel_rfl) _ _ rfl I _ rfl _ _ hS0.2.1 _ c1 (by assumption) ?_)
  | (go_at_call 67; (with_reducible refine (ytz (h.next hS0.2.2) ha16).mono ?_); rintro e w3 ⟨rfl, F3, hP3, q3⟩))
 go_end0
 refine ⟨rfl, F3, ?_, (Ot.of hS0.2.2 hBl).trans q3⟩
 rw [← hV.out] at hP3
 exact hP3
theorem call_v (h : Pz Z w B F x t ke ro ao n cap X) (ha16 : a < 16) : Calls prog 73 #[.pointer (some ⟨B, 0, none⟩), .agg #[.int .i64 op, .int .i64 (a : Int), .int .i64 (b : Int), .int .i64 (c : Int), .int .i32 i]] w fun e w' => e = .returned (.tuple #[]) ∧ ∃ F', Pz Z w' B F' { x with th := { x.th with regs := x.th.regs.set a (nxI x.th), pc := frI x.th i } } t ke ro ao n cap X ∧ Ot B w w' := by
 have hmx : prog.follows .mixedOrders = true := by kernel_rfl
 have ga2 := isAgg22
 have hb := h.blk
 have hB := hb
 have hz := h.size
 have hBl := h.blk.lt
 have hp : F[24]? = some (.int .u64 x.th.pc) := h.pc
 have hk := Below.refl w.heap.size w
 have ga3 := isAgg3
 have ga4 := isAgg21
 obtain ⟨CI, hCI⟩ : ∃ CI : Array Value, CI = #[.int .i64 op, .int .i64 (a : Int), .int .i64 (b : Int), .int .i64 (c : Int), .int .i32 i] := ⟨_, rfl⟩
 have c1 : CI[1]? = some (.int .i64 (a : Int)) := by rw [hCI]; rfl
 have c4 : CI[4]? = some (.int .i32 i) := by rw [hCI]; rfl
 rw [← hCI]
 clear hCI
 have had : ∀ (W : World) (p q : Operand), (do eqGuard .add 22 p q (.int .u64 x.th.pc) (.int .u64 1); binOp .add 22 (.int .u64 x.th.pc) (.int .u64 1)).run prog W = .ok (.int .u64 (nxI x.th)) W := fun W p q => by
  have := IntKind.wrap_u64 (x.th.pc + 1)
  unfold nxI
  go_simp
 go_enter func73, ntmps73
 go_wp2_with (first
  | go_skip
  | (with_reducible refine qdz rfl 68 _ rfl CI rfl ?_; intro I W1 hN1 hI hk1; replace hb := hb.next hk1; replace hk := btz hk hk1)
  | (with_reducible refine qaz (by kernel_rfl) _ _ rfl B _ rfl _ _ hb _ hp (by assumption) ?_)
  | (with_reducible refine qaz (by kernel_rfl) _ _ rfl I _ rfl _ _ hI _ c4 (by assumption) ?_)
  | (with_reducible refine ypz (by kernel_rfl) _ _ _ _ _ rfl _ _ rfl rfl (had _ _ _) ?_)
  | (go_at_call 71; (with_reducible refine (j6z (h.next hk)).mono ?_); rintro e w3 ⟨rfl, F3, hP3, q3⟩; have hI3 := hI.keepO q3 hN1 hBl))
 replace hB := hP3.blk
 replace hI := hI3
 have hkz := Below.refl w3.heap.size w3
 refine wrz (S := fun W => Blk W B F3 59 ∧ Blk W I CI 68 ∧ Below w3.heap.size w3 W) 9 hmx (⟨hB.next (Below.refl _ _).drew, hI.next (Below.refl _ _).drew, hkz.trans ((Below.refl _ _).drew.mono hkz.size)⟩) (fun hS0 => ?_)
 generalize w3.drew = v0 at hS0 ⊢
 refine qPz (by kernel_rfl) (fun _ _ _ _ _ h => h) hS0 [(0, none, []), (1, none, []), (2, some (.int .i64 (a : Int)), []), (3, none, []), (4, none, [5, 6, 7, 8]), (5, none, [6, 7, 8]), (6, none, [7, 8]), (7, none, [8]), (8, some (.pointer (some ⟨B, 8 + a, none⟩)), [])] (l' := #[tt, tt, tt, tt, tt, tt, tt, tt, tt, ff]) (a' := { tmps := #[.pointer (some ⟨B, 0, none⟩), .agg CI, undef, .pointer (some ⟨I, 0, none⟩), .int .u64 (nxI x.th), .pointer (some ⟨B, 0, none⟩), .pointer (some ⟨B, 0, none⟩), .pointer (some ⟨B, 0, none⟩), .pointer (some ⟨B, 8, none⟩), .pointer (some ⟨B, 24, none⟩), .int .u64 x.th.pc, .int .u64 (nxI x.th), .pointer (some ⟨B, 0, none⟩), .pointer (some ⟨I, 4, none⟩), .int .i32 i, .tuple #[], .pointer (some ⟨B, 0, none⟩), .pointer (some ⟨I, 1, none⟩), .int .i64 (a : Int), .int .u64 (nxI x.th), .pointer (some ⟨B, 0, none⟩), .pointer (some ⟨B, 0, none⟩), .pointer (some ⟨B, 8, none⟩), .pointer (some ⟨B, 8, none⟩), .pointer (some ⟨B, 8 + a, none⟩)], defers := [] }) (obs := [.load 3 I 1 (.int .i64 (a : Int)), .ia 37 (.pointer (some ⟨B, 8, none⟩)) (.int .i64 (a : Int)) (.pointer (some ⟨B, 8 + a, none⟩))]) (n := 1) (by kernel_rfl) (by kernel_rfl) ⟨qgz (fun W hS => hS.2.1) c1 ga3, fun W hS => qFz ha16 W, trivial⟩ ?_
 obtain ⟨W9, hr9, hb9, o9⟩ := qHz (ty := 22) (j := 8 + a) (v := .int .u64 (nxI x.th)) hS0.1 rfl (by kernel_rfl) (by rw [hP3.size]; omega) rfl
 refine qtz (i := 9) (n := 0) rfl (by kernel_rfl) ?_
 refine qAz (ty := 22) (B := B) (off := 8 + a) (v := .int .u64 (nxI x.th)) (d := none) (by kernel_rfl) hr9 ?_
 refine ⟨(fun q => absurd rfl q), ?_⟩
 refine q1z (by kernel_rfl) ?_ _
 go_wp2
 go_end0
 have hP := (hP3.next hS0.2.2).put (j := a) (by omega) (by rfl) ((hP3.next hS0.2.2).ob.th.setreg ha16 (nxI x.th)) hb9 o9
 exact ⟨rfl, _, hP, ((Ot.of hk hBl).trans q3).trans ((Ot.of hS0.2.2 hP3.blk.lt).trans (Ot.set o9))⟩
end
section
open Go.RowKit Go.Shelf
def Wrd (v : Int) : Prop := 0 ≤ v ∧ v < 18446744073709551616
theorem wnz : Wrd 0 := ⟨by decide, by decide⟩
structure WdH (t : Th) : Prop where
 reg : ∀ k, Wrd (t.regs.getD k 0)
 pc : Wrd t.pc
 hnd : Wrd t.handler
 vec : Wrd t.vector
 alr : ∀ k, Wrd (t.alerts.getD k 0)
structure WdC (x : Ob) : Prop where
 dat : ∀ k, Wrd (x.data.getD k 0)
 th : WdH x.th
theorem y0z (v : Int) : Wrd (v % 18446744073709551616) := ⟨by omega, by omega⟩
theorem kXz {l : List Int} (h : ∀ k, Wrd (l.getD k 0)) (i : Nat) {v : Int} (hv : Wrd v) (k : Nat) : Wrd ((l.set i v).getD k 0) := by
 rw [List.getD_eq_getElem?_getD, List.getElem?_set]
 split
 ·split
  ·exact hv
  ·exact wnz
 ·have := h k
  rwa [List.getD_eq_getElem?_getD] at this
theorem wd_drop {l : List Int} (h : ∀ k, Wrd (l.getD k 0)) (k : Nat) : Wrd ((l.drop 1).getD k 0) := by
 have := h (1 + k)
 rw [List.getD_eq_getElem?_getD] at this ⊢
 rwa [List.getElem?_drop]
theorem WdH.zero : WdH zTh := ⟨fun k => by
  have e : zTh.regs = List.replicate 16 0 := rfl
  rw [e, List.getD_eq_getElem?_getD, List.getElem?_replicate]
  split <;> exact wnz, wnz, wnz, wnz, fun k => wnz⟩
theorem WdC.zero : WdC zOb := ⟨fun k => wnz, WdH.zero⟩
theorem fO_wd {X : List Ob} (h : ∀ x ∈ X, WdC x) (i : Int) : WdC (fO X i) := by
 cases hi : (fnd X i).isSome with
 | true => exact h _ (kIz hi).1
 | false =>
  have e : fO X i = zOb := by unfold fO; cases h4 : fnd X i with | none => rfl | some _ => rw [h4] at hi; cases hi
  rw [e]; exact WdC.zero
theorem ld_wd {X : List Ob} (h : ∀ x ∈ X, WdC x) (x : Ob) (a : Int) : Wrd (ldV X x a) := by
 unfold ldV
 split
 ·have := fO_wd h (mpM X x a).seg
  unfold gtV wkO
  repeat' split
  all_goals first | exact wnz | exact this.dat _ | skip
 ·exact wnz
variable {t : Th}
theorem WdH.tw (h : WdH t) : WdT t := ⟨h.reg, h.pc⟩
theorem wd_nx (t : Th) : Wrd (nxI t) := y0z _
theorem wd_fr (t : Th) (i : Int) : Wrd (frI t i) := y0z _
theorem WdH.se (h : WdH t) (a : Int) {v : Int} (hv : Wrd v) : WdH (seI t a v) := ⟨fun k => kXz h.reg _ hv k, wd_nx t, h.hnd, h.vec, h.alr⟩
theorem WdH.pcs (h : WdH t) {v : Int} (hv : Wrd v) : WdH { t with pc := v } := ⟨h.reg, hv, h.hnd, h.vec, h.alr⟩
theorem WdH.fl (h : WdH t) {k : Int} (hk : Wrd k) : WdH (flT t k) := by
 unfold flT
 split
 ·exact ⟨h.reg, h.pc, h.hnd, h.vec, h.alr⟩
 ·exact ⟨fun j => by unfold dvT; exact kXz (kXz h.reg 14 h.pc) 15 hk j, by unfold dvT; exact h.hnd, wnz, by unfold dvT; exact h.vec, by unfold dvT; exact h.alr⟩
theorem WdH.al (h : WdH t) : WdH (alT t) := by
 unfold alT
 split
 ·exact ⟨fun j => by unfold dvT; exact kXz (kXz h.reg 14 h.pc) 15 (h.alr 0) j, by unfold dvT; exact h.vec, by unfold dvT; exact h.hnd, wnz, fun j => wd_drop h.alr j⟩
 ·exact h
theorem wd_do (op : Int) {b c : Int} (hb : Wrd b) (hc : Wrd c) : Wrd (doI op b c) := by
 have := Al.do_lt op (b := b.toNat) (c := c.toNat) (by have := hb.1; have := hb.2; unfold Al.W; omega) (by have := hc.1; have := hc.2; unfold Al.W; omega)
 unfold doI
 unfold Al.W at this
 exact ⟨by omega, by omega⟩
theorem WdH.rg (h : WdH t) (k : Int) : Wrd (rgI t k) := h.reg _
theorem WdH.pl (h : WdH t) (op a b c i : Int) : WdH (plT op a b c i t) := by
 unfold plT
 repeat' split
 all_goals first
  | exact ⟨h.reg, h.pc, h.hnd, h.vec, h.alr⟩
  | exact h.se _ (y0z _)
  | (refine h.se _ ?_; have := Al.movh_lt (rgI t a).toNat i; unfold Al.W at this; exact ⟨by omega, by omega⟩)
  | exact h.se _ (h.rg _)
  | exact h.pcs (wd_fr _ _)
  | exact h.pcs (wd_nx _)
  | exact h.pcs (h.rg _)
  | exact h.se _ (wd_do _ (h.rg _) (h.rg _))
  | exact ⟨fun k => kXz h.reg _ (wd_nx t) k, wd_fr t i, h.hnd, h.vec, h.alr⟩
  | (refine h.pcs ?_; split <;> first | exact wd_fr _ _ | exact wd_nx _)
end
section
open Go.ChangeShapes Go.WideShapes Go.ChangeAt Go.RowKit
section
variable {H : Type} {enc : TypeId × Value → H} {w : World} {m : Nat} {y : DataW H × List MemPlace}
theorem ct_wf {D : Nat → Prop} {ao : Option Addr} {n cap : Nat} {d : DataW H} {ps : List MemPlace} {L : List Int} (hC : CtD D w ao n cap L) (h : DataW.Trod enc prog w 0 (fun _ => true) true 35 (.slice ao n cap) d ps) (k : Nat) : Wrd (L.getD k 0) := by
 obtain ⟨hl, hnc, _, hr⟩ := hC
 by_cases hk : k < n
 ·obtain ⟨fuel, hf⟩ := h
  have c1 : prog.cellsOf 22 = 1 := by kernel_rfl
  rcases Go.Deep.open_slice underlying35 hf with ⟨e, _⟩ | ⟨a, len, cap', m, n', D, Pl, e, hb, hl', hm, hmm, hdd, hx⟩
  ·simp [Value.cells] at e
   obtain ⟨_, rfl, _⟩ := e
   omega
  ·simp [Value.cells] at e
   obtain ⟨rfl, rfl, rfl⟩ := e
   have hmc : m = cap := by rw [hmm]; rfl
   obtain ⟨cs, h1, h2⟩ := hx k (by omega)
   rw [c1, Nat.mul_one] at h1
   obtain ⟨_, hlen, hcell⟩ := World.cells?_some h1
   obtain ⟨x0, rfl⟩ : ∃ x0, cs = [x0] := by
    match cs, hlen with
    | [x0], _ => exact ⟨x0, rfl⟩
   obtain ⟨z, e, _, hw⟩ := DataW.trod_int underlying22 h2
   simp at e
   have hc0 := hcell 0 (by omega)
   rw [show (a.add k).add 0 = a.add k by simp [Addr.add]] at hc0
   obtain ⟨b, off, ea, _, hcc⟩ := hr (by omega)
   simp at ea
   subst ea
   have hc2 := hcc k hk
   have hc3 : some (Value.int .u64 (L.getD k 0)) = some x0 := hc2.symm.trans (by
    have z0 := hcc 0 (by omega)
    rw [Nat.add_zero] at z0
    obtain ⟨_, hadd⟩ := PgM.spotK z0
    have h9 : w.cell? ((⟨b, off, none⟩ : Addr).add k) = some x0 := hc0
    rw [hadd] at h9
    exact h9)
   rw [e] at hc3
   injection hc3 with h5
   injection h5 with _ h6
   rw [h6]
   exact knz hw
 ·rw [List.getD_eq_getElem?_getD, List.getElem?_eq_none (by omega)]
  exact wnz
theorem ctv_wf {D : Nat → Prop} {cs : List Value} {o : Nat} {L : List Int} (ho : o < cs.length) (hC : CtV D w cs[o]? L) (h : DataW.trod enc prog w 0 (fun _ => true) true m 35 ((cs.drop o).take (prog.cellsOf 35)) = some y) (k : Nat) : Wrd (L.getD k 0) := by
 obtain ⟨a, n, c, e, hT⟩ := kHz ho (by kernel_rfl) underlying35 h
 obtain ⟨a2, n2, c2, e2, hL⟩ := hC
 rw [e] at e2
 simp at e2
 obtain ⟨rfl, rfl, rfl⟩ := e2
 exact ct_wf hL hT k
theorem regs_wf {cs : List Value} {l : List Int} (h : DataW.trod enc prog w 0 (fun _ => true) true m 37 cs = some y) (hl16 : l.length = 16) (hr : ∀ i, i < 16 → cs[i]? = some (.int .u64 (l.getD i 0))) (k : Nat) : Wrd (l.getD k 0) := by
 obtain ⟨xs, m', _, _, hl, hx, hg⟩ := DataW.trod_array underlying37 h
 rw [show prog.cellsOf 37 = 16 from by kernel_rfl] at hl
 by_cases hk : k < 16
 ·have q := hg k hk
  rw [List.getElem?_eq_getElem (by omega), show prog.cellsOf 22 = 1 from by kernel_rfl, Nat.mul_one] at q
  obtain ⟨n, e, hw⟩ := jcz (t := 22) (o := k) (by rw [hl]; omega) (by kernel_rfl) underlying22 (by rw [show prog.cellsOf 22 = 1 from by kernel_rfl]; exact q)
  have q2 := hr k hk
  rw [e] at q2
  injection q2 with h5
  injection h5 with _ h6
  rw [← h6]
  exact knz hw
 ·rw [List.getD_eq_getElem?_getD, List.getElem?_eq_none (by omega)]
  exact wnz
theorem uZz {cs : List Value} {o : Nat} {v : Int} (ho : o < cs.length) (h : DataW.trod enc prog w 0 (fun _ => true) true m 22 ((cs.drop o).take (prog.cellsOf 22)) = some y) (e : cs[o]? = some (.int .u64 v)) : Wrd v := by
 obtain ⟨n, e2, hw⟩ := jcz ho (by kernel_rfl) underlying22 h
 rw [e] at e2
 simp at e2
 rw [e2]
 exact knz hw
theorem jLz {cs : List Value} {x : Ob} {D : Nat → Prop} (h : DataW.trod enc prog w 0 (fun _ => true) true m 50 cs = some y) (hx : ObD D w cs.toArray x) : WdC x := by
 obtain ⟨xs, m', _, _, hl, hxs, hg⟩ := DataW.trod_struct underlying50 h
 rw [show prog.cellsOf 50 = 51 from by kernel_rfl] at hl
 obtain ⟨y0, y1, y2, y3, y4, y5, y6, y7, y8, y9, y10, y11, rfl⟩ : ∃ y0 y1 y2 y3 y4 y5 y6 y7 y8 y9 y10 y11, xs = [y0, y1, y2, y3, y4, y5, y6, y7, y8, y9, y10, y11] := by
  match xs, hxs with
  | [y0, y1, y2, y3, y4, y5, y6, y7, y8, y9, y10, y11], _ => exact ⟨y0, y1, y2, y3, y4, y5, y6, y7, y8, y9, y10, y11, rfl⟩
 have t6 : DataW.trod enc prog w 0 (fun _ => true) true m' 35 ((cs.drop 6).take (prog.cellsOf 35)) = some y6 := hg 6 _ rfl
 have t8 : DataW.trod enc prog w 0 (fun _ => true) true m' 46 ((cs.drop 8).take (prog.cellsOf 46)) = some y8 := hg 8 _ rfl
 rw [show prog.cellsOf 46 = 35 from by kernel_rfl] at t8
 have hd : CtV D w cs[6]? x.data := by simpa using hx.data
 have hth : ThF D w (fun i => ((cs.drop 8).take 35)[i]?) x.th := hx.th.congr fun i hi => by simp [List.getElem?_drop, hi]
 have hl35 : ((cs.drop 8).take 35).length = 35 := by simp [hl]
 generalize (cs.drop 8).take 35 = ts at t8 hth hl35
 obtain ⟨zs, m2, _, _, hl2, hzs, hg2⟩ := DataW.trod_struct underlying46 t8
 obtain ⟨z0, z1, z2, z3, z4, z5, z6, z7, z8, z9, z10, rfl⟩ : ∃ z0 z1 z2 z3 z4 z5 z6 z7 z8 z9 z10, zs = [z0, z1, z2, z3, z4, z5, z6, z7, z8, z9, z10] := by
  match zs, hzs with
  | [z0, z1, z2, z3, z4, z5, z6, z7, z8, z9, z10], _ => exact ⟨z0, z1, z2, z3, z4, z5, z6, z7, z8, z9, z10, rfl⟩
 have u0 : DataW.trod enc prog w 0 (fun _ => true) true m2 37 ((ts.drop 0).take (prog.cellsOf 37)) = some z0 := hg2 0 _ rfl
 rw [show prog.cellsOf 37 = 16 from by kernel_rfl] at u0
 have u1 : DataW.trod enc prog w 0 (fun _ => true) true m2 22 ((ts.drop 16).take (prog.cellsOf 22)) = some z1 := hg2 1 _ rfl
 have u4 : DataW.trod enc prog w 0 (fun _ => true) true m2 22 ((ts.drop 20).take (prog.cellsOf 22)) = some z4 := hg2 4 _ rfl
 have u5 : DataW.trod enc prog w 0 (fun _ => true) true m2 22 ((ts.drop 21).take (prog.cellsOf 22)) = some z5 := hg2 5 _ rfl
 have u8 : DataW.trod enc prog w 0 (fun _ => true) true m2 35 ((ts.drop 28).take (prog.cellsOf 35)) = some z8 := hg2 8 _ rfl
 exact ⟨ctv_wf (by omega) hd t6, ⟨regs_wf u0 hth.rlen (fun i hi => by have := hth.regs i hi; simpa [List.getElem?_take, hi] using this), uZz (by omega) u1 hth.pc, uZz (by omega) u4 hth.handler, uZz (by omega) u5 hth.vector, ctv_wf (by omega) hth.alerts u8⟩⟩
theorem j2z {ao : Option Addr} {n cap : Nat} {d : DataW H} {ps : List MemPlace} (h : DataW.Trod enc prog w 0 (fun _ => true) true 23 (.slice ao n cap) d ps) : ∃ l, Obs w ao n cap l ∧ ∀ x ∈ l, WdO x ∧ WdC x := by
 obtain ⟨fuel, hf⟩ := h
 have c51 : prog.cellsOf 50 = 51 := by kernel_rfl
 rcases Go.Deep.open_slice underlying23 hf with ⟨e, _⟩ | ⟨a, len, cap', m, n', D, Pl, e, hb, hl, hm, hmm, hdd, hx⟩
 ·simp [Value.cells] at e
  obtain ⟨rfl, rfl, rfl⟩ := e
  exact ⟨[], ObsD.nil _ _ _, fun x hx => absurd hx (by simp)⟩
 ·simp [Value.cells] at e
  obtain ⟨rfl, rfl, rfl⟩ := e
  have hmc : m = cap := by rw [hmm]; rfl
  have key : ∀ i, ∃ (x : Ob) (C : Array Value), i < n → (ObD (LtN w) w C x ∧ WdO x ∧ WdC x) ∧ ∀ j v, C[j]? = some v → w.cell? ((a.add (i * 51)).add j) = some v := by
   intro i
   by_cases hi : i < n
   ·obtain ⟨cs, h1, h2⟩ := hx i (by omega)
    rw [c51] at h1
    obtain ⟨_, hlen, hcell⟩ := World.cells?_some h1
    obtain ⟨x, hxx⟩ := vCz h2
    refine ⟨x, cs.toArray, fun _ => ⟨⟨hxx, vkz h2 hxx, jLz h2 hxx⟩, fun j v hv => ?_⟩⟩
    have hv' : cs[j]? = some v := by simpa using hv
    have hj : j < 51 := by rw [← hlen]; exact (List.getElem?_eq_some_iff.1 hv').1
    rw [hcell j hj, hv']
   ·exact ⟨zOb, #[], fun h => absurd h hi⟩
  have hkey : ∀ i, i < n → ∃ C, (ObD (LtN w) w C (Classical.choose (key i)) ∧ WdO (Classical.choose (key i)) ∧ WdC (Classical.choose (key i))) ∧ ∀ j v, C[j]? = some v → w.cell? ((a.add (i * 51)).add j) = some v := fun i hi => by
   obtain ⟨C, hC⟩ := Classical.choose_spec (key i)
   exact ⟨C, hC hi⟩
  refine ⟨(List.range n).map fun i => Classical.choose (key i), ⟨by simp, hl, ⟨by unfold maxLen at hm; omega, fun e => by cases e⟩, fun hn => ?_⟩, fun x hx => ?_⟩
  ·obtain ⟨v0, z⟩ : ∃ v0, w.cell? ((a.add (0 * 51)).add 0) = some v0 := by
    obtain ⟨C, hC, hr⟩ := hkey 0 hn
    exact ⟨_, hr 0 _ hC.1.id⟩
   have ha0 : (a.add (0 * 51)).add 0 = a := by simp [Addr.add]
   rw [ha0] at z
   obtain ⟨hea, hadd⟩ := PgM.spotK z
   refine ⟨a.block, a.off, by rw [← hea], World.block_lt_of_cell? w _ z, fun i hi => ?_⟩
   have hg : oat ((List.range n).map fun i => Classical.choose (key i)) i = Classical.choose (key i) := by
    unfold oat; rw [List.getD_eq_getElem?_getD, List.getElem?_eq_getElem (by simpa using hi)]; simp
   obtain ⟨C, hC, hr⟩ := hkey i hi
   refine ⟨C, by rw [hg]; exact hC.1, fun j v hv => ?_⟩
   have q := hr j v (by simpa using hv)
   rw [hadd, Addr.add_mid] at q
   exact q
  ·obtain ⟨i, hi, rfl⟩ := List.mem_map.1 hx
   obtain ⟨C, hC, _⟩ := hkey i (List.mem_range.1 hi)
   exact hC.2
theorem kQz {base : Nat} {v : Value} {d : DataW H} {ps : List MemPlace} (hv : Value.okWide prog w .any base 25 v)
  (h : DataW.Trod enc prog w 0 (fun _ => true) true 25 v d ps) : ∃ (t : Int) (ke : Nat) (ro : Int) (ao : Option Addr) (n cap : Nat) (X : List Ob), v = .agg #[.int .i64 t, .int .u64 (ke : Int), .int .u64 ro, .slice ao n cap] ∧ (Obs w ao n cap X ∧ ∀ x ∈ X, WdO x ∧ WdC x) := by
 unfold Value.okWide at hv
 rw [underlying25] at hv
 obtain ⟨cs, rfl, hs, _⟩ := hv
 rw [show prog.cellsOf 25 = 4 from by kernel_rfl] at hs
 obtain ⟨fuel, hf⟩ := h
 obtain ⟨x0, x1, x2, x3, rfl⟩ : ∃ x0 x1 x2 x3, cs = #[x0, x1, x2, x3] := by
  match cs, hs with
  | ⟨[x0, x1, x2, x3]⟩, _ => exact ⟨x0, x1, x2, x3, rfl⟩
 have hf' : DataW.trod enc prog w 0 (fun _ => true) true fuel 25 [x0, x1, x2, x3] = some (d, ps) := hf
 obtain ⟨xs, m', _, _, hl, hx, hg⟩ := DataW.trod_struct underlying25 hf'
 obtain ⟨y0, y1, y2, y3, rfl⟩ : ∃ y0 y1 y2 y3, xs = [y0, y1, y2, y3] := by
  match xs, hx with
  | [y0, y1, y2, y3], _ => exact ⟨y0, y1, y2, y3, rfl⟩
 obtain ⟨t, et⟩ := xaz (t := 3) (o := 0) (y := y0) (by simp) (by kernel_rfl) underlying3 (hg 0 _ rfl)
 obtain ⟨ke, eke, wke⟩ := jcz (t := 22) (o := 1) (y := y1) (by simp) (by kernel_rfl) underlying22 (hg 1 _ rfl)
 obtain ⟨ro, ero⟩ := xaz (t := 22) (o := 2) (y := y2) (by simp) (by kernel_rfl) underlying22 (hg 2 _ rfl)
 obtain ⟨ao, n, cap, ea, hT⟩ := kHz (t := 23) (o := 3) (y := y3) (by simp) (by kernel_rfl) underlying23 (hg 3 _ rfl)
 obtain ⟨X, hX, hW⟩ := j2z hT
 have hk := knz wke
 obtain ⟨kn, rfl⟩ : ∃ kn : Nat, ke = kn := ⟨ke.toNat, by omega⟩
 simp at et eke ero ea
 subst et eke ero ea
 exact ⟨t, kn, ro, ao, n, cap, X, rfl, hX, hW⟩
end
end
end Go.Proofs.YtdeddhojjolihaaGreat
