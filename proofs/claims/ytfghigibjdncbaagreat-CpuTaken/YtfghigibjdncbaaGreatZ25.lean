/-
 PROVED HERE: a drawn region's operations taken in symbols, nil checks and extracts, too (no Go text); what cpu.Alert return. What is asked stands at each.
-/
import Derived.Test.YtfghigibjdncbaaGreatZ10
import Derived.Test.YtfghigibjdncbaaGreatZ16
import Derived.Test.YtfghigibjdncbaaGreatZ24
namespace Go.Proofs.YtfghigibjdncbaaGreat
set_option maxRecDepth 100000
set_option maxHeartbeats 8000000
open Go.ChangeShapes Go.WideShapes Go.ChangeAt Go.RowKit

def symn (P : Program) (ops : Array Oper) (g : Option Value) (o : Oper) (a : Act) : Option (Value × List Obl) :=
 if Region.wanted o (yielded ops a.tmps) then
  match o.op with
  | .nilCheck x =>
   match a.eval x with
   | .pointer (some p) => some (.pointer (some p), [])
   | _ => none
  | .extract x i =>
   match a.eval x with
   | .tuple vs => (vs[i]?).map fun v => (v, [])
   | _ => none
  | _ => symw P g o a
 else some (undef, [])
def symN (P : Program) (md : Region.Mode) (ops : Array Oper) : List (Nat × Option Value) → Array Bool → Act → Option (Array Bool × Act × List Obl)
 | [], l, a => some (l, a, [])
 | (i, g) :: gs, l, a =>
  match ops[i]? with
  | none => none
  | some o =>
   if (Region.free md ops l i && (Region.ready md ops l).contains i) = true then
    match symn P ops g o a with
    | none => none
    | some (v, obs) =>
     match symN P md ops gs (l.setIfInBounds i true) (a.put o.dst v) with
     | none => none
     | some (l', a', obs') => some (l', a', obs ++ obs')
   else none
section
variable {P : Program} {ops : Array Oper} {Q : Exit → Act → World → Prop} {w : World} {md : Region.Mode} {S : World → Prop}
theorem symn_yields {g : Option Value} {o : Oper} {a : Act} {v : Value} {obs : List Obl} (h : symn P ops g o a = some (v, obs)) (k : Obls P S obs) : YieldsIf P ops S o v a := by
 unfold symn at h
 split at h
 ·rename_i hw
  refine .inl ⟨hw, fun w hS => ?_⟩
  split at h
  ·rename_i x ho
   split at h
   ·rename_i p hx
    cases h
    unfold execOp
    simp [ho, hx]
   ·cases h
  ·rename_i x i ho
   split at h
   ·rename_i vs hx
    cases hv : vs[i]? with
    | none => rw [hv] at h; cases h
    | some u =>
     rw [hv] at h
     cases h
     unfold execOp
     simp [ho, hx, hv, Instr.extract]
   ·cases h
  ·exact symw_run h k hS
 ·rename_i hw; cases h; exact .inr ⟨by simpa using hw, rfl⟩
theorem wpAnyH_symN (hs : Region.noSelect ops = true) (hQ : ∀ c a d v w, Q (.panic c) (Act.put a (some d) v) w → Q (.panic c) a w) (hS : S w) : ∀ (gs : List (Nat × Option Value)) {l l' : Array Bool} {a a' : Act} {obs : List Obl} {n m : Nat}, m = n + gs.length → symN P md ops gs l a = some (l', a', obs) → Obls P S obs → wpAnyH P md ops Q S n l' a' w → wpAnyH P md ops Q S m l a w
 | [], l, l', a, a', obs, n, m, hm, h, k, q => by cases h; subst hm; exact q
 | (i, g) :: gs, l, l', a, a', obs, n, m, hm, h, k, q => by
  subst hm
  unfold symN at h
  split at h
  ·cases h
  ·rename_i o ho
   split at h
   ·rename_i hf
    rw [Bool.and_eq_true] at hf
    split at h
    ·cases h
    ·rename_i v obs1 hv
     split at h
     ·cases h
     ·rename_i l2 a2 obs2 h2
      cases h
      obtain ⟨k1, k2⟩ := Obls.app k
      exact wpAnyH_take ho hs hf.1 hf.2 (fun c a w h => putQ hQ h) (symn_yields hv k1) hS (wpAnyH_symN hs hQ hS gs rfl h2 k2 q)
   ·cases h
end
def wpAnyK (P : Program) (md : Region.Mode) (ops : Array Oper) (Q : Exit → Act → World → Prop) (S : World → Prop) (z : Nat) : Nat → Array Bool → Act → World → Prop
 | 0, listed, a, w => Region.ready md ops listed = [] ∧ Q .normal a w
 | fuel + 1, listed, a, w =>
  (Region.ready md ops listed = [] → Q .normal a w) ∧
  ∀ i ∈ Region.ready md ops listed, wpOp P ops Q i (fun a' w' => (i ≠ z → S w') ∧ wpAnyK P md ops Q S z fuel (listed.setIfInBounds i true) a' w') a w
def chK (md : Region.Mode) (ops : Array Oper) : Nat → List Nat → Bool
 | _, [] => true
 | p, c :: r =>
  match ops[c]? with
  | none => false
  | some o => o.after.toList.any (fun e => Region.binds md e && e.on == p) && chK md ops c r
section
variable {P : Program} {ops : Array Oper} {Q : Exit → Act → World → Prop} {md : Region.Mode} {S : World → Prop} {z : Nat}
theorem wpAny_of_K : ∀ (fuel : Nat) (listed : Array Bool) (a : Act) (w : World), wpAnyK P md ops Q S z fuel listed a w → wpAny P md ops Q fuel listed a w
 | 0, _, _, _, h => h
 | fuel + 1, _, _, _, h => ⟨h.1, fun i hi => wpOp_mono (fun a' w' h' => wpAny_of_K fuel _ a' w' h'.2) (h.2 i hi)⟩
theorem chK_not {listed : Array Bool} {j : Nat} (hj : j ∈ Region.ready md ops listed) : ∀ (l : List Nat) (p : Nat), listed.getD p true = false → (∀ k ∈ l, listed.getD k true = false) → chK md ops p l = true → j ∉ l
 | [], _, _, _, _ => by simp
 | c :: r, p, hp, hu, hc => by
  unfold chK at hc
  split at hc
  ·cases hc
  ·rename_i o ho
   rw [Bool.and_eq_true, List.any_eq_true] at hc
   obtain ⟨⟨e, he, hb⟩, hr⟩ := hc
   rw [Bool.and_eq_true, beq_iff_eq] at hb
   intro hm
   rcases List.mem_cons.1 hm with rfl | hm
   ·obtain ⟨_, oj, hoj, hall⟩ := mem_ready.1 hj
    rw [ho] at hoj
    cases hoj
    have h1 := hall e (by simpa using he) hb.1
    rw [hb.2] at h1
    rcases Nat.lt_or_ge p listed.size with h' | h'
    ·simp [h'] at hp h1; rw [hp] at h1; cases h1
    ·simp [Array.getElem?_eq_none h'] at h1
   ·exact chK_not hj r c (hu c (List.mem_cons_self ..)) (fun k hk => hu k (List.mem_cons_of_mem _ hk)) hr hm
theorem wpAnyK_first {i : Nat} {oi : Oper} {v : Value} {ch : List Nat} (hi : ops[i]? = some oi) (hsel : ∀ (j : Nat) (o : Oper) cs b, ops[j]? = some o → o.op ≠ .select cs b)
  (hQ : ∀ c a w, Q (.panic c) (a.put oi.dst v) w → Q (.panic c) a w) (hch : chK md ops i ch = true) (hz : z ∈ ch) :
  ∀ (fuel : Nat) (listed : Array Bool) (a : Act) (w : World),
   (∀ j oj, ops[j]? = some oj → j ≠ i → listed.getD j true = false → (∀ e ∈ oj.after, Region.binds md e = true → e.on ≠ i) → oi.apart ops oj = true) →
   (∀ k ∈ ch, listed.getD k true = false) →
   i ∈ Region.ready md ops listed → YieldsIf P ops S oi v a → S w →
   wpAnyK P md ops Q S z fuel (listed.setIfInBounds i true) (a.put oi.dst v) w → wpAnyK P md ops Q S z (fuel + 1) listed a w := by
 intro fuel
 induction fuel with
 | zero =>
  intro listed a w _ _ hr hy hS H
  refine ⟨fun h => (by rw [h] at hr; cases hr), fun j hj => ?_⟩
  by_cases hji : j = i
  ·subst hji; exact hy.wpOp hi hS ⟨fun _ => hS, H⟩
  ·have := ready_mono hj hji
   rw [H.1] at this
   cases this
 | succ fuel ih =>
  intro listed a w hfree hun hr hy hS H
  refine ⟨fun h => (by rw [h] at hr; cases hr), fun j hj => ?_⟩
  by_cases hji : j = i
  ·subst hji; exact hy.wpOp hi hS ⟨fun _ => hS, H⟩
  ·have hjc : j ∉ ch := chK_not hj ch i (mem_ready.1 hr).1 hun hch
   have hjz : j ≠ z := fun e => hjc (e ▸ hz)
   have h1 := H.2 j (ready_mono hj hji)
   obtain ⟨hjun, oj, hoj, hall⟩ := mem_ready.1 hj
   have hnot : ∀ e ∈ oj.after, Region.binds md e = true → e.on ≠ i := fun e he hb heq => by
    have h1 := hall e he hb
    have h0 := (mem_ready.1 hr).1
    rw [heq] at h1
    rcases Nat.lt_or_ge i listed.size with h' | h'
    ·simp [h'] at h0 h1; rw [h0] at h1; cases h1
    ·simp [Array.getElem?_eq_none h'] at h1
   have h2 := wpOp_putIf hoj (hfree j oj hoj hji hjun hnot) (fun cs b => hsel i oi cs b hi) (fun cs b => hsel j oj cs b hoj) hQ hy h1
   have hset : ∀ k, (listed.setIfInBounds j true).getD k true = false → listed.getD k true = false := fun k hun => by
    by_cases hjk : j = k
    ·subst hjk; exact hjun
    ·rw [getD_set_ne true hjk] at hun; exact hun
   have hfree' : ∀ k ok, ops[k]? = some ok → k ≠ i → (listed.setIfInBounds j true).getD k true = false →
     (∀ e ∈ ok.after, Region.binds md e = true → e.on ≠ i) → oi.apart ops ok = true := fun k ok hk hki hun hno => hfree k ok hk hki (hset k hun) hno
   have hun' : ∀ k ∈ ch, (listed.setIfInBounds j true).getD k true = false := fun k hk => by
    have : j ≠ k := fun e => hjc (e ▸ hk)
    rw [getD_set_ne true this]
    exact hun k hk
   refine wpOp_mono (fun a' w' h3 => ⟨h3.2.1, ih (listed.setIfInBounds j true) a' w' hfree' hun' (ready_mono hr (Ne.symm hji)) h3.1 (h3.2.1 hjz) ?_⟩) h2
   rw [Array.setIfInBounds_comm _ _ hji]
   exact h3.2.2
def symK (P : Program) (md : Region.Mode) (ops : Array Oper) (z : Nat) : List (Nat × Option Value × List Nat) → Array Bool → Act → Option (Array Bool × Act × List Obl)
 | [], l, a => some (l, a, [])
 | (i, g, ch) :: gs, l, a =>
  match ops[i]? with
  | none => none
  | some o =>
   if (Region.free md ops l i && (Region.ready md ops l).contains i && chK md ops i (ch ++ [z]) && (ch ++ [z]).all fun k => !(l.getD k true)) = true then
    match symn P ops g o a with
    | none => none
    | some (v, obs) =>
     match symK P md ops z gs (l.setIfInBounds i true) (a.put o.dst v) with
     | none => none
     | some (l', a', obs') => some (l', a', obs ++ obs')
   else none
theorem wpAnyK_sym {w : World} (hs : Region.noSelect ops = true) (hQ : ∀ c a d v w, Q (.panic c) (Act.put a (some d) v) w → Q (.panic c) a w) (hS : S w) : ∀ (gs : List (Nat × Option Value × List Nat)) {l l' : Array Bool} {a a' : Act} {obs : List Obl} {n m : Nat}, m = n + gs.length → symK P md ops z gs l a = some (l', a', obs) → Obls P S obs → wpAnyK P md ops Q S z n l' a' w → wpAnyK P md ops Q S z m l a w
 | [], l, l', a, a', obs, n, m, hm, h, k, q => by cases h; subst hm; exact q
 | (i, g, ch) :: gs, l, l', a, a', obs, n, m, hm, h, k, q => by
  subst hm
  unfold symK at h
  split at h
  ·cases h
  ·rename_i o ho
   split at h
   ·rename_i hf
    rw [Bool.and_eq_true, Bool.and_eq_true, Bool.and_eq_true, List.all_eq_true] at hf
    split at h
    ·cases h
    ·rename_i v obs1 hv
     split at h
     ·cases h
     ·rename_i l2 a2 obs2 h2
      cases h
      obtain ⟨k1, k2⟩ := Obls.app k
      exact wpAnyK_first ho (Region.noSelect_spec hs) (fun c a w h => putQ hQ h) hf.1.2 (by simp) _ l a w (Region.free_spec ho hf.1.1.1) (fun k hk => by simpa using hf.2 k hk) (by simpa using hf.1.1.2) (symn_yields hv k1) hS (wpAnyK_sym hs hQ hS gs rfl h2 k2 q)
   ·cases h
theorem wpAnyK_done {listed : Array Bool} {a : Act} {w : World} (hr : Region.ready md ops listed = []) (h : Q .normal a w) :
  ∀ fuel, wpAnyK P md ops Q S z fuel listed a w
 | 0 => ⟨hr, h⟩
 | _ + 1 => ⟨fun _ => h, by rw [hr]; simp⟩
theorem wpAnyK_single {w : World} {l : Array Bool} {a : Act} {i n m : Nat} (hm : m = n + 1) (hr : Region.ready md ops l = [i]) (h : wpOp P ops Q i (fun a' w' => (i ≠ z → S w') ∧ wpAnyK P md ops Q S z n (l.setIfInBounds i true) a' w') a w) : wpAnyK P md ops Q S z m l a w := by
 subst hm
 refine ⟨fun h0 => (by rw [hr] at h0; cases h0), fun k hk => ?_⟩
 rw [hr] at hk
 obtain rfl : k = i := by simpa using hk
 exact h
theorem region_K {id : Nat} {a : Act} {w : World} (z : Nat) (hm : P.follows .mixedOrders = true)
  (hS : S w.drew) (h : S w.drew → wpAnyK P .any ops Q S z ops.size (Array.replicate ops.size false) a w.drew) : (Code.region id ops true).wp P Q a w :=
 wp_region_any hm (wpAny_of_K _ _ _ _ (h hS))
end
end Go.Proofs.YtfghigibjdncbaaGreat
namespace Go.Proofs.YtfghigibjdncbaaGreat
set_option maxRecDepth 100000
set_option maxHeartbeats 8000000
open Go.RowKit Go.Shelf
set_option linter.unusedVariables false
attribute [local go_sem] Oper.semAt_some

theorem sliceW_one {D : Nat → Prop} {w : World} {ao : Option Addr} {n cap : Nat} {l : List Int} (h : CtD D w ao n cap l) (hk : 1 ≤ n) : ∃ a', CtD D w a' (n - 1) (cap - 1) (l.drop 1) ∧ (∀ W, (Instr.sliceAt 35 (.slice ao n cap) (some (.int .i64 1)) none none).run Tryz.prog W = .ok (.slice a' (n - 1) (cap - 1)) W) := by
 obtain ⟨h1, h2, h3, h4⟩ := h
 obtain ⟨b, off, rfl, hb, hx⟩ := h4 (by omega)
 by_cases hc : cap = 1
 ·refine ⟨some ⟨b, off, none⟩, ⟨by rw [List.length_drop]; omega, by omega, ⟨by omega, fun e => by cases e⟩, fun hz => by omega⟩, fun W => ?_⟩
  subst hc
  have hk' : (1 : Int) ≤ n := by omega
  unfold Instr.sliceAt Instr.slice Instr.sliceBounds
  simp [go_sem, run_underlying Tryz.underlying35, Result.andThen, hk']
 ·refine ⟨some ((⟨b, off, none⟩ : Addr).add 1), ⟨by rw [List.length_drop]; omega, by omega, ⟨by omega, fun e => by cases e⟩, fun hz => ⟨b, off + 1, rfl, hb, fun i hi => ?_⟩⟩, fun W => ?_⟩
  ·rw [show off + 1 + i = off + (i + 1) by omega, show (l.drop 1).getD i 0 = l.getD (i + 1) 0 by simp [List.getD_eq_getElem?_getD]]
   exact hx (i + 1) (by omega)
  ·have hk' : (1 : Int) ≤ n := by omega
   have hc' : ¬ cap = 1 := hc
   unfold Instr.sliceAt Instr.slice Instr.sliceBounds
   simp [go_sem, run_underlying Tryz.underlying35, Result.andThen, hk', hc', Addr.add]
theorem ia_zero {S : World → Prop} {b off n cap : Nat} (hi : 0 < n) : Obl.holds Tryz.prog S (.ia 35 (.slice (some ⟨b, off, none⟩) n cap) (.int .i64 0) (.pointer (some ⟨b, off, none⟩))) := fun w hS => by
 have hi' : (0 : Int) < n := by omega
 go_simp
theorem alert_no {w : World} {T : Array Value} {t : Th} (h : ThD (LtN w) w T t) (hs : SmT t) (hn : alB t = false) : Calls Tryz.prog 17 #[.agg T] w fun e w' => ∃ T', e = .returned (.tuple #[.agg T', .bool (alB t)]) ∧ ThD (New w w') w' T' (alT t) ∧ Below w.heap.size w w' := by
 have hsz := h.size
 have hv : T[21]? = some (.int .u64 t.vector) := h.f.vector
 obtain ⟨aA, nA, cA, hA, lA⟩ := h.f.alerts
 replace hA : T[28]? = some (.slice aA nA cA) := hA
 have hlA : Hid (t.alerts.length = nA) := lA.1
 have ga2 := Tryz.isAgg22
 have ga3 := Tryz.isAgg35
 have hfl : Hid (alT t = t) := by unfold alT; rw [hn]; exact rfl
 have hfb : Hid (alB t = false) := hn
 by_cases h0 : nA = 0
 case' pos =>
  have hb0 : ((nA : Int) == 0) = true := by simp [h0]
  clear hn h0
 case' neg =>
  have hb0 : ((nA : Int) == 0) = false := by simp [h0]
  have hv0 : (t.vector == 0) = true := by
   unfold alB at hn
   have := hlA.out
   rw [decide_eq_false (by omega)] at hn
   simpa using hn
  clear hn h0
 all_goals
  go_enter Tryz.func17, Tryz.ntmps17
  go_wp2_with (first
   | go_skip
   | (with_reducible refine wpList_box rfl _ _ rfl T rfl ?_; intro B W hB hb hk)
   | ((with_reducible refine wpList_alloc rfl _ rfl zT zero46 ?_); intro R W1 hB1 hR hk1; have hne : Hid (B ≠ R ∧ w.heap.size ≤ B ∧ w.heap.size ≤ R ∧ R < W1.heap.size) := (by have := hB1.out; have := hB.out; have := hk1.size; exact ⟨by omega, by omega, by omega, by omega⟩); replace hb := hb.next hk1; replace hk := hk.trans (hk1.mono hk.size))
   | (with_reducible refine wpList_load1 (by kernel_rfl) _ _ rfl B _ rfl _ _ hb _ hA (by assumption) ?_)
   | (with_reducible refine wpList_load1 (by kernel_rfl) _ _ rfl B _ rfl _ _ hb _ hv (by assumption) ?_)
   | (with_reducible refine wpList_load_blk rfl _ _ rfl B rfl _ hb _ Tryz.underlying46 rfl (size46C hsz) ?_)
   | (go_at_call 39; (with_reducible refine (own_v (h.news hk) hs).mono ?_); rintro e w3 ⟨T3, rfl, hT3, hb3⟩; have hl2 : Hid (R < w3.heap.size ∧ R < W1.heap.size) := (by have := hne.out.2.2.2; have := hb3.size; exact ⟨by omega, by omega⟩); replace hR := hR.next hb3; have hk2 := hk; replace hk := hk.trans (hb3.mono hk.size); have z3 := hT3.size)
   | ((with_reducible refine wpList_store_blk rfl _ _ _ rfl R rfl T3 rfl zT hR (size46C z3) (zT_size.trans z3.symm) hT3.one ?_); intro W5 hR5 o5))
  refine bodyPost_ret (v := .tuple #[.agg T3, .bool false]) (res46b Tryz.results17 rfl rfl hR5 z3) rfl ⟨T3, by rw [hfb.out], ?_, o5.below _ _ hne.out.2.2.1 hk⟩
  rw [hfl.out]
  exact (hT3.laterK fun b hb => o5.block b (by have := hb.1; have := hl2.out.2; omega)).wide fun b hb => ⟨Nat.le_trans hk2.size hb.1, by rw [o5.size]; exact hb.2⟩
theorem alert_yes {w : World} {T : Array Value} {t : Th} (h : ThD (LtN w) w T t) (hs : SmT t) (hn : alB t = true) : Calls Tryz.prog 17 #[.agg T] w fun e w' => ∃ T', e = .returned (.tuple #[.agg T', .bool (alB t)]) ∧ ThD (New w w') w' T' (alT t) ∧ Below w.heap.size w w' := by
 have hmx : Tryz.prog.follows .mixedOrders = true := by kernel_rfl
 have hsz := h.size
 have hv : T[21]? = some (.int .u64 t.vector) := h.f.vector
 obtain ⟨aA, nA, cA, hA, lA⟩ := h.f.alerts
 replace hA : T[28]? = some (.slice aA nA cA) := hA
 have hlA : Hid (t.alerts.length = nA) := lA.1
 have ga2 := Tryz.isAgg22
 have ga3 := Tryz.isAgg35
 have hfl : Hid (alT t = { dvT t t.vector (t.alerts.getD 0 0) with vector := 0, alerts := t.alerts.drop 1 }) := by unfold alT; rw [if_pos hn]; exact rfl
 have hfb : Hid (alB t = true) := hn
 have hn2 : ¬ (t.alerts.length = 0 ∨ t.vector = 0) := by
  unfold alB at hn
  simp only [Bool.not_eq_true', Bool.or_eq_false_iff, decide_eq_false_iff_not] at hn
  intro q
  rcases q with q | q
  ·exact hn.1 q
  ·exact hn.2 q
 have hp0 : Hid (0 < nA) := by have := hlA.out; show 0 < nA; omega
 have hb0 : ((nA : Int) == 0) = false := by have := hp0.out; rw [beq_eq_false_iff_ne]; omega
 have hv0 : (t.vector == 0) = false := by rw [beq_eq_false_iff_ne]; exact fun q => hn2 (Or.inr q)
 obtain ⟨bA, oA, rfl, hbA, hcA⟩ := ct_at lA hp0.out
 rw [Nat.add_zero] at hcA
 obtain ⟨a', lA1, hsl⟩ := sliceW_one lA hp0.out
 have hs1 : SmT { dvT t t.vector (t.alerts.getD 0 0) with vector := 0, alerts := t.alerts.drop 1 } := by rw [← hfl.out]; exact hs.alt
 clear hn hn2
 go_enter Tryz.func17, Tryz.ntmps17
 go_wp2_with (first
  | go_skip
  | (with_reducible refine wpList_box rfl _ _ rfl T rfl ?_; intro B W hB hb hk)
  | ((with_reducible refine wpList_alloc rfl _ rfl zT zero46 ?_); intro R W1 hB1 hR hk1; have hne : Hid (B ≠ R ∧ w.heap.size ≤ B ∧ w.heap.size ≤ R ∧ R < W1.heap.size) := (by have := hB1.out; have := hB.out; have := hk1.size; exact ⟨by omega, by omega, by omega, by omega⟩); replace hb := hb.next hk1; replace hk := hk.trans (hk1.mono hk.size))
  | (with_reducible refine wpList_load1 (by kernel_rfl) _ _ rfl B _ rfl _ _ hb _ hA (by assumption) ?_)
  | (with_reducible refine wpList_load1 (by kernel_rfl) _ _ rfl B _ rfl _ _ hb _ hv (by assumption) ?_))
 have hB0 := hB
 replace hB := hb
 refine region_K (S := fun W => Blk W B T 46 ∧ Blk W R zT 46 ∧ Below w.heap.size w W) 8 hmx (⟨hB.next (Below.refl _ _).drew, hR.next (Below.refl _ _).drew, hk.trans ((Below.refl _ _).drew.mono hk.size)⟩) (fun hS0 => ?_)
 generalize W1.drew = v0 at hS0 ⊢
 refine wpAnyK_sym (by kernel_rfl) (fun _ _ _ _ _ h => h) hS0 [(0, some (.agg T), []), (1, none, []), (2, some (.int .u64 t.vector), []), (3, none, []), (4, some (.slice (some ⟨bA, oA, none⟩) nA cA), []), (5, some (.pointer (some ⟨bA, oA, none⟩)), []), (6, some (.int .u64 (t.alerts.getD 0 0)), [])] (l' := #[true, true, true, true, true, true, true, false, false]) (a' := { tmps := #[.agg T, .pointer (some ⟨B, 0, none⟩), .pointer (some ⟨R, 0, none⟩), .bool false, .pointer (some ⟨B, 28, none⟩), .slice (some ⟨bA, oA, none⟩) nA cA, .int .i64 nA, .bool false, .bool false, .pointer (some ⟨B, 21, none⟩), .int .u64 t.vector, .bool false, .bool false, ud, undef, .agg T, .pointer (some ⟨B, 21, none⟩), .int .u64 t.vector, .pointer (some ⟨B, 28, none⟩), .slice (some ⟨bA, oA, none⟩) nA cA, .pointer (some ⟨bA, oA, none⟩), .int .u64 (t.alerts.getD 0 0), ud, ud, ud, ud, ud, ud, ud, undef], defers := [] }) (obs := [.load 46 B 0 (.agg T), .load 22 B 21 (.int .u64 t.vector), .load 35 B 28 (.slice (some ⟨bA, oA, none⟩) nA cA), .ia 35 (.slice (some ⟨bA, oA, none⟩) nA cA) (.int .i64 0) (.pointer (some ⟨bA, oA, none⟩)), .load 22 bA oA (.int .u64 (t.alerts.getD 0 0))]) (n := 2) (by kernel_rfl) (by kernel_rfl) ⟨ob_loadb (fun W hS => hS.1) Tryz.underlying46 rfl (size46C hsz), ob_load1 (fun W hS => hS.1) hv ga2, ob_load1 (fun W hS => hS.1) hA ga3, ia_zero hp0.out, ob_word (fun W hS => (hS.2.2.cell (p := ⟨bA, oA, none⟩) hbA).trans hcA) ga2, trivial⟩ ?_
 refine wpAnyK_single (i := 7) (n := 1) rfl (by kernel_rfl) ?_
 refine wpOp_callL (f := 40) (vs := [.agg T, .int .u64 t.vector, .int .u64 (t.alerts.getD 0 0)]) (d := some 22) (by kernel_rfl) Tryz.call40 (diverted_v (g := t.vector) (why := t.alerts.getD 0 0) h) ?_
 rintro e w01 ⟨T3, rfl, hT3, hb3⟩
 have hS01 : Blk w01 B T 46 ∧ Blk w01 R zT 46 ∧ Below w.heap.size w w01 := ⟨hS0.1.next hb3, hS0.2.1.next hb3, hS0.2.2.trans (hb3.mono hS0.2.2.size)⟩
 refine ⟨_, rfl, fun _ => hS01, ?_⟩
 have z3 := hT3.size
 obtain ⟨W4, hr4, hb4, o4⟩ := run_store_blk hS01.1 (size46C z3) (hsz.trans z3.symm) hT3.one
 refine wpAnyK_single (i := 8) (n := 0) rfl (by kernel_rfl) ?_
 refine wpOp_storeL (ty := 46) (B := B) (off := 0) (v := .agg T3) (d := none) (by kernel_rfl) hr4 ?_
 refine ⟨(fun q => absurd rfl q), ?_⟩
 refine wpAnyK_done (by kernel_rfl) ?_ _
 have hR4 := hS01.2.1.other o4 hne.out.1.symm
 have hk4 := o4.below _ _ hne.out.2.1 hS01.2.2
 go_wp2
 obtain ⟨aX, nX, cX, eX, lX⟩ := hT3.f.alerts
 replace eX : T3[28]? = some (.slice aX nX cX) := eX
 have hX1 : 1 ≤ nX := by
  have h1 : t.alerts.length = nX := lX.1
  have := hlA.out
  have := hp0.out
  omega
 obtain ⟨aY, lY, hsY⟩ := sliceW_one lX hX1
 have hT4 := hT3.put (j := 21) (by decide) (by rfl) (hT3.f.setvector 0)
 have z4 := hT4.size
 have hT5 := hT4.put (j := 28) (by decide) (by rfl) (hT4.f.setalerts lY)
 have z5 := hT5.size
 refine PgM.region_out (S := fun W => Below w.heap.size w W) hmx (hk4.trans ((Below.refl _ _).drew.mono hk4.size)) (fun hS4 => ?_)
 have hb4' := hb4.next (Below.refl _ _).drew
 have hR4' := hR4.next (Below.refl _ _).drew
 generalize W4.drew = v4 at hS4 hb4' hR4' ⊢
 refine wpAnyH_symN (by kernel_rfl) (fun _ _ _ _ _ h => h) hS4 [(0, none)] (l' := #[true, false, false, false, false, false, false]) (a' := { tmps := #[.agg T, .pointer (some ⟨B, 0, none⟩), .pointer (some ⟨R, 0, none⟩), .bool false, .pointer (some ⟨B, 28, none⟩), .slice (some ⟨bA, oA, none⟩) nA cA, .int .i64 nA, .bool false, .bool false, .pointer (some ⟨B, 21, none⟩), .int .u64 t.vector, .bool false, .bool false, ud, undef, .agg T, .pointer (some ⟨B, 21, none⟩), .int .u64 t.vector, .pointer (some ⟨B, 28, none⟩), .slice (some ⟨bA, oA, none⟩) nA cA, .pointer (some ⟨bA, oA, none⟩), .int .u64 (t.alerts.getD 0 0), .agg T3, .pointer (some ⟨B, 28, none⟩), ud, ud, ud, ud, ud, undef], defers := [] }) (obs := []) (n := 6) (by kernel_rfl) (by kernel_rfl) trivial ?_
 refine wpAnyH_single (i := 1) (n := 5) rfl (by kernel_rfl) ?_
 refine wpOp_loadL (ty := 35) (b := B) (off := 28) (v := .slice aX nX cX) (d := some 24) (by kernel_rfl) (run_load1 hb4' eX ga3) ?_
 refine ⟨hS4, ?_⟩
 refine wpAnyH_symN (by kernel_rfl) (fun _ _ _ _ _ h => h) hS4 [(2, some (.slice aY (nX - 1) (cX - 1))), (3, none)] (l' := #[true, true, true, true, false, false, false]) (a' := { tmps := #[.agg T, .pointer (some ⟨B, 0, none⟩), .pointer (some ⟨R, 0, none⟩), .bool false, .pointer (some ⟨B, 28, none⟩), .slice (some ⟨bA, oA, none⟩) nA cA, .int .i64 nA, .bool false, .bool false, .pointer (some ⟨B, 21, none⟩), .int .u64 t.vector, .bool false, .bool false, ud, undef, .agg T, .pointer (some ⟨B, 21, none⟩), .int .u64 t.vector, .pointer (some ⟨B, 28, none⟩), .slice (some ⟨bA, oA, none⟩) nA cA, .pointer (some ⟨bA, oA, none⟩), .int .u64 (t.alerts.getD 0 0), .agg T3, .pointer (some ⟨B, 28, none⟩), .slice aX nX cX, .slice aY (nX - 1) (cX - 1), .pointer (some ⟨B, 21, none⟩), ud, ud, undef], defers := [] }) (obs := [.sl 35 (.slice aX nX cX) (some (.int .i64 1)) (none) (none) (.slice aY (nX - 1) (cX - 1))]) (n := 3) (by kernel_rfl) (by kernel_rfl) ⟨fun W hS => hsY W, trivial⟩ ?_
 obtain ⟨W6, hr6, hb6, o6⟩ := run_store_cell (ty := 22) (v := .int .u64 0) hb4' rfl (by kernel_rfl) (by rw [z3]; decide) rfl (j := 21)
 refine wpAnyH_single (i := 4) (n := 2) rfl (by kernel_rfl) ?_
 refine wpOp_storeL (ty := 22) (B := B) (off := 21) (v := .int .u64 0) (d := none) (by kernel_rfl) hr6 ?_
 have hS6 : Below w.heap.size w W6 := o6.below _ _ hne.out.2.1 hS4
 refine ⟨hS6, ?_⟩
 refine wpAnyH_symN (by kernel_rfl) (fun _ _ _ _ _ h => h) hS6 [(5, none)] (l' := #[true, true, true, true, true, true, false]) (a' := { tmps := #[.agg T, .pointer (some ⟨B, 0, none⟩), .pointer (some ⟨R, 0, none⟩), .bool false, .pointer (some ⟨B, 28, none⟩), .slice (some ⟨bA, oA, none⟩) nA cA, .int .i64 nA, .bool false, .bool false, .pointer (some ⟨B, 21, none⟩), .int .u64 t.vector, .bool false, .bool false, ud, undef, .agg T, .pointer (some ⟨B, 21, none⟩), .int .u64 t.vector, .pointer (some ⟨B, 28, none⟩), .slice (some ⟨bA, oA, none⟩) nA cA, .pointer (some ⟨bA, oA, none⟩), .int .u64 (t.alerts.getD 0 0), .agg T3, .pointer (some ⟨B, 28, none⟩), .slice aX nX cX, .slice aY (nX - 1) (cX - 1), .pointer (some ⟨B, 21, none⟩), .pointer (some ⟨B, 28, none⟩), ud, undef], defers := [] }) (obs := []) (n := 1) (by kernel_rfl) (by kernel_rfl) trivial ?_
 obtain ⟨W7, hr7, hb7, o7⟩ := run_store_cell (ty := 35) (v := .slice aY (nX - 1) (cX - 1)) hb6 rfl (by kernel_rfl) (by rw [z4]; decide) rfl (j := 28)
 refine wpAnyH_single (i := 6) (n := 0) rfl (by kernel_rfl) ?_
 refine wpOp_storeL (ty := 35) (B := B) (off := 28) (v := .slice aY (nX - 1) (cX - 1)) (d := none) (by kernel_rfl) hr7 ?_
 have hS7 : Below w.heap.size w W7 := o7.below _ _ hne.out.2.1 hS6
 refine ⟨hS7, ?_⟩
 refine wpAnyH_done (by kernel_rfl) ?_ _
 have hR7 := (hR4'.other o6 hne.out.1.symm).other o7 hne.out.1.symm
 have hl7 : Hid (R < W7.heap.size ∧ R < W7.heap.size) := ⟨hR7.lt, hR7.lt⟩
 clear hb hk hb4 hb4' hb6
 obtain ⟨T5, hT5e⟩ : ∃ T5, (T3.setIfInBounds 21 (.int .u64 0)).setIfInBounds 28 (.slice aY (nX - 1) (cX - 1)) = T5 := ⟨_, rfl⟩
 rw [hT5e] at hb7 hT5 z5
 replace hT5 : ThD (LtN w) w T5 { dvT t t.vector (t.alerts.getD 0 0) with vector := 0, alerts := t.alerts.drop 1 } := hT5
 go_wp2_with (first
  | go_skip
  | (with_reducible refine wpList_load_blk rfl _ _ rfl B rfl _ hb7 _ Tryz.underlying46 rfl (size46C z5) ?_)
  | (go_at_call 39; (with_reducible refine (own_v (hT5.news hS7) hs1).mono ?_); rintro e w8 ⟨T8, rfl, hT8, hb8⟩; have hR8 := hR7.next hb8; have hk8 := hS7.trans (hb8.mono hS7.size); have z8 := hT8.size)
  | ((with_reducible refine wpList_store_blk rfl _ _ _ rfl R rfl T8 rfl zT hR8 (size46C z8) (zT_size.trans z8.symm) hT8.one ?_); intro W9 hR9 o9))
 refine bodyPost_ret (v := .tuple #[.agg T8, .bool true]) (res46b Tryz.results17 rfl rfl hR9 z8) rfl ⟨T8, by rw [hfb.out], ?_, o9.below _ _ hne.out.2.2.1 hk8⟩
 rw [hfl.out]
 exact (hT8.laterK fun b hb => o9.block b (by have := hb.1; have := hl7.out.1; omega)).wide fun b hb => ⟨Nat.le_trans hS7.size hb.1, by rw [o9.size]; exact hb.2⟩
theorem alert_v {w : World} {T : Array Value} {t : Th} (h : ThD (LtN w) w T t) (hs : SmT t) : Calls Tryz.prog 17 #[.agg T] w fun e w' => ∃ T', e = .returned (.tuple #[.agg T', .bool (alB t)]) ∧ ThD (New w w') w' T' (alT t) ∧ Below w.heap.size w w' := by
 cases hn : alB t with
 | false => have := alert_no h hs hn; rw [hn] at this; exact this
 | true => have := alert_yes h hs hn; rw [hn] at this; exact this
end Go.Proofs.YtfghigibjdncbaaGreat
