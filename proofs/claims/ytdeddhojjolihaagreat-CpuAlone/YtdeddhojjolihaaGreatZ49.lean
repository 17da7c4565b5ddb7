/-
 PROVED HERE: a processor's thread is another one; what cpu's deferred function does with a fault, or without one (contracts. What is asked stands at each.
-/
import Derived.Laws.EntriesVeiled
import Derived.Test.YtdeddhojjolihaaGreatZ43
import Derived.Test.YtdeddhojjolihaaGreatZ44
import Derived.Test.YtdeddhojjolihaaGreatZ48
namespace Go.Proofs.YtdeddhojjolihaaGreat
set_option maxRecDepth 100000
set_option maxHeartbeats 8000000
set_option linter.unusedVariables false
open Go.Proofs.Tryz
section
open Go.RowKit Go.Shelf
attribute [local go_sem] Oper.semAt_some
variable {Z : Nat → Prop} {ao : Option Addr} {t ke ro : Int} {n cap : Nat} {X : List Ob}
theorem Pz.setth {w w' : World} {B : Nat} {F T : Array Value} {x : Ob} {u : Th} (h : Pz Z w B F x t ke ro ao n cap X) (hT : ThD (Ez Z B w) w T u) (hb : Blk w' B (F.extract 0 8 ++ T ++ F.extract (8 + T.size) F.size) 59) (q : Oth B w w') : Pz Z w' B (F.extract 0 8 ++ T ++ F.extract (8 + T.size) F.size) { x with th := u } t ke ro ao n cap X := by
 have hz := h.size
 have zT := hT.size
 have g : ∀ b, Ez Z B w b → Ez Z B w' b := fun b hb => ⟨⟨by rw [q.size]; exact hb.1.1, hb.1.2⟩, hb.2⟩
 have hs : 8 + T.size ≤ F.size := by omega
 obtain ⟨G, hG⟩ : ∃ G, F.extract 0 8 ++ T ++ F.extract (8 + T.size) F.size = G := ⟨_, rfl⟩
 have zG : G.size = 55 := by rw [← hG, wuz hs, hz]
 have e1 : ∀ j, j < 8 ∨ 43 ≤ j → G[j]? = F[j]? := fun j hj => by rw [← hG]; exact kcz hs (by omega)
 have e2 : ∀ j, j < 35 → G[8 + j]? = T[j]? := fun j hj => by
  cases e : T[j]? with
  | none => exact absurd (Array.getElem?_eq_none_iff.1 e) (by omega)
  | some v => rw [← hG]; exact joz hs e
 rw [hG] at hb ⊢
 have o := h.ob
 have f1 : ∀ j, j < 51 → (j < 8 ∨ 43 ≤ j) → (G.extract 0 51)[j]? = (F.extract 0 51)[j]? := fun j hj hq => by rw [x4z zG hj, x4z hz hj, e1 j hq]
 have hone : G.all (·.oneCell') = true := wyz fun j v e => by
  by_cases hj : j < 8 ∨ 43 ≤ j
  ·rw [e1 j hj] at e; exact q2z h.one e
  ·obtain ⟨m, rfl⟩ : ∃ m, j = 8 + m := ⟨j - 8, by omega⟩
   rw [e2 m (by omega)] at e
   exact q2z hT.one e
 refine ⟨hb, zG, hone, ?_, ?_, (h.obs.laterK (fun b hb => q.block b hb.1.2) fun b hb => q.block b hb.1.2).wide g g, fun b hb => by rw [q.size]; exact h.zlt b hb⟩
 ·have ob : ObD (Ez Z B w) w (G.extract 0 51) { x with th := u } := by
   refine ⟨by simp [zG], xhz (o := 0) (n := 51) (by simpa using hone), (f1 0 (by omega) (by omega)).trans o.id, (f1 1 (by omega) (by omega)).trans o.kind, ?_, (f1 3 (by omega) (by omega)).trans o.quota, (f1 4 (by omega) (by omega)).trans o.fixed, ?_, ?_, ?_, hT.f.congr fun i hi => ?_, o.gt.congr fun i hi => (f1 (43 + i) (by omega) (by omega)).symm, ?_, ?_⟩
   ·rw [f1 2 (by omega) (by omega)]; exact o.label
   ·rw [f1 5 (by omega) (by omega)]; exact o.links
   ·rw [f1 6 (by omega) (by omega)]; exact o.data
   ·rw [f1 7 (by omega) (by omega)]; exact o.maps
   ·rw [x4z zG (by omega)]; exact (e2 i hi).symm
   ·rw [f1 49 (by omega) (by omega)]; exact o.inn
   ·rw [f1 50 (by omega) (by omega)]; exact o.out
  exact (ob.laterK fun b hb => q.block b hb.1.2).wide g
 ·rw [← h.wld]
  apply Array.ext_getElem?
  intro i
  by_cases hi : i < 4
  ·rw [Array.getElem?_extract, if_pos (by omega), Array.getElem?_extract, if_pos (by omega), e1 (51 + i) (by omega)]
  ·rw [Array.getElem?_eq_none (by simp [zG]; omega), Array.getElem?_eq_none (by simp [hz]; omega)]
theorem Pz.thd {w : World} {B : Nat} {F : Array Value} {x : Ob} (h : Pz Z w B F x t ke ro ao n cap X) : ThD (Ez Z B w) w (F.extract 8 (8 + 35)) x.th := by
 have e : (F.extract 0 51).extract 8 (8 + 35) = F.extract 8 (8 + 35) := by
  apply Array.ext_getElem?
  intro i
  have hz := h.size
  by_cases hi : i < 35
  ·rw [Array.getElem?_extract, if_pos (by simp [hz]; omega), x4z hz (by omega), Array.getElem?_extract, if_pos (by omega)]
  ·rw [Array.getElem?_eq_none (by simp [hz]; omega), Array.getElem?_eq_none (by simp [hz]; omega)]
 rw [← e]
 exact h.ob.thd
theorem taF_hit (k : Int) (t : Nat) (w : World) : (Instr.typeAssert (.iface 92 (.int .u64 k)) t 92 true).run prog w = .ok (.tuple #[.int .u64 k, .bool true]) w := by
 simp [Instr.typeAssert, run_underlying underlying92]
theorem taF_none (t : Nat) (w : World) : (Instr.typeAssert .nilIface t 92 true).run prog w = .ok (.tuple #[.int .u64 0, .bool false]) w := by
 have hz : (zeroValue 92).run prog w = .ok (.int .u64 0) w := by kernel_rfl
 simp [Instr.typeAssert, run_underlying underlying92, hz]
def ptV (B : Nat) : Array Value := #[.pointer (some ⟨B, 0, none⟩)]
theorem kMz (p : Addr) (w : World) :
  CallsD prog 43 #[.pointer (some p)] .returning w fun e u' w' => e = .returned (.tuple #[]) ∧ u' = .returning ∧ w' = w := by
 refine callsD_of_wpS func43 rfl fun c₀ cs hu => ?_
 apply wpS_seq
 apply wpS_region
 simp [wpOpsS, go_sem, recoverD, hu, ntmps43, Exit.thenS, taF_none]
 apply wpS_seq
 apply wpS_region
 simp [wpOpsS, go_sem, Exit.thenS]
 refine wpS_cond (t := false) (by simp [Act.eval, Array.replicate]) ?_
 simp only [Bool.false_eq_true, if_false]
 refine wpS_of_wp (wp_skip ?_)
 cases c₀
 simp_all [bodyPostS, results, results43]
theorem ydz {w : World} {B V : Nat} {F : Array Value} {x : Ob} {k : Int} {older : List PanicEntry} (h : Pz Z w B F x t ke ro ao n cap X) (hV : Blk w V (ptV B) 91) (hs : SmT x.th) :
  CallsD prog 43 #[.pointer (some ⟨V, 0, none⟩)] (.panicking ({ v := .iface 92 (.int .u64 k), recovered := false } :: older)) w fun e u' w' =>
   e = .returned (.tuple #[]) ∧ u' = .panicking ({ v := .iface 92 (.int .u64 k), recovered := true } :: older) ∧ ∃ F', Pz Z w' B F' { x with th := flT x.th k } t ke ro ao n cap X ∧ Ot B w w' := by
 have hmx : prog.follows .mixedOrders = true := by kernel_rfl
 have ga9 := isAgg91
 have hz := h.size
 have hBl := h.blk.lt
 have hB := h.blk
 have hk := Below.refl w.heap.size w
 have hv0 : (ptV B)[0]? = some (.pointer (some ⟨B, 0, none⟩)) := rfl
 refine callsD_of_wpS func43 rfl fun c₀ cs hu => ?_
 apply wpS_seq
 apply wpS_region
 simp [wpOpsS, go_sem, recoverD, hu, ntmps43, Exit.thenS, taF_hit]
 apply wpS_seq
 apply wpS_region
 simp [wpOpsS, go_sem, Exit.thenS]
 refine wpS_cond (t := true) (by simp [Act.eval, Array.replicate]) ?_
 simp only [if_true]
 refine wpS_of_wp ?_
 obtain ⟨TO, hTO⟩ : ∃ TO, F.extract 8 (8 + 35) = TO := ⟨_, rfl⟩
 have hfl := fun (W : World) (hk : Below w.heap.size w W) => gfz (why := k) (((h.next hk).thd).wide (D' := LtN W) fun b hb => hb.1.1) hs
 rw [hTO] at hfl
 refine wrz (S := fun W => Blk W B F 59 ∧ Blk W V (ptV B) 91 ∧ Below w.heap.size w W) 11 hmx (⟨hB.next (Below.refl _ _).drew, hV.next (Below.refl _ _).drew, hk.trans ((Below.refl _ _).drew.mono hk.size)⟩) (fun hS0 => ?_)
 generalize w.drew = v0 at hS0 ⊢
 refine qPz (by kernel_rfl) (fun _ _ _ _ _ h => h) hS0 [(0, some (.pointer (some ⟨B, 0, none⟩)), []), (1, some (.pointer (some ⟨B, 0, none⟩)), []), (2, none, []), (3, none, []), (4, none, []), (5, some (.agg TO), []), (6, none, [])] (l' := #[tt, tt, tt, tt, tt, tt, tt, ff, ff, ff, ff, ff]) (a' := { tmps := #[.pointer (some ⟨V, 0, none⟩), .int .u64 k, .bool true, .tuple #[.int .u64 k, .bool true], .iface 92 (.int .u64 k), .tuple #[.int .u64 k, .bool true], .int .u64 k, .bool true, .bool true, .pointer (some ⟨B, 0, none⟩), .pointer (some ⟨B, 0, none⟩), .pointer (some ⟨B, 0, none⟩), .pointer (some ⟨B, 0, none⟩), .pointer (some ⟨B, 8, none⟩), .agg TO, .int .u64 k, undef, undef, undef, undef], defers := [] }) (obs := [.load 91 V 0 (.pointer (some ⟨B, 0, none⟩)), .load 91 V 0 (.pointer (some ⟨B, 0, none⟩)), .load 46 B 8 (.agg TO)]) (n := 5) (by kernel_rfl) (by kernel_rfl) ⟨qgz (fun W hS => hS.2.1) hv0 ga9, qgz (fun W hS => hS.2.1) hv0 ga9, q6z 35 (fun W hS => hS.1) hTO (by rw [hz]; decide) underlying46 rfl (by kernel_rfl), trivial⟩ ?_
 refine qtz (i := 7) (n := 4) rfl (by kernel_rfl) ?_
 refine qpz (f := 15) (vs := [.agg TO, .int .u64 k]) (d := some 16) (by kernel_rfl) call15 (hfl _ hS0.2.2) ?_
 rintro e w01 ⟨T1, rfl, hT1, hb1⟩
 have z1 := hT1.size
 have hS01 : Blk w01 B F 59 ∧ Blk w01 V (ptV B) 91 ∧ Below w.heap.size w w01 := ⟨hS0.1.next hb1, hS0.2.1.next hb1, hS0.2.2.trans (hb1.mono hS0.2.2.size)⟩
 refine ⟨_, rfl, fun _ => hS01, ?_⟩
 refine qPz (by kernel_rfl) (fun _ _ _ _ _ h => h) hS01 [(8, none, [9, 10]), (9, none, [10]), (10, none, [])] (l' := #[tt, tt, tt, tt, tt, tt, tt, tt, tt, tt, tt, ff]) (a' := { tmps := #[.pointer (some ⟨V, 0, none⟩), .int .u64 k, .bool true, .tuple #[.int .u64 k, .bool true], .iface 92 (.int .u64 k), .tuple #[.int .u64 k, .bool true], .int .u64 k, .bool true, .bool true, .pointer (some ⟨B, 0, none⟩), .pointer (some ⟨B, 0, none⟩), .pointer (some ⟨B, 0, none⟩), .pointer (some ⟨B, 0, none⟩), .pointer (some ⟨B, 8, none⟩), .agg TO, .int .u64 k, .agg T1, .pointer (some ⟨B, 0, none⟩), .pointer (some ⟨B, 0, none⟩), .pointer (some ⟨B, 8, none⟩)], defers := [] }) (obs := []) (n := 1) (by kernel_rfl) (by kernel_rfl) trivial ?_
 obtain ⟨W9, hr9, hb9, o9⟩ := wTz (ty := 46) (o := 8) hS01.1 (qMz z1) (by rw [hz, z1]; decide) hT1.one
 refine qtz (i := 11) (n := 0) rfl (by kernel_rfl) ?_
 refine qAz (ty := 46) (B := B) (off := 8) (v := .agg T1) (d := none) (by kernel_rfl) hr9 ?_
 refine ⟨(fun q => absurd rfl q), ?_⟩
 refine q1z (by kernel_rfl) ?_ _
 have hP := (h.next hS01.2.2).setth (hT1.wide fun b hb => ⟨⟨hb.2, by have h1 := hb.1; have h2 := hS0.2.2.size; omega⟩, fun q => by have h1 := hb.1; have h2 := hS0.2.2.size; have := h.zlt b q; omega⟩) hb9 o9
 have hO := (Ot.of hS01.2.2 hBl).trans (Ot.set o9)
 have hQ : ∃ F', Pz Z W9 B F' { x with th := flT x.th k } t ke ro ao n cap X := ⟨_, hP⟩
 clear hP
 cases c₀
 simp_all [bodyPostS, results, results43]
 rfl
end
section
open Go.RowKit Go.Shelf
attribute [local go_sem] Oper.semAt_some
variable {w : World}
theorem yoz {ops : Array Oper} {Q : Exit → Act → World → Prop} {a : Act} {i : Nat} {v : Value} {d : Option Tmp} {K : Act → World → Prop} (hi : (ops[i]?).bind (fun o => if Region.wanted o (yielded ops a.tmps) then (yEz o a).map fun v => (v, o.dst) else none) = some (v, d)) (h : K (a.put d v) w) : wpOp prog ops Q i K a w := by
 cases ho : ops[i]? with
 | none => rw [ho] at hi; cases hi
 | some o =>
  rw [ho] at hi
  have hi' : (if Region.wanted o (yielded ops a.tmps) then (yEz o a).map fun v => (v, o.dst) else none) = some (v, d) := hi
  split at hi'
  ·rename_i hw
   cases hv : yEz o a with
   | none => rw [hv] at hi'; cases hi'
   | some u =>
    rw [hv] at hi'
    cases hi'
    unfold wpOp
    simp only [ho, hw, if_true]
    left
    unfold Oper.wp
    rw [jWz hv w]
    exact h
  ·cases hi'
variable {Z : Nat → Prop} {ao : Option Addr} {F : Array Value} {t ke ro : Int} {n cap : Nat} {X : List Ob} {B : Nat} {x : Ob}
theorem turn_al (h : Pz Z w B F x t ke ro ao n cap X) (hs : SmT x.th) (hal : alB x.th = true) : Calls prog 18 #[.pointer (some ⟨B, 0, none⟩)] w fun e w' => e = .returned (.int .i64 (-1)) ∧ ∃ F', Pz Z w' B F' { x with th := alT x.th } t ke ro ao n cap X ∧ Ot B w w' := by
 have hmf : ∀ (fn : Fn) (first cap : Array Value) (w : World), (Instr.makeFunc fn first cap).run prog w = .ok (.func fn first cap) w := fun _ _ _ _ => rfl
 have hmx : prog.follows .mixedOrders = true := by kernel_rfl
 have ga9 := isAgg91
 have hz := h.size
 have hBl := h.blk.lt
 have hB := h.blk
 have hv0 : (ptV B)[0]? = some (.pointer (some ⟨B, 0, none⟩)) := rfl
 obtain ⟨TO, hTO⟩ : ∃ TO, F.extract 8 (8 + 35) = TO := ⟨_, rfl⟩
 have hale := fun (W : World) (hk : Below w.heap.size w W) => jGz (((h.next hk).thd).wide (D' := LtN W) fun b hb => hb.1.1) hs
 rw [hTO, hal] at hale
 go_enter_defers func18, ntmps18
 go_wp2_with (first
  | go_skip
  | ((with_reducible refine wGz rfl 91 _ rfl (.pointer (some ⟨B, 0, none⟩)) rfl rfl ?_); intro V W1 hNV hV hk; change Blk W1 V (ptV B) _ at hV; replace hB := hB.next hk; have hVB : Hid (B ≠ V) := (by have := hNV.out; show B ≠ V; omega))
  | (with_reducible refine qaz (by kernel_rfl) _ _ rfl V _ rfl _ _ hV _ hv0 ga9 ?_)
  | (with_reducible refine qnz (by kernel_rfl) 46 _ rfl B 8 rfl 35 _ _ hB _ hTO (by rw [hz]; decide) _ underlying46 (by kernel_rfl) (by kernel_rfl) ?_)
  | (go_at_call 44; (with_reducible refine (hale _ hk).mono ?_); rintro e w2 ⟨T1, rfl, hT1, hb2⟩; have hn2 : Hid (B < _) := hB.lt; have hz2 : Hid (w.heap.size ≤ _) := hk.size; replace hB := hB.next hb2; replace hV := hV.next hb2; replace hk := btz hk hb2; have z1 := hT1.size)
  | ((with_reducible refine qcz rfl 46 rfl zT xsz ?_); intro A W3 hNA hA hk3; have hAne : Hid (B ≠ A ∧ V ≠ A ∧ w2.heap.size ≤ A ∧ w.heap.size ≤ A) := (by have := hNA.out; have := hB.lt; have := hV.lt; have := hk.size; exact ⟨by omega, by omega, by omega, by omega⟩); replace hB := hB.next hk3; replace hV := hV.next hk3; replace hk := btz hk hk3)
  | ((with_reducible refine qbz rfl _ _ _ rfl A rfl T1 rfl zT hA (qMz z1) (wEz.trans z1.symm) hT1.one ?_); intro W4 hA4 o4; clear hA; replace hB := hB.other o4 hAne.out.1; replace hV := hV.other o4 hAne.out.2.1; replace hk := o4.below _ _ hAne.out.2.2.2 hk; replace hT1 := (hT1.laterK (w' := W4) fun b hb => (o4.block b (by have := hb.2; have := hAne.out.2.2.1; omega)).trans (hk3.block b hb.2)).wide (D' := Ez Z B W4) fun b hb => (by have h1 := hb.1; have h2 := hb.2; have h3 := o4.size; have h4 := hk3.size; have h5 := hn2.out; exact ⟨⟨by omega, by omega⟩, fun q => by have h6 := h.zlt b q; have h7 := hz2.out; omega⟩))
  | (with_reducible refine qfz rfl _ _ rfl A rfl _ hA4 _ underlying46 rfl (qMz z1) ?_)
  | ((with_reducible refine wcz rfl 46 _ _ rfl B 8 rfl T1 rfl F _ hB (qMz z1) (by rw [hz, z1]; decide) hT1.one ?_); intro W5 hB5 o5))
 have hP := (h.next hk).setth hT1 hB5 o5
 have hO := (Ot.of hk hBl).trans (Ot.set o5)
 refine leaves_cons (f := 43) (args := #[.pointer (some ⟨V, 0, none⟩)]) (by simp) (by simp [go_sem]) ?_
 refine (kMz ⟨V, 0, none⟩ _).mono ?_
 rintro e u' w'' ⟨rfl, rfl, rfl⟩
 exact ⟨_, results_tmp results18 _ _ _, rfl, _, hP, hO⟩
theorem y3z {k : Int} (h : Pz Z w B F x t ke ro ao n cap X) (hs : SmT x.th) (hal : alB x.th = false) (hf : ∀ W, Below w.heap.size w W → Calls prog 46 #[.pointer (some ⟨B, 0, none⟩)] W fun e w' => e = .panicked (thrF k) ∧ Below W.heap.size W w') : Calls prog 18 #[.pointer (some ⟨B, 0, none⟩)] w fun e w' => e = .returned (.int .i64 (-1)) ∧ ∃ F', Pz Z w' B F' { x with th := flT x.th k } t ke ro ao n cap X ∧ Ot B w w' := by
 have hmf : ∀ (fn : Fn) (first cap : Array Value) (w : World), (Instr.makeFunc fn first cap).run prog w = .ok (.func fn first cap) w := fun _ _ _ _ => rfl
 have hmx : prog.follows .mixedOrders = true := by kernel_rfl
 have ga9 := isAgg91
 have hz := h.size
 have hBl := h.blk.lt
 have hB := h.blk
 have hv0 : (ptV B)[0]? = some (.pointer (some ⟨B, 0, none⟩)) := rfl
 obtain ⟨TO, hTO⟩ : ∃ TO, F.extract 8 (8 + 35) = TO := ⟨_, rfl⟩
 have hale := fun (W : World) (hk : Below w.heap.size w W) => jGz (((h.next hk).thd).wide (D' := LtN W) fun b hb => hb.1.1) hs
 rw [hTO, hal] at hale
 go_enter_defers func18, ntmps18
 go_wp2_with (first
  | go_skip
  | ((with_reducible refine wGz rfl 91 _ rfl (.pointer (some ⟨B, 0, none⟩)) rfl rfl ?_); intro V W1 hNV hV hk; change Blk W1 V (ptV B) _ at hV; replace hB := hB.next hk; have hVB : Hid (B ≠ V) := (by have := hNV.out; show B ≠ V; omega))
  | (with_reducible refine qaz (by kernel_rfl) _ _ rfl V _ rfl _ _ hV _ hv0 ga9 ?_)
  | (with_reducible refine qnz (by kernel_rfl) 46 _ rfl B 8 rfl 35 _ _ hB _ hTO (by rw [hz]; decide) _ underlying46 (by kernel_rfl) (by kernel_rfl) ?_)
  | (go_at_call 44; (with_reducible refine (hale _ hk).mono ?_); rintro e w2 ⟨T1, rfl, hT1, hb2⟩; have hn2 : Hid (B < _) := hB.lt; have hz2 : Hid (w.heap.size ≤ _) := hk.size; replace hB := hB.next hb2; replace hV := hV.next hb2; replace hk := btz hk hb2; have z1 := hT1.size)
  | ((with_reducible refine qcz rfl 46 rfl zT xsz ?_); intro A W3 hNA hA hk3; have hAne : Hid (B ≠ A ∧ V ≠ A ∧ w2.heap.size ≤ A ∧ w.heap.size ≤ A) := (by have := hNA.out; have := hB.lt; have := hV.lt; have := hk.size; exact ⟨by omega, by omega, by omega, by omega⟩); replace hB := hB.next hk3; replace hV := hV.next hk3; replace hk := btz hk hk3)
  | ((with_reducible refine qbz rfl _ _ _ rfl A rfl T1 rfl zT hA (qMz z1) (wEz.trans z1.symm) hT1.one ?_); intro W4 hA4 o4; clear hA; replace hB := hB.other o4 hAne.out.1; replace hV := hV.other o4 hAne.out.2.1; replace hk := o4.below _ _ hAne.out.2.2.2 hk; replace hT1 := (hT1.laterK (w' := W4) fun b hb => (o4.block b (by have := hb.2; have := hAne.out.2.2.1; omega)).trans (hk3.block b hb.2)).wide (D' := Ez Z B W4) fun b hb => (by have h1 := hb.1; have h2 := hb.2; have h3 := o4.size; have h4 := hk3.size; have h5 := hn2.out; exact ⟨⟨by omega, by omega⟩, fun q => by have h6 := h.zlt b q; have h7 := hz2.out; omega⟩)))
 have hV4 := hV
 have hk0 := hk.trans ((Below.refl W4.heap.size W4).drew.mono hk.size)
 refine PgM.region_out (S := fun W => Blk W V (ptV B) 91) hmx (hV.next (Below.refl _ _).drew) (fun hS => ?_)
 generalize W4.drew = v0 at hS hk0 ⊢
 refine qYz (i := 0) (j := 1) (n := 4) rfl (by kernel_rfl) ?_ ?_
 ·refine qBz (ty := 91) (b := V) (off := 0) (v := .pointer (some ⟨B, 0, none⟩)) (d := some 22) (by kernel_rfl) (qIz hS hv0 ga9) ?_
  refine ⟨hS, ?_⟩
  refine qjz (i := 1) (n := 3) rfl (by kernel_rfl) ?_
  refine qBz (ty := 91) (b := V) (off := 0) (v := .pointer (some ⟨B, 0, none⟩)) (d := some 23) (by kernel_rfl) (qIz hS hv0 ga9) ?_
  refine ⟨hS, ?_⟩
  refine qjz (i := 2) (n := 2) rfl (by kernel_rfl) ?_
  refine wVz (f := 46) (vs := [.pointer (some ⟨B, 0, none⟩)]) (d := some 24) (by kernel_rfl) call46 (hf _ hk0) ?_
  rintro e w5 ⟨rfl, hb5⟩
  refine .inr ⟨_, rfl, ?_⟩
  have hk5 := btz hk0 hb5
  dsimp only [thrF]
  refine leaves_cons (f := 43) (args := #[.pointer (some ⟨V, 0, none⟩)]) (by simp) (by simp [go_sem]) ?_
  refine (ydz (h.next hk5) (hS.next hb5) hs).mono ?_
  rintro e u' w'' ⟨rfl, rfl, F6, hP, hO⟩
  exact ⟨_, results_tmp results18 _ _ _, rfl, F6, hP, (Ot.of hk5 hBl).trans hO⟩
 ·refine qBz (ty := 91) (b := V) (off := 0) (v := .pointer (some ⟨B, 0, none⟩)) (d := some 23) (by kernel_rfl) (qIz hS hv0 ga9) ?_
  refine ⟨hS, ?_⟩
  refine qYz (i := 0) (j := 2) (n := 3) rfl (by kernel_rfl) ?_ ?_
  ·refine qBz (ty := 91) (b := V) (off := 0) (v := .pointer (some ⟨B, 0, none⟩)) (d := some 22) (by kernel_rfl) (qIz hS hv0 ga9) ?_
   refine ⟨hS, ?_⟩
   refine qjz (i := 2) (n := 2) rfl (by kernel_rfl) ?_
   refine wVz (f := 46) (vs := [.pointer (some ⟨B, 0, none⟩)]) (d := some 24) (by kernel_rfl) call46 (hf _ hk0) ?_
   rintro e w5 ⟨rfl, hb5⟩
   refine .inr ⟨_, rfl, ?_⟩
   have hk5 := btz hk0 hb5
   dsimp only [thrF]
   refine leaves_cons (f := 43) (args := #[.pointer (some ⟨V, 0, none⟩)]) (by simp) (by simp [go_sem]) ?_
   refine (ydz (h.next hk5) (hS.next hb5) hs).mono ?_
   rintro e u' w'' ⟨rfl, rfl, F6, hP, hO⟩
   exact ⟨_, results_tmp results18 _ _ _, rfl, F6, hP, (Ot.of hk5 hBl).trans hO⟩
  ·refine wVz (f := 46) (vs := [.pointer (some ⟨B, 0, none⟩)]) (d := some 24) (by kernel_rfl) call46 (hf _ hk0) ?_
   rintro e w5 ⟨rfl, hb5⟩
   refine .inr ⟨_, rfl, ?_⟩
   have hk5 := btz hk0 hb5
   dsimp only [thrF]
   refine leaves_cons (f := 43) (args := #[.pointer (some ⟨V, 0, none⟩)]) (by simp) (by simp [go_sem]) ?_
   refine (ydz (h.next hk5) (hS.next hb5) hs).mono ?_
   rintro e u' w'' ⟨rfl, rfl, F6, hP, hO⟩
   exact ⟨_, results_tmp results18 _ _ _, rfl, F6, hP, (Ot.of hk5 hBl).trans hO⟩
theorem turn_pd {k : Int} {CV : Array Value} (h : Pz Z w B F x t ke ro ao n cap X) (hs : SmT x.th) (hal : alB x.th = false) (hf : ∀ W, Below w.heap.size w W → Calls prog 46 #[.pointer (some ⟨B, 0, none⟩)] W fun e w' => e = .returned (.agg CV) ∧ Below W.heap.size W w') (hd : ∀ W, Below w.heap.size w W → Calls prog 45 #[.pointer (some ⟨B, 0, none⟩), .agg CV] W fun e w' => e = .panicked (thrF k) ∧ Below W.heap.size W w') : Calls prog 18 #[.pointer (some ⟨B, 0, none⟩)] w fun e w' => e = .returned (.int .i64 (-1)) ∧ ∃ F', Pz Z w' B F' { x with th := flT x.th k } t ke ro ao n cap X ∧ Ot B w w' := by
 have hmf : ∀ (fn : Fn) (first cap : Array Value) (w : World), (Instr.makeFunc fn first cap).run prog w = .ok (.func fn first cap) w := fun _ _ _ _ => rfl
 have hmx : prog.follows .mixedOrders = true := by kernel_rfl
 have ga9 := isAgg91
 have hz := h.size
 have hBl := h.blk.lt
 have hB := h.blk
 have hv0 : (ptV B)[0]? = some (.pointer (some ⟨B, 0, none⟩)) := rfl
 obtain ⟨TO, hTO⟩ : ∃ TO, F.extract 8 (8 + 35) = TO := ⟨_, rfl⟩
 have hale := fun (W : World) (hk : Below w.heap.size w W) => jGz (((h.next hk).thd).wide (D' := LtN W) fun b hb => hb.1.1) hs
 rw [hTO, hal] at hale
 go_enter_defers func18, ntmps18
 go_wp2_with (first
  | go_skip
  | ((with_reducible refine wGz rfl 91 _ rfl (.pointer (some ⟨B, 0, none⟩)) rfl rfl ?_); intro V W1 hNV hV hk; change Blk W1 V (ptV B) _ at hV; replace hB := hB.next hk; have hVB : Hid (B ≠ V) := (by have := hNV.out; show B ≠ V; omega))
  | (with_reducible refine qaz (by kernel_rfl) _ _ rfl V _ rfl _ _ hV _ hv0 ga9 ?_)
  | (with_reducible refine qnz (by kernel_rfl) 46 _ rfl B 8 rfl 35 _ _ hB _ hTO (by rw [hz]; decide) _ underlying46 (by kernel_rfl) (by kernel_rfl) ?_)
  | (go_at_call 44; (with_reducible refine (hale _ hk).mono ?_); rintro e w2 ⟨T1, rfl, hT1, hb2⟩; have hn2 : Hid (B < _) := hB.lt; have hz2 : Hid (w.heap.size ≤ _) := hk.size; replace hB := hB.next hb2; replace hV := hV.next hb2; replace hk := btz hk hb2; have z1 := hT1.size)
  | ((with_reducible refine qcz rfl 46 rfl zT xsz ?_); intro A W3 hNA hA hk3; have hAne : Hid (B ≠ A ∧ V ≠ A ∧ w2.heap.size ≤ A ∧ w.heap.size ≤ A) := (by have := hNA.out; have := hB.lt; have := hV.lt; have := hk.size; exact ⟨by omega, by omega, by omega, by omega⟩); replace hB := hB.next hk3; replace hV := hV.next hk3; replace hk := btz hk hk3)
  | ((with_reducible refine qbz rfl _ _ _ rfl A rfl T1 rfl zT hA (qMz z1) (wEz.trans z1.symm) hT1.one ?_); intro W4 hA4 o4; clear hA; replace hB := hB.other o4 hAne.out.1; replace hV := hV.other o4 hAne.out.2.1; replace hk := o4.below _ _ hAne.out.2.2.2 hk; replace hT1 := (hT1.laterK (w' := W4) fun b hb => (o4.block b (by have := hb.2; have := hAne.out.2.2.1; omega)).trans (hk3.block b hb.2)).wide (D' := Ez Z B W4) fun b hb => (by have h1 := hb.1; have h2 := hb.2; have h3 := o4.size; have h4 := hk3.size; have h5 := hn2.out; exact ⟨⟨by omega, by omega⟩, fun q => by have h6 := h.zlt b q; have h7 := hz2.out; omega⟩)))
 have hV4 := hV
 have hk0 := hk.trans ((Below.refl W4.heap.size W4).drew.mono hk.size)
 refine PgM.region_out (S := fun W => Blk W V (ptV B) 91) hmx (hV.next (Below.refl _ _).drew) (fun hS => ?_)
 generalize W4.drew = v0 at hS hk0 ⊢
 refine vqz 2 #[true, true, true, false, false] (fun AA W => AA = { tmps := #[.pointer (some ⟨B, 0, none⟩), .pointer (some ⟨V, 0, none⟩), .int .i64 (-1), .pointer (some ⟨A, 0, none⟩), .bool false, .func (.func 43) #[] #[.pointer (some ⟨V, 0, none⟩)], .tuple #[.agg T1, .bool false], .pointer (some ⟨B, 0, none⟩), .pointer (some ⟨B, 0, none⟩), .pointer (some ⟨B, 0, none⟩), .pointer (some ⟨B, 8, none⟩), .agg TO, .tuple #[.agg T1, .bool false], .agg T1, .bool false, .bool false, undef, undef, undef, undef, undef, undef, .pointer (some ⟨B, 0, none⟩), .pointer (some ⟨B, 0, none⟩), .agg CV, undef], defers := [{ target := .fn (.func 43) #[.pointer (some ⟨V, 0, none⟩)], args := #[] }] } ∧ Blk W V (ptV B) 91 ∧ Below w.heap.size w W) ?_ (fun rest => ?_)
 rotate_left
 refine qYz (i := 0) (j := 1) (n := 4) rfl (by kernel_rfl) ?_ ?_
 ·refine qBz (ty := 91) (b := V) (off := 0) (v := .pointer (some ⟨B, 0, none⟩)) (d := some 22) (by kernel_rfl) (qIz hS hv0 ga9) ?_
  refine ⟨hS, ?_⟩
  refine qjz (i := 1) (n := 3) rfl (by kernel_rfl) ?_
  refine qBz (ty := 91) (b := V) (off := 0) (v := .pointer (some ⟨B, 0, none⟩)) (d := some 23) (by kernel_rfl) (qIz hS hv0 ga9) ?_
  refine ⟨hS, ?_⟩
  refine qjz (i := 2) (n := 2) rfl (by kernel_rfl) ?_
  refine qpz (f := 46) (vs := [.pointer (some ⟨B, 0, none⟩)]) (d := some 24) (by kernel_rfl) call46 (hf _ hk0) ?_
  rintro e w5 ⟨rfl, hb5⟩
  have hS5 := hS.next hb5
  refine ⟨_, rfl, hS5, ?_⟩
  exact rest _ _ ⟨rfl, hS5, btz hk0 hb5⟩
 ·refine qBz (ty := 91) (b := V) (off := 0) (v := .pointer (some ⟨B, 0, none⟩)) (d := some 23) (by kernel_rfl) (qIz hS hv0 ga9) ?_
  refine ⟨hS, ?_⟩
  refine qYz (i := 0) (j := 2) (n := 3) rfl (by kernel_rfl) ?_ ?_
  ·refine qBz (ty := 91) (b := V) (off := 0) (v := .pointer (some ⟨B, 0, none⟩)) (d := some 22) (by kernel_rfl) (qIz hS hv0 ga9) ?_
   refine ⟨hS, ?_⟩
   refine qjz (i := 2) (n := 2) rfl (by kernel_rfl) ?_
   refine qpz (f := 46) (vs := [.pointer (some ⟨B, 0, none⟩)]) (d := some 24) (by kernel_rfl) call46 (hf _ hk0) ?_
   rintro e w5 ⟨rfl, hb5⟩
   have hS5 := hS.next hb5
   refine ⟨_, rfl, hS5, ?_⟩
   exact rest _ _ ⟨rfl, hS5, btz hk0 hb5⟩
  ·refine qpz (f := 46) (vs := [.pointer (some ⟨B, 0, none⟩)]) (d := some 24) (by kernel_rfl) call46 (hf _ hk0) ?_
   rintro e w5 ⟨rfl, hb5⟩
   have hS5 := hS.next hb5
   refine ⟨_, rfl, hS5, ?_⟩
   refine qjz (i := 0) (n := 2) rfl (by kernel_rfl) ?_
   refine qBz (ty := 91) (b := V) (off := 0) (v := .pointer (some ⟨B, 0, none⟩)) (d := some 22) (by kernel_rfl) (qIz hS5 hv0 ga9) ?_
   refine ⟨hS5, ?_⟩
   exact rest _ _ ⟨rfl, hS5, btz hk0 hb5⟩
 rintro AA W5 ⟨rfl, hS5, hk5⟩
 refine qjz (i := 3) (n := 1) rfl (by kernel_rfl) ?_
 refine wVz (f := 45) (vs := [.pointer (some ⟨B, 0, none⟩), .agg CV]) (d := some 25) (by kernel_rfl) call45 (hd _ hk5) ?_
 rintro e w6 ⟨rfl, hb6⟩
 refine .inr ⟨_, rfl, ?_⟩
 have hk6 := btz hk5 hb6
 dsimp only [thrF]
 refine leaves_cons (f := 43) (args := #[.pointer (some ⟨V, 0, none⟩)]) (by simp) (by simp [go_sem]) ?_
 refine (ydz (h.next hk6) (hS5.next hb6) hs).mono ?_
 rintro e u' w'' ⟨rfl, rfl, F6, hP, hO⟩
 exact ⟨_, results_tmp results18 _ _ _, rfl, F6, hP, (Ot.of hk6 hBl).trans hO⟩
theorem turn_ok {nn : Int} {CV : Array Value} {x2 : Ob} {X2 : List Ob} (h : Pz Z w B F x t ke ro ao n cap X) (hs : SmT x.th) (hal : alB x.th = false) (hf : ∀ W, Below w.heap.size w W → Calls prog 46 #[.pointer (some ⟨B, 0, none⟩)] W fun e w' => e = .returned (.agg CV) ∧ Below W.heap.size W w') (hd : ∀ W, Below w.heap.size w W → Calls prog 45 #[.pointer (some ⟨B, 0, none⟩), .agg CV] W fun e w' => e = .returned (.int .i64 nn) ∧ ∃ F' ao2 n2 cap2, Pz Z w' B F' x2 t ke ro ao2 n2 cap2 X2 ∧ Ot B W w') : Calls prog 18 #[.pointer (some ⟨B, 0, none⟩)] w fun e w' => e = .returned (.int .i64 nn) ∧ ∃ F' ao2 n2 cap2, Pz Z w' B F' x2 t ke ro ao2 n2 cap2 X2 ∧ Ot B w w' := by
 have hmf : ∀ (fn : Fn) (first cap : Array Value) (w : World), (Instr.makeFunc fn first cap).run prog w = .ok (.func fn first cap) w := fun _ _ _ _ => rfl
 have hmx : prog.follows .mixedOrders = true := by kernel_rfl
 have ga9 := isAgg91
 have hz := h.size
 have hBl := h.blk.lt
 have hB := h.blk
 have hv0 : (ptV B)[0]? = some (.pointer (some ⟨B, 0, none⟩)) := rfl
 obtain ⟨TO, hTO⟩ : ∃ TO, F.extract 8 (8 + 35) = TO := ⟨_, rfl⟩
 have hale := fun (W : World) (hk : Below w.heap.size w W) => jGz (((h.next hk).thd).wide (D' := LtN W) fun b hb => hb.1.1) hs
 rw [hTO, hal] at hale
 go_enter_defers func18, ntmps18
 go_wp2_with (first
  | go_skip
  | ((with_reducible refine wGz rfl 91 _ rfl (.pointer (some ⟨B, 0, none⟩)) rfl rfl ?_); intro V W1 hNV hV hk; change Blk W1 V (ptV B) _ at hV; replace hB := hB.next hk; have hVB : Hid (B ≠ V) := (by have := hNV.out; show B ≠ V; omega))
  | (with_reducible refine qaz (by kernel_rfl) _ _ rfl V _ rfl _ _ hV _ hv0 ga9 ?_)
  | (with_reducible refine qnz (by kernel_rfl) 46 _ rfl B 8 rfl 35 _ _ hB _ hTO (by rw [hz]; decide) _ underlying46 (by kernel_rfl) (by kernel_rfl) ?_)
  | (go_at_call 44; (with_reducible refine (hale _ hk).mono ?_); rintro e w2 ⟨T1, rfl, hT1, hb2⟩; have hn2 : Hid (B < _) := hB.lt; have hz2 : Hid (w.heap.size ≤ _) := hk.size; replace hB := hB.next hb2; replace hV := hV.next hb2; replace hk := btz hk hb2; have z1 := hT1.size)
  | ((with_reducible refine qcz rfl 46 rfl zT xsz ?_); intro A W3 hNA hA hk3; have hAne : Hid (B ≠ A ∧ V ≠ A ∧ w2.heap.size ≤ A ∧ w.heap.size ≤ A) := (by have := hNA.out; have := hB.lt; have := hV.lt; have := hk.size; exact ⟨by omega, by omega, by omega, by omega⟩); replace hB := hB.next hk3; replace hV := hV.next hk3; replace hk := btz hk hk3)
  | ((with_reducible refine qbz rfl _ _ _ rfl A rfl T1 rfl zT hA (qMz z1) (wEz.trans z1.symm) hT1.one ?_); intro W4 hA4 o4; clear hA; replace hB := hB.other o4 hAne.out.1; replace hV := hV.other o4 hAne.out.2.1; replace hk := o4.below _ _ hAne.out.2.2.2 hk; replace hT1 := (hT1.laterK (w' := W4) fun b hb => (o4.block b (by have := hb.2; have := hAne.out.2.2.1; omega)).trans (hk3.block b hb.2)).wide (D' := Ez Z B W4) fun b hb => (by have h1 := hb.1; have h2 := hb.2; have h3 := o4.size; have h4 := hk3.size; have h5 := hn2.out; exact ⟨⟨by omega, by omega⟩, fun q => by have h6 := h.zlt b q; have h7 := hz2.out; omega⟩)))
 have hV4 := hV
 have hk0 := hk.trans ((Below.refl W4.heap.size W4).drew.mono hk.size)
 refine PgM.region_out (S := fun W => Blk W V (ptV B) 91) hmx (hV.next (Below.refl _ _).drew) (fun hS => ?_)
 generalize W4.drew = v0 at hS hk0 ⊢
 refine vqz 2 #[true, true, true, false, false] (fun AA W => AA = { tmps := #[.pointer (some ⟨B, 0, none⟩), .pointer (some ⟨V, 0, none⟩), .int .i64 (-1), .pointer (some ⟨A, 0, none⟩), .bool false, .func (.func 43) #[] #[.pointer (some ⟨V, 0, none⟩)], .tuple #[.agg T1, .bool false], .pointer (some ⟨B, 0, none⟩), .pointer (some ⟨B, 0, none⟩), .pointer (some ⟨B, 0, none⟩), .pointer (some ⟨B, 8, none⟩), .agg TO, .tuple #[.agg T1, .bool false], .agg T1, .bool false, .bool false, undef, undef, undef, undef, undef, undef, .pointer (some ⟨B, 0, none⟩), .pointer (some ⟨B, 0, none⟩), .agg CV, undef], defers := [{ target := .fn (.func 43) #[.pointer (some ⟨V, 0, none⟩)], args := #[] }] } ∧ Blk W V (ptV B) 91 ∧ Below w.heap.size w W) ?_ (fun rest => ?_)
 rotate_left
 refine qYz (i := 0) (j := 1) (n := 4) rfl (by kernel_rfl) ?_ ?_
 ·refine qBz (ty := 91) (b := V) (off := 0) (v := .pointer (some ⟨B, 0, none⟩)) (d := some 22) (by kernel_rfl) (qIz hS hv0 ga9) ?_
  refine ⟨hS, ?_⟩
  refine qjz (i := 1) (n := 3) rfl (by kernel_rfl) ?_
  refine qBz (ty := 91) (b := V) (off := 0) (v := .pointer (some ⟨B, 0, none⟩)) (d := some 23) (by kernel_rfl) (qIz hS hv0 ga9) ?_
  refine ⟨hS, ?_⟩
  refine qjz (i := 2) (n := 2) rfl (by kernel_rfl) ?_
  refine qpz (f := 46) (vs := [.pointer (some ⟨B, 0, none⟩)]) (d := some 24) (by kernel_rfl) call46 (hf _ hk0) ?_
  rintro e w5 ⟨rfl, hb5⟩
  have hS5 := hS.next hb5
  refine ⟨_, rfl, hS5, ?_⟩
  exact rest _ _ ⟨rfl, hS5, btz hk0 hb5⟩
 ·refine qBz (ty := 91) (b := V) (off := 0) (v := .pointer (some ⟨B, 0, none⟩)) (d := some 23) (by kernel_rfl) (qIz hS hv0 ga9) ?_
  refine ⟨hS, ?_⟩
  refine qYz (i := 0) (j := 2) (n := 3) rfl (by kernel_rfl) ?_ ?_
  ·refine qBz (ty := 91) (b := V) (off := 0) (v := .pointer (some ⟨B, 0, none⟩)) (d := some 22) (by kernel_rfl) (qIz hS hv0 ga9) ?_
   refine ⟨hS, ?_⟩
   refine qjz (i := 2) (n := 2) rfl (by kernel_rfl) ?_
   refine qpz (f := 46) (vs := [.pointer (some ⟨B, 0, none⟩)]) (d := some 24) (by kernel_rfl) call46 (hf _ hk0) ?_
   rintro e w5 ⟨rfl, hb5⟩
   have hS5 := hS.next hb5
   refine ⟨_, rfl, hS5, ?_⟩
   exact rest _ _ ⟨rfl, hS5, btz hk0 hb5⟩
  ·refine qpz (f := 46) (vs := [.pointer (some ⟨B, 0, none⟩)]) (d := some 24) (by kernel_rfl) call46 (hf _ hk0) ?_
   rintro e w5 ⟨rfl, hb5⟩
   have hS5 := hS.next hb5
   refine ⟨_, rfl, hS5, ?_⟩
   refine qjz (i := 0) (n := 2) rfl (by kernel_rfl) ?_
   refine qBz (ty := 91) (b := V) (off := 0) (v := .pointer (some ⟨B, 0, none⟩)) (d := some 22) (by kernel_rfl) (qIz hS5 hv0 ga9) ?_
   refine ⟨hS5, ?_⟩
   exact rest _ _ ⟨rfl, hS5, btz hk0 hb5⟩
 rintro AA W5 ⟨rfl, hS5, hk5⟩
 refine qjz (i := 3) (n := 1) rfl (by kernel_rfl) ?_
 refine qpz (f := 45) (vs := [.pointer (some ⟨B, 0, none⟩), .agg CV]) (d := some 25) (by kernel_rfl) call45 (hd _ hk5) ?_
 rintro e w6 ⟨rfl, F6, ao2, n2, cap2, hP, hO⟩
 have hS6 : Blk w6 V (ptV B) 91 := (hO.oth V hS5.lt hVB.out.symm).trans hS5
 refine ⟨_, rfl, hS6, ?_⟩
 refine qjz (i := 4) (n := 0) rfl (by kernel_rfl) ?_
 refine yoz (v := .int .i64 nn) (d := some 2) (by kernel_rfl) ?_
 refine ⟨hS6, ?_⟩
 refine wpAnyH_done (by kernel_rfl) ?_ _
 go_wp2
 refine leaves_cons (f := 43) (args := #[.pointer (some ⟨V, 0, none⟩)]) (by simp) (by simp [go_sem]) ?_
 refine (kMz ⟨V, 0, none⟩ _).mono ?_
 rintro e u' w'' ⟨rfl, rfl, rfl⟩
 exact ⟨_, results_tmp results18 _ _ _, rfl, F6, ao2, n2, cap2, hP, (Ot.of hk5 hBl).trans hO⟩
end
end Go.Proofs.YtdeddhojjolihaaGreat
