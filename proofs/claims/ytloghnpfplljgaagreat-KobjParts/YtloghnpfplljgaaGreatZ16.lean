/-
 PROVED HERE: how a map from words to where an object lies is asked and changed; what a view's ownNumbers returns when it is. What is asked stands at each.
-/
import Derived.Defers
import Derived.Recover
import Derived.Laws.Pointers
import Derived.WalkSmall
import Derived.Laws.EntriesVeiled
import Derived.Test.YtloghnpfplljgaaGreatZ5
import Derived.Test.YtloghnpfplljgaaGreatZ8
import Derived.Test.YtloghnpfplljgaaGreatZ9
import Derived.Test.YtloghnpfplljgaaGreatZ10
import Derived.Test.YtloghnpfplljgaaGreatZ11
import Derived.Test.YtloghnpfplljgaaGreatZ15
namespace Go.Proofs.YtloghnpfplljgaaGreat
set_option maxRecDepth 100000
set_option maxHeartbeats 8000000
set_option linter.unusedVariables false
open Go.Proofs.Tryz
section
open Go.RowKit Go.Shelf
attribute [local go_sem] Oper.semAt_some
abbrev Hl := List (Int × (Int × Int))
def hv (p : Int × Int) : Value := .agg #[.int .i64 p.1, .int .u64 p.2]
def lkH (k : Int) : Hl → Int × Int
 | [] => (0, 0)
 | p :: l => if p.1 = k then p.2 else lkH k l
def kv (e : MapEntry) : Value × Value := (e.key, e.val)
def ekv (p : Int × (Int × Int)) : Value × Value := (.int .u64 p.1, hv p.2)
def MapF (W : World) (M : Nat) (f : Int → Int × Int) : Prop := ∃ (es : Array MapEntry) (c : Nat) (l : Hl), W.heap[M]? = some (.map es c) ∧ es.toList.map kv = l.map ekv ∧ ∀ k, lkH k l = f k
variable {f : Int → Int × Int}
theorem MapF.lt {W : World} {M : Nat} (h : MapF W M f) : M < W.heap.size := by
 obtain ⟨es, c, l, h1, _⟩ := h
 exact (Array.getElem?_eq_some_iff.1 h1).1
theorem MapF.block {W W' : World} {M : Nat} (h : MapF W M f) (k : W'.heap[M]? = W.heap[M]?) : MapF W' M f := by
 obtain ⟨es, c, l, h1, h2⟩ := h
 exact ⟨es, c, l, k.trans h1, h2⟩
theorem MapF.next {W W' : World} {M : Nat} (h : MapF W M f) (k : Below W.heap.size W W') : MapF W' M f := h.block (k.block M h.lt)
def WdO (x : Ob) : Prop := (0 ≤ x.id ∧ x.id < 18446744073709551616) ∧ (0 ≤ x.th.lo ∧ x.th.lo < 18446744073709551616) ∧ (0 ≤ x.th.hi ∧ x.th.hi < 18446744073709551616)
end
section
open Go.ChangeShapes Go.WideShapes Go.ChangeAt Go.RowKit
section
variable {H : Type} {enc : TypeId × Value → H} {w : World} {m : Nat} {y : DataW H × List MemPlace}
theorem vTz {cs : List Value} {o : Nat} {t : TypeId} {k : IntKind} (ho : o < cs.length) (hc : prog.cellsOf t = 1) (hu : prog.underlying t = some (.int k)) (h : DataW.trod enc prog w 0 (fun _ => true) true m t ((cs.drop o).take (prog.cellsOf t)) = some y) : ∃ n, cs[o]? = some (.int k n) ∧ (Lit.int k n).wf = true := by
 rw [hc, krz ho] at h
 obtain ⟨n, e, _, hw⟩ := DataW.trod_int hu h
 simp at e
 exact ⟨n, by rw [List.getElem?_eq_getElem ho, e], hw⟩
theorem vkz {a : Int} (h : (Lit.int .u64 a).wf = true) : 0 ≤ a ∧ a < 18446744073709551616 := by
 simp [Lit.wf, IntKind.min, IntKind.max, IntKind.bits, IntKind.signed] at h
 omega
theorem span_wf {cs : List Value} (h : DataW.trod enc prog w 0 (fun _ => true) true m 48 cs = some y) : ∃ a b, cs[0]? = some (.int .u64 a) ∧ cs[1]? = some (.int .u64 b) ∧ (0 ≤ a ∧ a < 18446744073709551616) ∧ (0 ≤ b ∧ b < 18446744073709551616) := by
 obtain ⟨xs, m', _, _, hl, hx, hg⟩ := DataW.trod_struct underlying48 h
 rw [show prog.cellsOf 48 = 2 from by kernel_rfl] at hl
 obtain ⟨y0, y1, rfl⟩ : ∃ y0 y1, xs = [y0, y1] := by
  match xs, hx with
  | [y0, y1], _ => exact ⟨y0, y1, rfl⟩
 have t0 : DataW.trod enc prog w 0 (fun _ => true) true m' 22 ((cs.drop 0).take (prog.cellsOf 22)) = some y0 := hg 0 _ rfl
 have t1 : DataW.trod enc prog w 0 (fun _ => true) true m' 22 ((cs.drop 1).take (prog.cellsOf 22)) = some y1 := hg 1 _ rfl
 obtain ⟨a, ea, wa⟩ := vTz (o := 0) (by rw [hl]; omega) (by kernel_rfl) underlying22 t0
 obtain ⟨b, eb, wb⟩ := vTz (o := 1) (by rw [hl]; omega) (by kernel_rfl) underlying22 t1
 exact ⟨a, b, ea, eb, vkz wa, vkz wb⟩
theorem v7z {cs : List Value} {x : Ob} {D : Nat → Prop} (h : DataW.trod enc prog w 0 (fun _ => true) true m 55 cs = some y) (hx : ObD D w cs.toArray x) : WdO x := by
 obtain ⟨xs, m', _, _, hl, hxs, hg⟩ := DataW.trod_struct underlying55 h
 rw [show prog.cellsOf 55 = 51 from by kernel_rfl] at hl
 obtain ⟨y0, y1, y2, y3, y4, y5, y6, y7, y8, y9, y10, y11, rfl⟩ : ∃ y0 y1 y2 y3 y4 y5 y6 y7 y8 y9 y10 y11, xs = [y0, y1, y2, y3, y4, y5, y6, y7, y8, y9, y10, y11] := by
  match xs, hxs with
  | [y0, y1, y2, y3, y4, y5, y6, y7, y8, y9, y10, y11], _ => exact ⟨y0, y1, y2, y3, y4, y5, y6, y7, y8, y9, y10, y11, rfl⟩
 have t0 : DataW.trod enc prog w 0 (fun _ => true) true m' 22 ((cs.drop 0).take (prog.cellsOf 22)) = some y0 := hg 0 _ rfl
 obtain ⟨id, eid, wid⟩ := vTz (o := 0) (by rw [hl]; omega) (by kernel_rfl) underlying22 t0
 have t8 : DataW.trod enc prog w 0 (fun _ => true) true m' 51 ((cs.drop 8).take (prog.cellsOf 51)) = some y8 := hg 8 _ rfl
 rw [show prog.cellsOf 51 = 35 from by kernel_rfl] at t8
 obtain ⟨zs, m2, _, _, hl2, hzs, hg2⟩ := DataW.trod_struct underlying51 t8
 obtain ⟨z0, z1, z2, z3, z4, z5, z6, z7, z8, z9, z10, rfl⟩ : ∃ z0 z1 z2 z3 z4 z5 z6 z7 z8 z9 z10, zs = [z0, z1, z2, z3, z4, z5, z6, z7, z8, z9, z10] := by
  match zs, hzs with
  | [z0, z1, z2, z3, z4, z5, z6, z7, z8, z9, z10], _ => exact ⟨z0, z1, z2, z3, z4, z5, z6, z7, z8, z9, z10, rfl⟩
 have t9 : DataW.trod enc prog w 0 (fun _ => true) true m2 48 ((((cs.drop 8).take 35).drop 29).take (prog.cellsOf 48)) = some z9 := hg2 9 _ rfl
 rw [show prog.cellsOf 48 = 2 from by kernel_rfl] at t9
 obtain ⟨a, b, ea, eb, wa, wb⟩ := span_wf t9
 have c0 : (((((cs.drop 8).take 35).drop 29).take 2)[0]?) = cs[37]? := by simp [List.getElem?_drop]
 have c1 : (((((cs.drop 8).take 35).drop 29).take 2)[1]?) = cs[38]? := by simp [List.getElem?_drop]
 rw [c0] at ea
 rw [c1] at eb
 have i1 : cs[0]? = some (.int .u64 x.id) := by simpa using hx.id
 have i2 : cs[37]? = some (.int .u64 x.th.lo) := by simpa using hx.th.lo
 have i3 : cs[38]? = some (.int .u64 x.th.hi) := by simpa using hx.th.hi
 rw [i1] at eid
 rw [i2] at ea
 rw [i3] at eb
 cases eid
 cases ea
 cases eb
 exact ⟨vkz wid, wa, wb⟩
theorem vGz {ao : Option Addr} {n cap : Nat} {d : DataW H} {ps : List MemPlace} (h : DataW.Trod enc prog w 0 (fun _ => true) true 23 (.slice ao n cap) d ps) : ∃ l, Obs w ao n cap l ∧ ∀ x ∈ l, WdO x := by
 obtain ⟨fuel, hf⟩ := h
 have c51 : prog.cellsOf 55 = 51 := by kernel_rfl
 rcases Go.Deep.open_slice underlying23 hf with ⟨e, _⟩ | ⟨a, len, cap', m, n', D, Pl, e, hb, hl, hm, hmm, hdd, hx⟩
 ·simp [Value.cells] at e
  obtain ⟨rfl, rfl, rfl⟩ := e
  exact ⟨[], ObsD.nil _ _ _, fun x hx => absurd hx (by simp)⟩
 ·simp [Value.cells] at e
  obtain ⟨rfl, rfl, rfl⟩ := e
  have hmc : m = cap := by rw [hmm]; rfl
  have key : ∀ i, ∃ (x : Ob) (C : Array Value), i < n → (ObD (LtN w) w C x ∧ WdO x) ∧ ∀ j v, C[j]? = some v → w.cell? ((a.add (i * 51)).add j) = some v := by
   intro i
   by_cases hi : i < n
   ·obtain ⟨cs, h1, h2⟩ := hx i (by omega)
    rw [c51] at h1
    obtain ⟨_, hlen, hcell⟩ := World.cells?_some h1
    obtain ⟨x, hxx⟩ := yrz h2
    refine ⟨x, cs.toArray, fun _ => ⟨⟨hxx, v7z h2 hxx⟩, fun j v hv => ?_⟩⟩
    have hv' : cs[j]? = some v := by simpa using hv
    have hj : j < 51 := by rw [← hlen]; exact (List.getElem?_eq_some_iff.1 hv').1
    rw [hcell j hj, hv']
   ·exact ⟨zOb, #[], fun h => absurd h hi⟩
  have hkey : ∀ i, i < n → ∃ C, (ObD (LtN w) w C (Classical.choose (key i)) ∧ WdO (Classical.choose (key i))) ∧ ∀ j v, C[j]? = some v → w.cell? ((a.add (i * 51)).add j) = some v := fun i hi => by
   obtain ⟨C, hC⟩ := Classical.choose_spec (key i)
   exact ⟨C, hC hi⟩
  refine ⟨(List.range n).map fun i => Classical.choose (key i), ⟨by simp, hl, ⟨by unfold maxLen at hm; omega, fun e => by cases e⟩, fun hn => ?_⟩, fun x hx => ?_⟩
  ·obtain ⟨v0, z⟩ : ∃ v0, w.cell? ((a.add (0 * 51)).add 0) = some v0 := by
    obtain ⟨C, hC, hr⟩ := hkey 0 hn
    exact ⟨_, hr 0 _ hC.1.id⟩
   have ha0 : (a.add (0 * 51)).add 0 = a := by simp [Addr.add]
   rw [ha0] at z
   obtain ⟨hea, hadd⟩ := PgM.spotK z
   refine ⟨a.block, a.off, by rw [← hea], World.block_lt_of_cell? w _ z, fun i hi => ?_⟩
   have hg : oat ((List.range n).map fun i => Classical.choose (key i)) i = Classical.choose (key i) := by
    unfold oat; rw [List.getD_eq_getElem?_getD, List.getElem?_eq_getElem (by simpa using hi)]; simp
   obtain ⟨C, hC, hr⟩ := hkey i hi
   refine ⟨C, by rw [hg]; exact hC.1, fun j v hv => ?_⟩
   have q := hr j v (by simpa using hv)
   rw [hadd, Addr.add_mid] at q
   exact q
  ·obtain ⟨i, hi, rfl⟩ := List.mem_map.1 hx
   obtain ⟨C, hC, _⟩ := hkey i (List.mem_range.1 hi)
   exact hC.2
theorem jaz {base : Nat} {v : Value} {d : DataW H} {ps : List MemPlace} (hv : Value.okWide prog w .any base 25 v)
  (h : DataW.Trod enc prog w 0 (fun _ => true) true 25 v d ps) : ∃ (t : Int) (ke : Nat) (ro : Int) (ao : Option Addr) (n cap : Nat) (X : List Ob), v = .agg #[.int .i64 t, .int .u64 (ke : Int), .int .u64 ro, .slice ao n cap] ∧ (Obs w ao n cap X ∧ ∀ x ∈ X, WdO x) := by
 unfold Value.okWide at hv
 rw [underlying25] at hv
 obtain ⟨cs, rfl, hs, _⟩ := hv
 rw [show prog.cellsOf 25 = 4 from by kernel_rfl] at hs
 obtain ⟨fuel, hf⟩ := h
 obtain ⟨x0, x1, x2, x3, rfl⟩ : ∃ x0 x1 x2 x3, cs = #[x0, x1, x2, x3] := by
  match cs, hs with
  | ⟨[x0, x1, x2, x3]⟩, _ => exact ⟨x0, x1, x2, x3, rfl⟩
 have hf' : DataW.trod enc prog w 0 (fun _ => true) true fuel 25 [x0, x1, x2, x3] = some (d, ps) := hf
 obtain ⟨xs, m', _, _, hl, hx, hg⟩ := DataW.trod_struct underlying25 hf'
 obtain ⟨y0, y1, y2, y3, rfl⟩ : ∃ y0 y1 y2 y3, xs = [y0, y1, y2, y3] := by
  match xs, hx with
  | [y0, y1, y2, y3], _ => exact ⟨y0, y1, y2, y3, rfl⟩
 obtain ⟨t, et⟩ := w5z (t := 3) (o := 0) (y := y0) (by simp) (by kernel_rfl) underlying3 (hg 0 _ rfl)
 obtain ⟨ke, eke, wke⟩ := vTz (t := 22) (o := 1) (y := y1) (by simp) (by kernel_rfl) underlying22 (hg 1 _ rfl)
 obtain ⟨ro, ero⟩ := w5z (t := 22) (o := 2) (y := y2) (by simp) (by kernel_rfl) underlying22 (hg 2 _ rfl)
 obtain ⟨ao, n, cap, ea, hT⟩ := j2z (t := 23) (o := 3) (y := y3) (by simp) (by kernel_rfl) underlying23 (hg 3 _ rfl)
 obtain ⟨X, hX, hW⟩ := vGz hT
 have hk := vkz wke
 obtain ⟨kn, rfl⟩ : ∃ kn : Nat, ke = kn := ⟨ke.toNat, by omega⟩
 simp at et eke ero ea
 subst et eke ero ea
 exact ⟨t, kn, ro, ao, n, cap, X, rfl, hX, hW⟩
end
section
variable {H : Type} {enc : TypeId × Value → H} {w : World}
theorem v2z {base : Nat} {v : Value} {d : DataW H} {ps : List MemPlace} (hv : Value.okWide prog w .any base 27 v)
  (h : DataW.Trod enc prog w 0 (fun _ => true) true 27 v d ps) : ∃ (p q r s u f z : Nat), v = .agg #[.int .u64 (p : Int), .int .u64 (q : Int), .int .u64 (r : Int), .int .u64 (s : Int), .int .u64 (u : Int), .int .u64 (f : Int), .int .u64 (z : Int)] ∧ (q < 18446744073709551616 ∧ r < 18446744073709551616) := by
 unfold Value.okWide at hv
 rw [underlying27] at hv
 obtain ⟨cs, rfl, hs, _⟩ := hv
 rw [show prog.cellsOf 27 = 7 from by kernel_rfl] at hs
 obtain ⟨fuel, hf⟩ := h
 obtain ⟨x0, x1, x2, x3, x4, x5, x6, rfl⟩ : ∃ x0 x1 x2 x3 x4 x5 x6, cs = #[x0, x1, x2, x3, x4, x5, x6] := by
  match cs, hs with
  | ⟨[x0, x1, x2, x3, x4, x5, x6]⟩, _ => exact ⟨x0, x1, x2, x3, x4, x5, x6, rfl⟩
 have hf' : DataW.trod enc prog w 0 (fun _ => true) true fuel 27 [x0, x1, x2, x3, x4, x5, x6] = some (d, ps) := hf
 obtain ⟨xs, m', _, _, hl, hx, hg⟩ := DataW.trod_array underlying27 hf'
 have key : ∀ i, i < 7 → ∃ n : Nat, [x0, x1, x2, x3, x4, x5, x6][i]? = some (.int .u64 (n : Int)) ∧ n < 18446744073709551616 := by
  intro i hi
  have q := hg i hi
  rw [List.getElem?_eq_getElem (by omega), show prog.cellsOf 22 = 1 from by kernel_rfl, Nat.mul_one] at q
  obtain ⟨n, e, hw⟩ := vTz (cs := [x0, x1, x2, x3, x4, x5, x6]) (t := 22) (o := i) (by simpa using hi) (by kernel_rfl) underlying22 (by rw [show prog.cellsOf 22 = 1 from by kernel_rfl]; exact q)
  have hb := vkz hw
  exact ⟨n.toNat, by rw [e, show ((n.toNat : Nat) : Int) = n by omega], by omega⟩
 obtain ⟨n0, e0, _⟩ := key 0 (by omega)
 obtain ⟨n1, e1, h1⟩ := key 1 (by omega)
 obtain ⟨n2, e2, h2⟩ := key 2 (by omega)
 obtain ⟨n3, e3, _⟩ := key 3 (by omega)
 obtain ⟨n4, e4, _⟩ := key 4 (by omega)
 obtain ⟨n5, e5, _⟩ := key 5 (by omega)
 obtain ⟨n6, e6, _⟩ := key 6 (by omega)
 cases e0
 cases e1
 cases e2
 cases e3
 cases e4
 cases e5
 cases e6
 exact ⟨n0, n1, n2, n3, n4, n5, n6, rfl, h1, h2⟩
end
end
section
def seeB (L : Lb) (x : Ob) : Bool := leqB (shoC x) (wsz L)
def chgB (L : Lb) (x : Ob) : Bool := seeB L x && leqB L x.label
def dirE (X : List Ob) (L : Lb) (i : Int) (wr : Bool) : Int := if (fnd X i).isSome = true ∧ (fO X i).kind = 2 ∧ seeB L (fO X i) = true then (if wr = true ∧ chgB L (fO X i) = false then 2 else 0) else 1
def resO (k : Int) (x : Ob) : Ob := if k = 0 then x else zOb
variable {X : List Ob} {wr : Bool}
theorem yCz {L : Lb} {i : Int} (h : ¬ ((fnd X i).isSome = true ∧ (fO X i).kind = 2 ∧ seeB L (fO X i) = true)) : dirE X L i wr = 1 := by unfold dirE; rw [if_neg h]
theorem dir_two {L : Lb} {i : Int} (h : (fnd X i).isSome = true ∧ (fO X i).kind = 2 ∧ seeB L (fO X i) = true) (k : wr = true ∧ chgB L (fO X i) = false) : dirE X L i wr = 2 := by unfold dirE; rw [if_pos h, if_pos k]
theorem dir_ok {L : Lb} {i : Int} (h : (fnd X i).isSome = true ∧ (fO X i).kind = 2 ∧ seeB L (fO X i) = true) (k : ¬ (wr = true ∧ chgB L (fO X i) = false)) : dirE X L i wr = 0 := by unfold dirE; rw [if_pos h, if_neg k]
end
section
open Go.RowKit Go.Shelf
attribute [local go_sem] Oper.semAt_some
theorem rhas_any {w : World} {al : Option Addr} {nl cl : Nat} {L : List Int} {i : Int} (h : CtD (LtN w) w al nl cl L) : Asks 40 #[.slice al nl cl, .int .u64 i] (i ∈ L) w := by
 have hn : Hid (L.length = nl) := h.1
 have hnc := h.2.1
 have hcm := h.2.2.1.1
 have ga1 := isAgg22
 unfold Asks
 go_enter func40, ntmps40
 go_wp2
 go_loopw [5] (fun j wr => ∃ k : Nat, k ≤ nl ∧ j = .int .i64 k ∧ Hid (∀ q, q < k → L.getD q 0 ≠ i) ∧ wr = w) (fun j _ => nl - (intOf j).toNat)
 case atStart => exact ⟨0, Nat.zero_le _, rfl, fun q hq => absurd hq (by omega), rfl⟩
 case round =>
  obtain ⟨k, hk, rfl, hal, rfl⟩ := hrel
  by_cases hkn : k < nl
  ·obtain ⟨b, off, rfl, hb, hc⟩ := vWz h hkn
   have hkn' : (k : Int) < nl := by omega
   go_wp2_with (first
    | (with_reducible refine qWz (by kernel_rfl) _ _ rfl b _ rfl _ hc ga1 ?_)
    | ((with_reducible refine qgz (by kernel_rfl) .eql _ _ _ _ rfl _ _ rfl rfl (qtz _ _ _ _ _ _) ?_ ?_) <;> intro hq))
   ·go_ret
    exact qpz (by rw [← hq.out]; exact umz (by rw [hn.out]; exact hkn)) (brz _ _)
   ·go_roundw
    case rel => exact ⟨k + 1, by omega, by go_num, wKz hal.out hq.out, trivial⟩
    case measure => simp [intOf]; omega
  ·obtain rfl : k = nl := by omega
   go_wp2
   go_ret
   have hq : Hid (¬ i ∈ L) := by
    refine (?_ : ¬ i ∈ L)
    intro e
    obtain ⟨j, hj, q⟩ := List.getElem_of_mem e
    have := hal.out j (by rw [← hn.out]; exact hj)
    rw [List.getD_eq_getElem?_getD, List.getElem?_eq_getElem hj] at this
    exact this q
   exact qjz hq (brz _ _) id
theorem buz {X : List Ob} {i : Int} {k : Nat} (h : k < X.length) : holL (X.take (k + 1)) i = holL (X.take k) i ++ (if i ∈ (oat X k).links then [(oat X k).id] else []) := by
 unfold holL
 rw [List.take_add_one, List.getElem?_eq_getElem h, qMz h, Option.toList_some, List.filter_append, List.map_append]
 congr 1
 by_cases q : i ∈ X[k].links
 ·rw [if_pos q, List.filter_cons_of_pos (by simpa using q)]; rfl
 ·rw [if_neg q, List.filter_cons_of_neg (by simpa using q)]; rfl
theorem gDz {v : Int} (w : World) : (Instr.buildSlice 40 1 #[(0, .int .u64 v)]).run prog w = .ok (.slice (some ⟨w.heap.size, 0, none⟩) 1 1) (w.alloc (.cells #[.int .u64 v] 22)) := by
 obtain ⟨i0, hi, hz0, hz1, hz2⟩ := info_parts u2z
 refine run_buildSlice w _ _ 1 _ _ i0 _ underlying40 hi hz0 (by rw [hz1]; omega) (by rw [hz1]; omega) ?_
 rw [hz1]
 have := Great.fill_whole (s := 1) (by omega) [.int .u64 v] ((Array.range (1 * 1)).map ((Value.int .u64 0).cells[· % (Value.int .u64 0).cells.size]!)) (by simp [Value.cells]) (by simp)
 simpa [Value.cells] using this
section
variable {ops : Array Oper} {rest : List Oper} {op : Oper} {a : Act} {Q : Exit → Act → World → Prop} {w : World}
theorem xZz (hgd : op.guard = none) (x : Operand) (ho : op.op = .buildSlice 40 1 #[(0, x)]) (v : Int) (hx : a.eval x = .int .u64 v)
  (h : ∀ B W, Hid (w.heap.size = B ∧ W.heap.size = B + 1) → Blk W B #[.int .u64 v] 22 → Below w.heap.size w W → wpList prog ops Q rest (a.put op.dst (.slice (some ⟨B, 0, none⟩) 1 1)) W) : wpList prog ops Q (op :: rest) a w :=
 wpList_plain hgd fun K hK => by
  have e : (#[(0, x)].map fun ((i : Nat), x) => (i, a.eval x)) = #[(0, Value.int .u64 v)] := by simp [hx]
  unfold Oper.wp execOp
  simp only [ho, e, Sem.run_bind, gDz, Result.andThen_ok]
  exact hK _ _ (h _ _ ⟨rfl, by simp⟩ (Blk.new w #[.int .u64 v] 22) ((brz _ w).alloc (lrz _) _))
end
theorem jLz {W : World} {B : Nat} {v : Int} (h : Blk W B #[.int .u64 v] 22) : RowC 1 (LtN W) W (some ⟨B, 0, none⟩) 1 1 [.int .u64 v] :=
 ⟨rfl, lrz _, ⟨by omega, fun e => by cases e⟩, fun _ => ⟨B, 0, rfl, h.lt, h.range0⟩⟩
variable {X : List Ob} {w : World}
theorem kfz {t ke ro : Int} {ao : Option Addr} {n cap : Nat} {i : Int} (h : Obs w ao n cap X) (hn16 : n ≤ 4096) : Calls prog 15 #[.agg #[.int .i64 t, .int .u64 ke, .int .u64 ro, .slice ao n cap], .int .u64 i] w fun e w' => ∃ v, e = .returned v ∧ w'.ownsRow w.heap.size 22 1 v (holL X i).length (qNz (holL X i)) ∧ Below w.heap.size w w' := by
 have hn : Hid (X.length = n) := h.1
 have hnc := h.2.1
 have hcm := h.2.2.1.1
 have ga1 := isAgg22
 have ga3 := isAgg23
 have ga4 := isAgg40
 have c3 : (#[.int .i64 t, .int .u64 ke, .int .u64 ro, .slice ao n cap] : Array Value)[3]? = some (.slice ao n cap) := rfl
 obtain ⟨G, hG⟩ : ∃ G : Array Value, G = #[.int .i64 t, .int .u64 ke, .int .u64 ro, .slice ao n cap] := ⟨_, rfl⟩
 rw [← hG] at c3
 rw [← hG]
 clear hG
 go_enter func15, ntmps15
 go_wp2_with (first
  | (with_reducible refine qcz rfl _ _ rfl G rfl ?_; intro B W hB hb hk))
 have hBl : Hid (w.heap.size = B ∧ W.heap.size = B + 1) := hB
 clear hB
 go_loopw [5, 6] (fun v j wr => ∃ k : Nat, k ≤ n ∧ j = .int .i64 k ∧ wr.ownsRow W.heap.size 22 1 v (holL (X.take k) i).length (qNz (holL (X.take k) i)) ∧ Below W.heap.size W wr) (fun _ j _ => n - (intOf j).toNat)
 case atStart => exact ⟨0, Nat.zero_le _, rfl, World.ownsRow_nil _ _ _ _, brz _ _⟩
 case round =>
  obtain ⟨k, hkn1, rfl, hown, hb0⟩ := hrel
  have hbw := btz hk hb0
  replace hb := hb.next hb0
  have hb0s := hb0.size
  by_cases hkn : k < n
  ·obtain ⟨b, off, C, rfl, hbb, hC, hr⟩ := w3z (qwz h hbw) hkn
   obtain ⟨al, nl, cl, c5, hLk⟩ := hC.links
   have hkn' : (k : Int) < n := by omega
   have hid : wr.cell? ⟨b, off + k * 51, none⟩ = some (.int .u64 (oat X k).id) := by simpa using hr 0 _ (by simpa using hC.id)
   have hlk : wr.cell? ⟨b, off + k * 51 + 5, none⟩ = some (.slice al nl cl) := hr 5 _ (by simpa using c5)
   have hidW : ∀ W, Below wr.heap.size wr W → W.cell? ⟨b, off + k * 51, none⟩ = some (.int .u64 (oat X k).id) := fun W q => (World.cell?_of_block (w := wr) (a := ⟨b, off + k * 51, none⟩) (q.block b hbb)).trans hid
   have hsu := buz (i := i) (show k < X.length by rw [hn.out]; exact hkn)
   have hl : (holL (X.take k) i).length ≤ k := by unfold holL; rw [List.length_map]; exact Nat.le_trans (List.length_filter_le ..) (by simp; omega)
   go_wp2_with (first
    | (with_reducible refine qaz (by kernel_rfl) _ _ rfl B _ rfl _ _ hb _ c3 ga3 ?_)
    | (with_reducible refine qWz (by kernel_rfl) _ _ rfl b _ rfl _ hlk ga4 ?_)
    | (go_at_call 40; (with_reducible refine (rhas_any hLk).on ?_ ?_) <;> (intro w1 hq hb1; replace hb := hb.next hb1; have hid1 := hidW _ hb1))
    | (with_reducible refine qWz (by kernel_rfl) _ _ rfl b _ rfl _ hid1 ga1 ?_)
    | ((with_reducible refine xZz rfl _ rfl (oat X k).id rfl ?_); intro Bq W8 hBq hbq hk8; have hown8 := xrz (xrz hown hb1) hk8)
    | (at_builtin; refine qOz u2z underlying40 rfl (by omega) rfl _ _ rfl W.heap.size _ _ _ rfl hown8 _ _ _ _ [.int .u64 (oat X k).id] rfl (jLz hbq) (fun u hu => by rw [List.mem_singleton] at hu; rw [hu]; rfl) (by unfold maxLen; omega) (by omega) (Nat.le_trans hb0s (Nat.le_trans hb1.size hk8.size)) ?_; intro v' w2 hown' hgrow))
   ·go_roundw
    case rel =>
     rw [if_pos hq.out] at hsu
     have hb2 : Below W.heap.size W w2 := ((hb0.trans (hb1.mono hb0s)).trans (hk8.mono (Nat.le_trans hb0s hb1.size))).grown hgrow (Nat.le_trans hb0s (Nat.le_trans hb1.size hk8.size)) (y1z hown8)
     refine ⟨k + 1, by omega, by go_num, ?_, hb2⟩
     rw [hsu, List.length_append]
     have e : qNz (holL (X.take k) i ++ [(oat X k).id]) = qNz (holL (X.take k) i) ++ [.int .u64 (oat X k).id] := by simp [qNz]
     rw [e]
     exact hown'
    case measure => simp [intOf]; omega
   ·go_roundw
    case rel =>
     rw [if_neg hq.out, List.append_nil] at hsu
     exact ⟨k + 1, by omega, by go_num, by rw [hsu]; exact xrz hown hb1, hb0.trans (hb1.mono hb0s)⟩
    case measure => simp [intOf]; omega
  ·obtain rfl : k = n := by omega
   go_wp2_with (first
    | (with_reducible refine qaz (by kernel_rfl) _ _ rfl B _ rfl _ _ hb _ c3 ga3 ?_))
   go_ret
   have ht : X.take k = X := by rw [← hn.out]; exact List.take_length
   rw [ht] at hown
   refine ⟨_, rfl, ⟨hown.1, ?_⟩, hbw⟩
   rcases hown.2 with q | ⟨g, c, cur, q1, q2, q3⟩
   ·exact .inl q
   ·exact .inr ⟨g, c, cur, q1, Nat.le_trans hk.size q2, q3⟩
def wfz (k : Int) : List PanicEntry := [{ v := .iface 31 (.int .i64 k), recovered := false }]
theorem xRz (k : Int) (w : World) : Calls prog 233 #[.bool true, .int .i64 k] w fun e w' => e = .returned (.tuple #[]) ∧ w = w' := by
 go_enter func233, ntmps233
 go_wp2
 go_end0
 exact ⟨rfl, rfl⟩
theorem kUz (k : Int) (w : World) : Calls prog 233 #[.bool false, .int .i64 k] w fun e w' => e = .panicked (wfz k) ∧ w = w' := by
 go_enter func233, ntmps233
 go_wp2
 exact ⟨rfl, rfl, rfl⟩
structure Tel (k : Int) (x : Ob) (w : World) (e : Ending) (w' : World) : Prop where
 yes : k = 0 → ∃ C, e = .returned (.agg C) ∧ ObD (New w w') w' C x
 no : k ≠ 0 → e = .panicked (wfz k)
 low : Below w.heap.size w w'
variable {x : Ob} {C : Array Value}
theorem Tel.told {k : Int} {w w' : World} (hk : k = 0) (h : ObD (New w w') w' C x) (hb : Below w.heap.size w w') : Tel k x w (.returned (.agg C)) w' := ⟨fun _ => ⟨C, rfl, h⟩, fun q => absurd hk q, hb⟩
theorem Tel.threw {k j : Int} {w w' : World} (hk : k = j) (hj : j ≠ 0) (hb : Below w.heap.size w w') : Tel k x w (.panicked (wfz j)) w' := by subst hk; exact ⟨fun q => absurd q hj, fun _ => rfl, hb⟩
structure Fd (F : Array Value) (t ke ro : Int) (ao : Option Addr) (n cap : Nat) (aL : Option Addr) (nL cL : Nat) : Prop where
 size : F.size = 55
 wld : F.extract 51 (51 + 4) = #[.int .i64 t, .int .u64 ke, .int .u64 ro, .slice ao n cap]
 lab : F[2]? = some (.slice aL nL cL)
 one : F.all (·.oneCell') = true
structure Fw (w : World) (F : Array Value) (L : Lb) (X : List Ob) : Prop where
 val : ∃ t ke ro ao n cap aL nL cL, Fd F t ke ro ao n cap aL nL cL ∧ Obs w ao n cap X ∧ Lab w.heap.size w aL nL cL L ∧ nL < 1048576 ∧ n ≤ 4096
 srt : Srt X
 sml : q3z X
variable {F : Array Value} {L : Lb}
theorem Fw.next {w w' : World} (h : Fw w F L X) (k : Below w.heap.size w w') : Fw w' F L X := by
 obtain ⟨⟨t, ke, ro, ao, n, cap, aL, nL, cL, h1, h2, h3, h4, h5⟩, hs, hm⟩ := h
 exact ⟨⟨t, ke, ro, ao, n, cap, aL, nL, cL, h1, qwz h2 k, h3.next k, h4, h5⟩, hs, hm⟩
theorem jJz (h : F.size = 55) : (prog.info? 203).map (·.size) = some F.size := by rw [h]; kernel_rfl
theorem g2z {aT aO : Option Addr} {nT cT nO cO : Nat} {T O : List (Int × Int)} (hT : Lab w.heap.size w aT nT cT T) (hO : Lab w.heap.size w aO nO cO O) (kT : nT < 1048576) :
  Calls prog 264 #[.slice aT nT cT, .slice aO nO cO] w fun e w' => e = .returned (.bool (leqB O (wsz T))) ∧ Below w.heap.size w w' := by
 have hB := brz w.heap.size w
 go_enter func264, ntmps264
 go_wp2_with (first | (go_at_call 282; refine (CkM.sees_any hT hO (by omega)).mono ?_; rintro e w1 ⟨q1, rfl, hq, kb⟩; replace hT := hT.next kb; replace hO := hO.next kb; replace hB := btz hB kb; have hq1 := hq; clear hq kb; obtain ⟨g1, l1, rfl, _, _⟩ := id hq1) | (go_at_call 174; refine (CkM.holds1_any _ hq1).mono ?_; rintro e w1 ⟨rfl, kb⟩; replace hB := btz hB kb))
 go_ret
 exact ⟨rfl, hB⟩
theorem jmz {F C : Array Value} (h : Fw w F L X) (hC : ObD (LtN w) w C x) (hs : Small x) : Calls prog 234 #[.agg F, .agg C] w fun e w' => e = .returned (.bool (seeB L x)) ∧ Below w.heap.size w w' := by
 have hmx : prog.follows .mixedOrders = true := by kernel_rfl
 obtain ⟨⟨t, ke, ro, ao, n, cap, aL, nL, cL, hF, hX, hL, kL, hn⟩, _, _⟩ := h
 have hz := hC.size
 have hf := hF.size
 have hl := hF.lab
 go_enter func234, ntmps234
 go_wp2_with (first
  | (with_reducible refine qcz rfl 203 _ rfl F rfl ?_; intro B W1 hN1 hB hk)
  | (with_reducible refine qcz rfl 55 _ rfl C rfl ?_; intro O W2 hN2 hO hk2; replace hB := hB.next hk2; replace hk := btz hk hk2; clear hk2))
 refine PgM.region_out (S := fun W => Below W2.heap.size W2 W) hmx ((brz _ _).drew) (fun hS => ?_)
 generalize W2.drew = v5 at hS ⊢
 refine qGz (by kernel_rfl) (fun _ _ _ _ _ h => h) hS [(0, none), (1, none), (2, some (.slice aL nL cL)), (3, some (.agg C))] (obs := [.load 39 B 2 (.slice aL nL cL), .load 55 O 0 (.agg C)]) (n := 3) (by kernel_rfl) (by kernel_rfl) ⟨qez (fun _ h => hB.next h) hl isAgg39, qBz (fun _ h => hO.next h) underlying55 (by kernel_rfl) (qfz hz), trivial⟩ ?_
 refine qrz (i := 4) (fuel := 2) (f := 265) (vs := [.agg C]) (d := some 9) (by kernel_rfl) (by kernel_rfl) (by kernel_rfl) call265 (gzz (hC.next (btz hk hS)) hs) ?_
 rintro e v6 ⟨aS, nS, cS, rfl, lS, hb6⟩
 have hS6 : Below W2.heap.size W2 v6 := btz hS hb6
 refine ⟨_, rfl, hS6, ?_⟩
 refine qrz (i := 5) (fuel := 1) (f := 264) (vs := [.slice aL nL cL, .slice aS nS cS]) (d := some 10) (by kernel_rfl) (by kernel_rfl) (by kernel_rfl) call264 (g2z (hL.next (btz hk hS6)) (LabD.wide lS fun b hb => hb.2) kL) ?_
 rintro e v7 ⟨rfl, hb7⟩
 have hS7 : Below W2.heap.size W2 v7 := btz hS6 hb7
 refine ⟨_, rfl, hS7, ?_⟩
 refine qmz (by kernel_rfl) (fun _ _ _ _ _ h => h) hS7 [(6, none)] (l' := #[tt, tt, tt, tt, tt, tt, tt]) (a' := { tmps := #[.agg F, .agg C, .pointer (some ⟨B, 0, none⟩), .pointer (some ⟨O, 0, none⟩), .bool (leqB (shoC x) (wsz L)), .pointer (some ⟨B, 0, none⟩), .pointer (some ⟨B, 2, none⟩), .slice aL nL cL, .agg C, .slice aS nS cS, .bool (leqB (shoC x) (wsz L))], defers := [] }) (obs := []) (n := 0) (by kernel_rfl) (by kernel_rfl) trivial ?_
 refine wpAnyH_done (by kernel_rfl) ?_ _
 go_wp2
 go_ret
 exact ⟨rfl, btz hk hS7⟩
theorem xjz {F C : Array Value} (h : Fw w F L X) (hC : ObD (LtN w) w C x) (hs : Small x) (hcase : (seeB L x = true) ∨ (seeB L x = false)) : Calls prog 235 #[.agg F, .agg C] w fun e w' => e = .returned (.bool (chgB L x)) ∧ Below w.heap.size w w' := by
 have hz := hC.size
 have ga0 := isAgg39
 rcases hcase with hv | hv
 case' inl =>
  have hse := fun (W : World) (hk : Below w.heap.size w W) => jmz (h.next hk) (hC.next hk) hs
  rw [hv] at hse
  have hr : Hid (chgB L x = leqB L x.label) := by show chgB L x = _; unfold chgB; rw [hv]; rfl
  obtain ⟨RV, hRV⟩ : ∃ RV, Hid (chgB L x = RV) := ⟨_, rfl⟩
  rw [hRV.out] at hr ⊢
  obtain ⟨⟨t, ke, ro, ao, n, cap, aL, nL, cL, hF, hX, hL, kL, hn⟩, _, _⟩ := h
  have hf := hF.size
  have hl := hF.lab
  obtain ⟨a2, n2, c2, e2, l2⟩ := hC.label
 case' inr =>
  have hse := fun (W : World) (hk : Below w.heap.size w W) => jmz (h.next hk) (hC.next hk) hs
  rw [hv] at hse
  have hr : Hid (chgB L x = false) := by show chgB L x = _; unfold chgB; rw [hv]; rfl
  obtain ⟨RV, hRV⟩ : ∃ RV, Hid (chgB L x = RV) := ⟨_, rfl⟩
  rw [hRV.out] at hr ⊢
  obtain ⟨⟨t, ke, ro, ao, n, cap, aL, nL, cL, hF, hX, hL, kL, hn⟩, _, _⟩ := h
  have hf := hF.size
  have hl := hF.lab
  obtain ⟨a2, n2, c2, e2, l2⟩ := hC.label
 all_goals go_enter func235, ntmps235
 all_goals go_wp2_with (first
  | go_skip
  | (with_reducible refine qcz rfl 203 _ rfl F rfl ?_; intro B W1 hN1 hB hk)
  | (with_reducible refine qcz rfl 55 _ rfl C rfl ?_; intro O W2 hN2 hO hk2; replace hB := hB.next hk2; replace hk := btz hk hk2; clear hk2)
  | (with_reducible refine qhz (by kernel_rfl) 203 _ rfl B rfl F hB _ underlying203 (by kernel_rfl) (jJz hf) ?_)
  | (with_reducible refine qhz (by kernel_rfl) 55 _ rfl O rfl C hO _ underlying55 (by kernel_rfl) (qfz hz) ?_)
  | (go_at_call 234; (with_reducible refine (hse _ hk).mono ?_); rintro e w3 ⟨rfl, hb3⟩; replace hB := hB.next hb3; replace hO := hO.next hb3; replace hk := btz hk hb3; clear hb3)
  | (with_reducible refine qaz (by kernel_rfl) _ _ rfl B _ rfl _ _ hB _ hl ga0 ?_)
  | (with_reducible refine qaz (by kernel_rfl) _ _ rfl O _ rfl _ _ hO _ e2 ga0 ?_)
  | (go_at_call 223; (with_reducible refine (kuz (B := 0) (hL.next hk) (LabD.lab' l2 hk)).mono ?_); rintro e w4 ⟨rfl, hb4⟩; replace hk := btz hk hb4; clear hb4))
 ·go_ret
  exact ⟨by rw [hr.out]; rfl, hk⟩
 ·go_ret
  exact ⟨by rw [hr.out]; rfl, hk⟩
theorem vYz {F C : Array Value} (h : Fw w F L X) (hC : ObD (LtN w) w C x) (hs : Small x) : Calls prog 235 #[.agg F, .agg C] w fun e w' => e = .returned (.bool (chgB L x)) ∧ Below w.heap.size w w' := by
 cases hv : seeB L x with
 | true => exact xjz h hC hs (.inl hv)
 | false => exact xjz h hC hs (.inr hv)
theorem juz {W2 w3 W4 V4 : World} {P : Nat} (hb3 : Below W2.heap.size W2 w3) (oF : ObD (New W2 w3) w3 C x) (hN4 : Hid (w3.heap.size = P ∧ W4.heap.size = P + 1)) (hk4 : Below w3.heap.size w3 W4) (q4 : Oth P W4 V4) : Below W2.heap.size W2 V4 ∧ ObD (New W2 V4) V4 C x := by
 have h1 := hN4.out
 have h2 := hb3.size
 have h3 := q4.size
 refine ⟨q4.below _ _ (by omega) (hb3.trans (hk4.mono h2)), (oF.laterK fun b hb => ?_).wide fun b hb => ⟨hb.1, by have := hb.2; omega⟩⟩
 have h5 := hb.2
 rw [q4.block b (by omega), hk4.block b h5]
theorem newN {W2 W V : World} (h : ObD (New W2 W) W C x) (k : Below W.heap.size W V) : ObD (New W2 V) V C x := (h.laterK fun b hb => k.block b hb.2).wide fun b hb => ⟨hb.1, ltz hb.2 k.size⟩
theorem gPz {w W2 W V : World} {R : Nat} (hk : Below w.heap.size w W) (h2 : w.heap.size ≤ W2.heap.size) (o : ObD (New W2 W) W C x) (hR : w.heap.size ≤ R ∧ R < W2.heap.size) (q : Oth R W V) : ObD (New w V) V C x ∧ Below w.heap.size w V := by
 have e := q.size
 refine ⟨(o.laterK fun b hb => q.block b (by have := hb.1; omega)).wide fun b hb => ⟨Nat.le_trans h2 hb.1, by rw [e]; exact hb.2⟩, q.below _ _ hR.1 hk⟩
theorem ltN {W2 W : World} (h : ObD (New W2 W) W C x) : ObD (LtN W) W C x := h.wide fun _ hb => hb.2
theorem xiz {i : Int} (h : Fw w F L X) (hf : (fnd X i).isSome = true) : Calls prog 232 #[.agg F, .int .u64 i] w (Tel 0 (fO X i) w) := by
 obtain ⟨⟨t, ke, ro, ao, n, cap, aL, nL, cL, hF, hX, hL, kL, hn⟩, hs, hsm⟩ := h
 have hfd := fun (W : World) (hk : Below w.heap.size w W) => bDz (t := t) (ke := ke) (ro := ro) (i := i) (qwz hX hk) hs hn hsm
 rw [hf] at hfd
 have hz := hF.size
 have hw := hF.wld
 have hle : 51 + 4 ≤ F.size := by rw [hz]; decide
 go_enter func232, ntmps232
 go_wp2_with (first
  | (with_reducible refine qcz rfl 203 _ rfl F rfl ?_; intro B W1 hN1 hB hk)
  | ((with_reducible refine qdz rfl _ rfl zC qsz ?_); have hx := oF; intro P W4 hN4 hP hk4; clear hx)
  | ((with_reducible refine qdz rfl _ rfl zC qsz ?_); intro R W2 hN2 hR hk2; replace hB := hB.next hk2; replace hk := btz hk hk2; clear hk2)
  | (with_reducible refine qnz (by kernel_rfl) 25 _ rfl B 51 rfl 4 F _ hB _ hw hle _ underlying25 (by kernel_rfl) q0z ?_)
  | (go_at_call 48; (with_reducible refine (hfd _ hk).mono ?_); rintro e w3 ⟨CF, rfl, oF, hb3, _⟩)
  | ((with_reducible refine qbz rfl _ _ _ rfl P rfl CF rfl zC hP (qfz oF.size) (qoz.trans oF.size.symm) oF.one ?_); intro V4 hP4 q4; obtain ⟨hb5, oG⟩ := juz hb3 oF hN4 hk4 q4; have zG := oG.size; clear oF hb3 hk4 q4 hN4 hP; replace hR := hR.next hb5; have hsz := hb5.size; replace hk := btz hk hb5)
  | (go_at_call 233; (with_reducible refine (xRz _ _).mono ?_); rintro e w5 ⟨rfl, rfl⟩)
  | (with_reducible refine qhz (by kernel_rfl) 55 _ rfl P rfl CF hP4 _ underlying55 (by kernel_rfl) (qfz zG) ?_)
  | ((with_reducible refine qbz rfl _ _ _ rfl R rfl CF rfl zC hR (qfz zG) (qoz.trans zG.symm) oG.one ?_); intro V5 hR5 q5))
 have hw2 : w.heap.size ≤ W2.heap.size := by have := hN1.out; have := hN2.out; omega
 obtain ⟨o9, b9⟩ := gPz hk hw2 oG ⟨by have := hN1.out; have := hN2.out; omega, by have := hN2.out; omega⟩ q5
 exact bodyPost_ret (v := .agg CF) (xLz results232 rfl hR5 zG) rfl (Tel.told rfl o9 b9)
theorem ffind_no {i : Int} (h : Fw w F L X) (hf : (fnd X i).isSome = false) : Calls prog 232 #[.agg F, .int .u64 i] w (Tel 1 (fO X i) w) := by
 obtain ⟨⟨t, ke, ro, ao, n, cap, aL, nL, cL, hF, hX, hL, kL, hn⟩, hs, hsm⟩ := h
 have hfd := fun (W : World) (hk : Below w.heap.size w W) => bDz (t := t) (ke := ke) (ro := ro) (i := i) (qwz hX hk) hs hn hsm
 rw [hf] at hfd
 have hz := hF.size
 have hw := hF.wld
 have hle : 51 + 4 ≤ F.size := by rw [hz]; decide
 go_enter func232, ntmps232
 go_wp2_with (first
  | (with_reducible refine qcz rfl 203 _ rfl F rfl ?_; intro B W1 hN1 hB hk)
  | ((with_reducible refine qdz rfl _ rfl zC qsz ?_); have hx := oF; intro P W4 hN4 hP hk4; clear hx)
  | ((with_reducible refine qdz rfl _ rfl zC qsz ?_); intro R W2 hN2 hR hk2; replace hB := hB.next hk2; replace hk := btz hk hk2; clear hk2)
  | (with_reducible refine qnz (by kernel_rfl) 25 _ rfl B 51 rfl 4 F _ hB _ hw hle _ underlying25 (by kernel_rfl) q0z ?_)
  | (go_at_call 48; (with_reducible refine (hfd _ hk).mono ?_); rintro e w3 ⟨CF, rfl, oF, hb3, _⟩)
  | ((with_reducible refine qbz rfl _ _ _ rfl P rfl CF rfl zC hP (qfz oF.size) (qoz.trans oF.size.symm) oF.one ?_); intro V4 hP4 q4; obtain ⟨hb5, oG⟩ := juz hb3 oF hN4 hk4 q4; have zG := oG.size; clear oF hb3 hk4 q4 hN4 hP; replace hR := hR.next hb5; have hsz := hb5.size; replace hk := btz hk hb5)
  | (go_at_call 233; (with_reducible refine (kUz _ _).mono ?_); rintro e w5 ⟨rfl, rfl⟩))
 exact ⟨rfl, Tel.threw rfl (by decide) hk⟩
end
section
open Go.ChangeShapes Go.WideShapes Go.ChangeAt Go.RowKit
def symn (P : Program) (ops : Array Oper) (g : Option Value) (o : Oper) (a : Act) : Option (Value × List Obl) :=
 if Region.wanted o (yielded ops a.tmps) then
  match o.op with
  | .nilCheck x =>
   match a.eval x with
   | .pointer (some p) => some (.pointer (some p), [])
   | _ => none
  | .extract x i =>
   match a.eval x with
   | .tuple vs => (vs[i]?).map fun v => (v, [])
   | _ => none
  | _ => symw P g o a
 else some (undef, [])
def symN (P : Program) (md : Region.Mode) (ops : Array Oper) : List (Nat × Option Value) → Array Bool → Act → Option (Array Bool × Act × List Obl)
 | [], l, a => some (l, a, [])
 | (i, g) :: gs, l, a =>
  match ops[i]? with
  | none => none
  | some o =>
   if (Region.free md ops l i && (Region.ready md ops l).contains i) = true then
    match symn P ops g o a with
    | none => none
    | some (v, obs) =>
     match symN P md ops gs (l.setIfInBounds i true) (a.put o.dst v) with
     | none => none
     | some (l', a', obs') => some (l', a', obs ++ obs')
   else none
section
variable {P : Program} {ops : Array Oper} {Q : Exit → Act → World → Prop} {w : World} {md : Region.Mode} {S : World → Prop}
theorem wUz {g : Option Value} {o : Oper} {a : Act} {v : Value} {obs : List Obl} (h : symn P ops g o a = some (v, obs)) (k : Obls P S obs) : YieldsIf P ops S o v a := by
 unfold symn at h
 split at h
 ·rename_i hw
  refine .inl ⟨hw, fun w hS => ?_⟩
  split at h
  ·rename_i x ho
   split at h
   ·rename_i p hx
    cases h
    unfold execOp
    simp [ho, hx]
   ·cases h
  ·rename_i x i ho
   split at h
   ·rename_i vs hx
    cases hv : vs[i]? with
    | none => rw [hv] at h; cases h
    | some u =>
     rw [hv] at h
     cases h
     unfold execOp
     simp [ho, hx, hv, Instr.extract]
   ·cases h
  ·exact yOz h k hS
 ·rename_i hw; cases h; exact .inr ⟨by simpa using hw, rfl⟩
theorem qCz (hs : Region.noSelect ops = true) (hQ : ∀ c a d v w, Q (.panic c) (Act.put a (some d) v) w → Q (.panic c) a w) (hS : S w) : ∀ (gs : List (Nat × Option Value)) {l l' : Array Bool} {a a' : Act} {obs : List Obl} {n m : Nat}, m = n + gs.length → symN P md ops gs l a = some (l', a', obs) → Obls P S obs → wpAnyH P md ops Q S n l' a' w → wpAnyH P md ops Q S m l a w
 | [], l, l', a, a', obs, n, m, hm, h, k, q => by cases h; subst hm; exact q
 | (i, g) :: gs, l, l', a, a', obs, n, m, hm, h, k, q => by
  subst hm
  unfold symN at h
  split at h
  ·cases h
  ·rename_i o ho
   split at h
   ·rename_i hf
    rw [Bool.and_eq_true] at hf
    split at h
    ·cases h
    ·rename_i v obs1 hv
     split at h
     ·cases h
     ·rename_i l2 a2 obs2 h2
      cases h
      obtain ⟨k1, k2⟩ := Obls.app k
      exact wpAnyH_take ho hs hf.1 hf.2 (fun c a w h => putQ hQ h) (wUz hv k1) hS (qCz hs hQ hS gs rfl h2 k2 q)
   ·cases h
end
def xwz (P : Program) (md : Region.Mode) (ops : Array Oper) (Q : Exit → Act → World → Prop) (S : World → Prop) (z : Nat) : Nat → Array Bool → Act → World → Prop
 | 0, listed, a, w => Region.ready md ops listed = [] ∧ Q .normal a w
 | fuel + 1, listed, a, w =>
  (Region.ready md ops listed = [] → Q .normal a w) ∧
  ∀ i ∈ Region.ready md ops listed, wpOp P ops Q i (fun a' w' => (i ≠ z → S w') ∧ xwz P md ops Q S z fuel (listed.setIfInBounds i true) a' w') a w
def chK (md : Region.Mode) (ops : Array Oper) : Nat → List Nat → Bool
 | _, [] => true
 | p, c :: r =>
  match ops[c]? with
  | none => false
  | some o => o.after.toList.any (fun e => Region.binds md e && e.on == p) && chK md ops c r
section
variable {P : Program} {ops : Array Oper} {Q : Exit → Act → World → Prop} {md : Region.Mode} {S : World → Prop} {z : Nat}
theorem jiz : ∀ (fuel : Nat) (listed : Array Bool) (a : Act) (w : World), xwz P md ops Q S z fuel listed a w → wpAny P md ops Q fuel listed a w
 | 0, _, _, _, h => h
 | fuel + 1, _, _, _, h => ⟨h.1, fun i hi => wpOp_mono (fun a' w' h' => jiz fuel _ a' w' h'.2) (h.2 i hi)⟩
theorem yGz {listed : Array Bool} {j : Nat} (hj : j ∈ Region.ready md ops listed) : ∀ (l : List Nat) (p : Nat), listed.getD p true = false → (∀ k ∈ l, listed.getD k true = false) → chK md ops p l = true → j ∉ l
 | [], _, _, _, _ => by simp
 | c :: r, p, hp, hu, hc => by
  unfold chK at hc
  split at hc
  ·cases hc
  ·rename_i o ho
   rw [Bool.and_eq_true, List.any_eq_true] at hc
   obtain ⟨⟨e, he, hb⟩, hr⟩ := hc
   rw [Bool.and_eq_true, beq_iff_eq] at hb
   intro hm
   rcases List.mem_cons.1 hm with rfl | hm
   ·obtain ⟨_, oj, hoj, hall⟩ := mem_ready.1 hj
    rw [ho] at hoj
    cases hoj
    have h1 := hall e (by simpa using he) hb.1
    rw [hb.2] at h1
    rcases Nat.lt_or_ge p listed.size with h' | h'
    ·simp [h'] at hp h1; rw [hp] at h1; cases h1
    ·simp [Array.getElem?_eq_none h'] at h1
   ·exact yGz hj r c (hu c (List.mem_cons_self ..)) (fun k hk => hu k (List.mem_cons_of_mem _ hk)) hr hm
theorem vgz {i : Nat} {oi : Oper} {v : Value} {ch : List Nat} (hi : ops[i]? = some oi) (hsel : ∀ (j : Nat) (o : Oper) cs b, ops[j]? = some o → o.op ≠ .select cs b)
  (hQ : ∀ c a w, Q (.panic c) (a.put oi.dst v) w → Q (.panic c) a w) (hch : chK md ops i ch = true) (hz : z ∈ ch) :
  ∀ (fuel : Nat) (listed : Array Bool) (a : Act) (w : World),
   (∀ j oj, ops[j]? = some oj → j ≠ i → listed.getD j true = false → (∀ e ∈ oj.after, Region.binds md e = true → e.on ≠ i) → oi.apart ops oj = true) →
   (∀ k ∈ ch, listed.getD k true = false) →
   i ∈ Region.ready md ops listed → YieldsIf P ops S oi v a → S w →
   xwz P md ops Q S z fuel (listed.setIfInBounds i true) (a.put oi.dst v) w → xwz P md ops Q S z (fuel + 1) listed a w := by
 intro fuel
 induction fuel with
 | zero =>
  intro listed a w _ _ hr hy hS H
  refine ⟨fun h => (by rw [h] at hr; cases hr), fun j hj => ?_⟩
  by_cases hji : j = i
  ·subst hji; exact hy.wpOp hi hS ⟨fun _ => hS, H⟩
  ·have := ready_mono hj hji
   rw [H.1] at this
   cases this
 | succ fuel ih =>
  intro listed a w hfree hun hr hy hS H
  refine ⟨fun h => (by rw [h] at hr; cases hr), fun j hj => ?_⟩
  by_cases hji : j = i
  ·subst hji; exact hy.wpOp hi hS ⟨fun _ => hS, H⟩
  ·have hjc : j ∉ ch := yGz hj ch i (mem_ready.1 hr).1 hun hch
   have hjz : j ≠ z := fun e => hjc (e ▸ hz)
   have h1 := H.2 j (ready_mono hj hji)
   obtain ⟨hjun, oj, hoj, hall⟩ := mem_ready.1 hj
   have hnot : ∀ e ∈ oj.after, Region.binds md e = true → e.on ≠ i := fun e he hb heq => by
    have h1 := hall e he hb
    have h0 := (mem_ready.1 hr).1
    rw [heq] at h1
    rcases Nat.lt_or_ge i listed.size with h' | h'
    ·simp [h'] at h0 h1; rw [h0] at h1; cases h1
    ·simp [Array.getElem?_eq_none h'] at h1
   have h2 := wpOp_putIf hoj (hfree j oj hoj hji hjun hnot) (fun cs b => hsel i oi cs b hi) (fun cs b => hsel j oj cs b hoj) hQ hy h1
   have hset : ∀ k, (listed.setIfInBounds j true).getD k true = false → listed.getD k true = false := fun k hun => by
    by_cases hjk : j = k
    ·subst hjk; exact hjun
    ·rw [getD_set_ne true hjk] at hun; exact hun
   have hfree' : ∀ k ok, ops[k]? = some ok → k ≠ i → (listed.setIfInBounds j true).getD k true = false →
     (∀ e ∈ ok.after, Region.binds md e = true → e.on ≠ i) → oi.apart ops ok = true := fun k ok hk hki hun hno => hfree k ok hk hki (hset k hun) hno
   have hun' : ∀ k ∈ ch, (listed.setIfInBounds j true).getD k true = false := fun k hk => by
    have : j ≠ k := fun e => hjc (e ▸ hk)
    rw [getD_set_ne true this]
    exact hun k hk
   refine wpOp_mono (fun a' w' h3 => ⟨h3.2.1, ih (listed.setIfInBounds j true) a' w' hfree' hun' (ready_mono hr (Ne.symm hji)) h3.1 (h3.2.1 hjz) ?_⟩) h2
   rw [Array.setIfInBounds_comm _ _ hji]
   exact h3.2.2
def symK (P : Program) (md : Region.Mode) (ops : Array Oper) (z : Nat) : List (Nat × Option Value × List Nat) → Array Bool → Act → Option (Array Bool × Act × List Obl)
 | [], l, a => some (l, a, [])
 | (i, g, ch) :: gs, l, a =>
  match ops[i]? with
  | none => none
  | some o =>
   if (Region.free md ops l i && (Region.ready md ops l).contains i && chK md ops i (ch ++ [z]) && (ch ++ [z]).all fun k => !(l.getD k true)) = true then
    match symn P ops g o a with
    | none => none
    | some (v, obs) =>
     match symK P md ops z gs (l.setIfInBounds i true) (a.put o.dst v) with
     | none => none
     | some (l', a', obs') => some (l', a', obs ++ obs')
   else none
theorem wAz {w : World} (hs : Region.noSelect ops = true) (hQ : ∀ c a d v w, Q (.panic c) (Act.put a (some d) v) w → Q (.panic c) a w) (hS : S w) : ∀ (gs : List (Nat × Option Value × List Nat)) {l l' : Array Bool} {a a' : Act} {obs : List Obl} {n m : Nat}, m = n + gs.length → symK P md ops z gs l a = some (l', a', obs) → Obls P S obs → xwz P md ops Q S z n l' a' w → xwz P md ops Q S z m l a w
 | [], l, l', a, a', obs, n, m, hm, h, k, q => by cases h; subst hm; exact q
 | (i, g, ch) :: gs, l, l', a, a', obs, n, m, hm, h, k, q => by
  subst hm
  unfold symK at h
  split at h
  ·cases h
  ·rename_i o ho
   split at h
   ·rename_i hf
    rw [Bool.and_eq_true, Bool.and_eq_true, Bool.and_eq_true, List.all_eq_true] at hf
    split at h
    ·cases h
    ·rename_i v obs1 hv
     split at h
     ·cases h
     ·rename_i l2 a2 obs2 h2
      cases h
      obtain ⟨k1, k2⟩ := Obls.app k
      exact vgz ho (Region.noSelect_spec hs) (fun c a w h => putQ hQ h) hf.1.2 (by simp) _ l a w (Region.free_spec ho hf.1.1.1) (fun k hk => by simpa using hf.2 k hk) (by simpa using hf.1.1.2) (wUz hv k1) hS (wAz hs hQ hS gs rfl h2 k2 q)
   ·cases h
theorem kFz {listed : Array Bool} {a : Act} {w : World} (hr : Region.ready md ops listed = []) (h : Q .normal a w) :
  ∀ fuel, xwz P md ops Q S z fuel listed a w
 | 0 => ⟨hr, h⟩
 | _ + 1 => ⟨fun _ => h, by rw [hr]; simp⟩
theorem qUz {w : World} {l : Array Bool} {a : Act} {i n m : Nat} (hm : m = n + 1) (hr : Region.ready md ops l = [i]) (h : wpOp P ops Q i (fun a' w' => (i ≠ z → S w') ∧ xwz P md ops Q S z n (l.setIfInBounds i true) a' w') a w) : xwz P md ops Q S z m l a w := by
 subst hm
 refine ⟨fun h0 => (by rw [hr] at h0; cases h0), fun k hk => ?_⟩
 rw [hr] at hk
 obtain rfl : k = i := by simpa using hk
 exact h
theorem jPz {id : Nat} {a : Act} {w : World} (z : Nat) (hm : P.follows .mixedOrders = true)
  (hS : S w.drew) (h : S w.drew → xwz P .any ops Q S z ops.size (Array.replicate ops.size false) a w.drew) : (Code.region id ops true).wp P Q a w :=
 wp_region_any hm (jiz _ _ _ _ (h hS))
end
section
variable {ops : Array Oper} {Q : Exit → Act → World → Prop} {w : World} {a : Act}
theorem wLz {i : Nat} {f : FuncId} {vs : List Value} {d : Option Tmp} {R : Ending → World → Prop} {K : Act → World → Prop} (hi : (ops[i]?).bind (fun o => wFz ops o a) = some (f, vs, d))
  (hf : ∀ args w, (callFunc f args).run prog w = .ok (.enter f args) w) (hc : Calls prog f vs.toArray w R)
  (h : ∀ e w', R e w' → (∃ v, e = .returned v ∧ K (a.put d v) w') ∨ ∃ ps, e = .panicked ps ∧ Q (.panic ps) a w') : wpOp prog ops Q i K a w := by
 cases ho : ops[i]? with
 | none => rw [ho] at hi; cases hi
 | some o =>
  rw [ho] at hi
  obtain ⟨h1, h2, h3⟩ := xtz (show wFz ops o a = _ from hi) hf w
  unfold wpOp
  simp only [ho, h1, if_true]
  left
  unfold Oper.wp
  rw [h3, Oper.upon_enter]
  refine hc.mono ?_
  intro e w' hR
  rcases h e w' hR with ⟨v, rfl, h⟩ | ⟨ps, rfl, h⟩
  ·rw [h2]
   exact h
  ·exact h
end
end
section
open Go.RowKit Go.Shelf
attribute [local go_sem] Oper.semAt_some
abbrev Kx (Z : Nat → Prop) (B : Nat) (w : World) : Nat → Prop := fun b => (b < w.heap.size ∧ b ≠ B) ∧ ¬ Z b
abbrev Kn (v : World) (P : Nat) (W : World) : Nat → Prop := fun b => v.heap.size ≤ b ∧ b < W.heap.size ∧ b ≠ P
structure Kz (Z : Nat → Prop) (w : World) (B : Nat) (T : TypeId) (F : Array Value) (x : Ob) (t ke ro : Int) (ao : Option Addr) (n cap : Nat) (X : List Ob) (A : List Int) : Prop where
 blk : Blk w B F T
 size : F.size = 62
 one : F.all (·.oneCell') = true
 ob : ObD (Kx Z B w) w (F.extract 0 51) x
 wld : F.extract 51 (51 + 4) = #[.int .i64 t, .int .u64 ke, .int .u64 ro, .slice ao n cap]
 obs : ObsD (Kx Z B w) (Kx Z B w) w ao n cap X
 arg : ∀ i, i < 7 → F[55 + i]? = some (.int .u64 (A.getD i 0))
 zlt : ∀ b, Z b → b < w.heap.size
structure Kt (B : Nat) (w w' : World) : Prop where
 low : Below B w w'
 oth : ∀ b, b < w.heap.size → b ≠ B → w'.heap[b]? = w.heap[b]?
theorem Kt.refl (B : Nat) (w : World) : Kt B w w := ⟨brz _ _, fun _ _ _ => rfl⟩
theorem Kt.trans {B : Nat} {a b c : World} (h : Kt B a b) (k : Kt B b c) : Kt B a c :=
 ⟨h.low.trans k.low, fun q hq hne => (k.oth q (ltz hq h.low.size) hne).trans (h.oth q hq hne)⟩
theorem Kt.of {B : Nat} {w w' : World} (k : Below w.heap.size w w') (hB : B < w.heap.size) : Kt B w w' := ⟨k.mono (by omega), fun b hb _ => k.block b hb⟩
theorem Kt.set {B : Nat} {w w' : World} (q : Oth B w w') : Kt B w w' := ⟨q.below _ _ (lrz _) (brz _ _), fun b _ hne => q.block b hne⟩
section
variable {Z : Nat → Prop} {w w' : World} {B : Nat} {T : TypeId} {F : Array Value} {x : Ob} {t ke ro : Int} {ao : Option Addr} {n cap : Nat} {X : List Ob} {A : List Int}
theorem Kz.next (h : Kz Z w B T F x t ke ro ao n cap X A) (k : Below w.heap.size w w') : Kz Z w' B T F x t ke ro ao n cap X A :=
 have g : ∀ b, Kx Z B w b → Kx Z B w' b := fun b hb => ⟨⟨ltz hb.1.1 k.size, hb.1.2⟩, hb.2⟩
 ⟨h.blk.next k, h.size, h.one, (h.ob.laterK fun b hb => k.block b hb.1.1).wide g, h.wld, (h.obs.laterK (fun b hb => k.block b hb.1.1) fun b hb => k.block b hb.1.1).wide g g, h.arg, fun b hb => ltz (h.zlt b hb) k.size⟩
theorem Kz.less {Z' : Nat → Prop} (h : Kz Z w B T F x t ke ro ao n cap X A) (k : ∀ b, Z' b → Z b) : Kz Z' w B T F x t ke ro ao n cap X A :=
 have g : ∀ b, Kx Z B w b → Kx Z' B w b := fun b hb => ⟨hb.1, fun q => hb.2 (k b q)⟩
 ⟨h.blk, h.size, h.one, h.ob.wide g, h.wld, h.obs.wide g g, h.arg, fun b hb => h.zlt b (k b hb)⟩
theorem Kz.more {Q : Nat} (h : Kz Z w B T F x t ke ro ao n cap X A) (k : Below w.heap.size w w') (hQ : Q < w'.heap.size) (hw : w.heap.size ≤ Q) : Kz (fun b => Z b ∨ b = Q) w' B T F x t ke ro ao n cap X A :=
 have g : ∀ b, Kx Z B w b → Kx (fun b => Z b ∨ b = Q) B w' b := fun b hb => ⟨⟨ltz hb.1.1 k.size, hb.1.2⟩, fun q => q.elim hb.2 fun e => by have := hb.1.1; omega⟩
 ⟨h.blk.next k, h.size, h.one, (h.ob.laterK fun b hb => k.block b hb.1.1).wide g, h.wld, (h.obs.laterK (fun b hb => k.block b hb.1.1) fun b hb => k.block b hb.1.1).wide g g, h.arg, fun b hb => hb.elim (fun q => ltz (h.zlt b q) k.size) fun q => by omega⟩
theorem Kz.oth {Q : Nat} (h : Kz Z w B T F x t ke ro ao n cap X A) (o : Oth Q w w') (hQ : Z Q) (hne : Q ≠ B) : Kz Z w' B T F x t ke ro ao n cap X A :=
 have n : ∀ b, Kx Z B w b → b ≠ Q := fun b hb e => hb.2 (e ▸ hQ)
 have g : ∀ b, Kx Z B w b → Kx Z B w' b := fun b hb => ⟨⟨by rw [o.size]; exact hb.1.1, hb.1.2⟩, hb.2⟩
 ⟨h.blk.other o hne.symm, h.size, h.one, (h.ob.laterK fun b hb => o.block b (n b hb)).wide g, h.wld, (h.obs.laterK (fun b hb => o.block b (n b hb)) fun b hb => o.block b (n b hb)).wide g g, h.arg, fun b hb => by rw [o.size]; exact h.zlt b hb⟩
theorem kXz {i : Nat} (h : F.size = 62) (hi : i < 51) : (F.extract 0 51)[i]? = F[i]? := by
 rw [Array.getElem?_extract, if_pos (by omega), Nat.zero_add]
theorem Kz.at (h : Kz Z w B T F x t ke ro ao n cap X A) {i : Nat} (hi : i < 51) {v : Option Value} (e : (F.extract 0 51)[i]? = v) : F[i]? = v := (kXz h.size hi).symm.trans e
theorem Kz.wat (h : Kz Z w B T F x t ke ro ao n cap X A) : F[51]? = some (.int .i64 t) ∧ F[52]? = some (.int .u64 ke) ∧ F[53]? = some (.int .u64 ro) ∧ F[54]? = some (.slice ao n cap) := by
 have hz := h.size
 have e : ∀ i, i < 4 → F[51 + i]? = (#[.int .i64 t, .int .u64 ke, .int .u64 ro, .slice ao n cap] : Array Value)[i]? := fun i hi => by
  rw [← h.wld, Array.getElem?_extract, if_pos (by omega)]
 exact ⟨e 0 (by omega), e 1 (by omega), e 2 (by omega), e 3 (by omega)⟩
end
section
variable {P : Program} {ops : Array Oper} {rest : List Oper} {op : Oper} {a : Act} {Q : Exit → Act → World → Prop} {w : World}
theorem qVz (hw : Region.wanted op (yielded ops a.tmps) = true) (ty : TypeId) (x y : Operand) (ho : op.op = .indexAddr ty x y) (u v : Value) (hx : a.eval x = u) (hy : a.eval y = v) (r : Value) (hr : (Instr.indexAt ty u v).run P w = .ok r w) (h : wpList P ops Q rest (a.put op.dst r) w) : wpList P ops Q (op :: rest) a w := by
 refine q7z hw ?_ h
 unfold execOp
 simp [ho, hx, hy, hr]
end
def labT (t : Th) (k : Int) : Lb := if k = 0 then t.l0 else if k = 1 then t.l1 else if k = 2 then t.l2 else t.l3
theorem ThF.labs {D : Nat → Prop} {w : World} {f : Nat → Option Value} {t : Th} (h : ThF D w f t) {k : Nat} (hk : k < 4) : LbV D w (f (31 + k)) (labT t k) := by
 match k, hk with
 | 0, _ => exact h.l0
 | 1, _ => exact h.l1
 | 2, _ => exact h.l2
 | 3, _ => exact h.l3
 | k + 4, q => exact absurd q (by omega)
theorem xTz (k : Int) (w : World) : Calls prog 101 #[.bool true, .int .i64 k] w fun e w' => e = .returned (.tuple #[]) ∧ w = w' := by
 go_enter func101, ntmps101
 go_wp2
 go_end0
 exact ⟨rfl, rfl⟩
theorem kvz (k : Int) (w : World) : Calls prog 101 #[.bool false, .int .i64 k] w fun e w' => e = .panicked (wfz k) ∧ w = w' := by
 go_enter func101, ntmps101
 go_wp2
 exact ⟨rfl, rfl, rfl⟩
theorem ksz (w : World) : Calls prog 139 #[.int .i64 0] w fun e w' => e = .returned (.tuple #[]) ∧ w = w' := by
 go_enter func139, ntmps139
 go_wp2_with (go_at_call 101; (with_reducible refine (xTz _ _).mono ?_); rintro e w1 ⟨rfl, rfl⟩)
 go_end0
 exact ⟨rfl, rfl⟩
theorem ysz {k : Int} (hk : k ≠ 0) (w : World) : Calls prog 139 #[.int .i64 k] w fun e w' => e = .panicked (wfz k) ∧ w = w' := by
 have hb : (k == 0) = false := by simpa using hk
 go_enter func139, ntmps139
 go_wp2_with (go_at_call 101; (with_reducible refine (kvz _ _).mono ?_); rintro e w1 ⟨rfl, rfl⟩)
 exact ⟨rfl, rfl, rfl⟩
theorem xDz {b o i : Nat} (hi : i < 7) (w : World) : (Instr.indexAt 27 (.pointer (some ⟨b, o, none⟩)) (.int .i64 (i : Int))).run prog w = .ok (.pointer (some ⟨b, o + i, none⟩)) w := by
 have hi' : (i : Int) < 7 := by omega
 go_simp
theorem gCz {b o i : Nat} (hi : i < 4) (w : World) : (Instr.indexAt 49 (.pointer (some ⟨b, o, none⟩)) (.int .u64 (i : Int))).run prog w = .ok (.pointer (some ⟨b, o + i, none⟩)) w := by
 have hi' : (i : Int) < 4 := by omega
 go_simp
section
variable {Z : Nat → Prop} {w w' : World} {B : Nat} {T : TypeId} {F : Array Value} {x : Ob} {t ke ro : Int} {ao : Option Addr} {n cap : Nat} {X : List Ob} {A : List Int}
theorem bgz (h : Kz Z w B T F x t ke ro ao n cap X A) {i k : Nat} (hi : i < 7) (hA : A.getD i 0 = k) (hk : k < 4) : Calls prog 86 #[.pointer (some ⟨B, 0, none⟩), .int .i64 (i : Int)] w fun e w' => ∃ v, e = .returned v ∧ LbV (Kx Z B w) w (some v) (labT x.th k) ∧ w = w' := by
 have hB := h.blk
 have ha := h.arg i hi
 rw [hA] at ha
 obtain ⟨a, m, c, el, hl⟩ := h.ob.th.labs hk
 have el' : F[8 + (31 + k)]? = some (.slice a m c) := h.at (by omega) el
 have hi7 := fun W => xDz (b := B) (o := 55) hi W
 have hi4 := fun W => gCz (b := B) (o := 39) hk W
 have hk' : (k : Int) < 4 := by omega
 rw [show 8 + (31 + k) = 39 + k by omega] at el'
 go_enter func86, ntmps86
 go_wp2_with (first
  | (with_reducible refine qVz (by kernel_rfl) _ _ _ rfl _ _ rfl rfl _ (hi7 _) ?_)
  | (with_reducible refine qVz (by kernel_rfl) _ _ _ rfl _ _ rfl rfl _ (hi4 _) ?_)
  | (with_reducible refine qaz (by kernel_rfl) _ _ rfl B _ rfl _ _ hB _ ha isAgg22 ?_)
  | (with_reducible refine qaz (by kernel_rfl) _ _ rfl B _ rfl _ _ hB _ el' isAgg39 ?_)
  | (go_at_call 101; (with_reducible refine (xTz _ _).mono ?_); rintro e w1 ⟨rfl, rfl⟩))
 go_ret
 exact ⟨_, rfl, ⟨a, m, c, rfl, hl⟩, rfl⟩
theorem lab_no (h : Kz Z w B T F x t ke ro ao n cap X A) {i : Nat} (hi : i < 7) (hk : ¬ A.getD i 0 < 4) : Calls prog 86 #[.pointer (some ⟨B, 0, none⟩), .int .i64 (i : Int)] w fun e w' => e = .panicked (wfz 4) ∧ w = w' := by
 have hB := h.blk
 have ha := h.arg i hi
 have hi7 := fun W => xDz (b := B) (o := 55) hi W
 have hk' : decide (A.getD i 0 < 4) = false := decide_eq_false hk
 generalize A.getD i 0 = k at ha hk'
 go_enter func86, ntmps86
 go_wp2_with (first
  | (with_reducible refine qVz (by kernel_rfl) _ _ _ rfl _ _ rfl rfl _ (hi7 _) ?_)
  | (with_reducible refine qaz (by kernel_rfl) _ _ rfl B _ rfl _ _ hB _ ha isAgg22 ?_)
  | (go_at_call 101; (with_reducible refine (kvz _ _).mono ?_); rintro e w1 ⟨rfl, rfl⟩))
 exact ⟨rfl, rfl, rfl⟩
end
variable {k : Int} {x : Ob}
theorem Tel.got {w w' : World} {e : Ending} (h : Tel k x w e w') (hk : k = 0) : ∃ C, e = .returned (.agg C) ∧ ObD (New w w') w' C x ∧ Below w.heap.size w w' := by obtain ⟨C, e, o⟩ := h.yes hk; exact ⟨C, e, o, h.low⟩
theorem Tel.lost {w w' : World} {e : Ending} (h : Tel k x w e w') (hk : k ≠ 0) : e = .panicked (wfz k) ∧ Below w.heap.size w w' := ⟨h.no hk, h.low⟩
variable {w : World} {F : Array Value} {X : List Ob} {i : Int} {L : Lb} {wr : Bool}
theorem dir_a (h : Fw w F L X) (hf : (fnd X i).isSome = false) (hE : dirE X L i wr = 1) : Calls prog 185 #[.agg F, .int .u64 i, .bool wr] w (Tel (dirE X L i wr) (fO X i) w) := by
 rw [hE]
 clear hE
 have hz : F.size = 55 := by obtain ⟨⟨_, _, _, _, _, _, _, _, _, hF, _⟩, _, _⟩ := h; exact hF.size
 have hff := fun (W : World) (hk : Below w.heap.size w W) => ffind_no (h.next hk) hf
 have ga2 := isAgg3
 clear hf
 go_enter func185, ntmps185
 go_wp2_with (first
  | go_skip
  | (with_reducible refine qcz rfl 203 _ rfl F rfl ?_; intro B W1 hN1 hB hk)
  | ((with_reducible refine qdz rfl _ rfl zC qsz ?_); have hx := oF; intro P W4 hN4 hP hk4; clear hx)
  | ((with_reducible refine qdz rfl _ rfl zC qsz ?_); intro R W2 hN2 hR hk2; replace hB := hB.next hk2; replace hk := btz hk hk2; clear hk2)
  | (with_reducible refine qhz (by kernel_rfl) 203 _ rfl B rfl F hB _ underlying203 (by kernel_rfl) (jJz hz) ?_)
  | (go_at_call 232; (with_reducible refine (hff _ hk).mono ?_); rintro e w3 hT; obtain ⟨rfl, hb3⟩ := hT.lost (by decide)))
 exact ⟨rfl, Tel.threw rfl (by decide) (btz hk hb3)⟩
theorem dir_b (h : Fw w F L X) (hf : (fnd X i).isSome = true) (hd : ¬ (fO X i).kind = 2) (hE : dirE X L i wr = 1) : Calls prog 185 #[.agg F, .int .u64 i, .bool wr] w (Tel (dirE X L i wr) (fO X i) w) := by
 rw [hE]
 clear hE
 have hz : F.size = 55 := by obtain ⟨⟨_, _, _, _, _, _, _, _, _, hF, _⟩, _, _⟩ := h; exact hF.size
 have hff := fun (W : World) (hk : Below w.heap.size w W) => xiz (h.next hk) hf
 have hsx : Small (fO X i) := h.sml _ (vUz hf).1
 have g1 : ((fO X i).kind == 2) = false := by rw [beq_eq_false_iff_ne]; exact hd
 have ga2 := isAgg3
 clear hf hd
 go_enter func185, ntmps185
 go_wp2_with (first
  | go_skip
  | (with_reducible refine qcz rfl 203 _ rfl F rfl ?_; intro B W1 hN1 hB hk)
  | ((with_reducible refine qdz rfl _ rfl zC qsz ?_); have hx := oF; intro P W4 hN4 hP hk4; clear hx)
  | ((with_reducible refine qdz rfl _ rfl zC qsz ?_); intro R W2 hN2 hR hk2; replace hB := hB.next hk2; replace hk := btz hk hk2; clear hk2)
  | (with_reducible refine qhz (by kernel_rfl) 203 _ rfl B rfl F hB _ underlying203 (by kernel_rfl) (jJz hz) ?_)
  | (go_at_call 232; (with_reducible refine (hff _ hk).mono ?_); rintro e w3 hT; obtain ⟨CF, rfl, oF, hb3⟩ := hT.got rfl; clear hT)
  | ((with_reducible refine qbz rfl _ _ _ rfl P rfl CF rfl zC hP (qfz oF.size) (qoz.trans oF.size.symm) oF.one ?_); intro V4 hP4 q4; obtain ⟨hb5, oG⟩ := juz hb3 oF hN4 hk4 q4; have zG := oG.size; clear oF hb3 hk4 q4 hN4 hP; replace hB := hB.next hb5; replace hR := hR.next hb5; replace hk := btz hk hb5; have k1 := oG.kind; have hsz := hb5.size; have hoG := ltN oG; clear hb5)
  | (with_reducible refine qaz (by kernel_rfl) _ _ rfl P _ rfl _ _ hP4 _ k1 ga2 ?_)
  | (with_reducible refine qhz (by kernel_rfl) 55 _ rfl P rfl CF hP4 _ underlying55 (by kernel_rfl) (qfz zG) ?_)
  | (go_at_call 233; (with_reducible refine (xRz _ _).mono ?_); rintro e w5 ⟨rfl, rfl⟩)
  | (go_at_call 233; (with_reducible refine (kUz _ _).mono ?_); rintro e w5 ⟨rfl, rfl⟩))
 exact ⟨rfl, Tel.threw rfl (by decide) hk⟩
theorem dir_c (h : Fw w F L X) (hf : (fnd X i).isSome = true) (hd : (fO X i).kind = 2) (hs : seeB L (fO X i) = false) (hE : dirE X L i wr = 1) : Calls prog 185 #[.agg F, .int .u64 i, .bool wr] w (Tel (dirE X L i wr) (fO X i) w) := by
 rw [hE]
 clear hE
 have hz : F.size = 55 := by obtain ⟨⟨_, _, _, _, _, _, _, _, _, hF, _⟩, _, _⟩ := h; exact hF.size
 have hff := fun (W : World) (hk : Below w.heap.size w W) => xiz (h.next hk) hf
 have hsx : Small (fO X i) := h.sml _ (vUz hf).1
 have hse := fun (W : World) (C : Array Value) (hk : Below w.heap.size w W) (hC : ObD (LtN W) W C (fO X i)) => jmz (h.next hk) hC hsx
 rw [hs] at hse
 have HD : Hid ((fO X i).kind = 2) := hd
 have ga2 := isAgg3
 clear hf hd hs
 go_enter func185, ntmps185
 go_wp2_with (first
  | go_skip
  | (with_reducible refine qcz rfl 203 _ rfl F rfl ?_; intro B W1 hN1 hB hk)
  | ((with_reducible refine qdz rfl _ rfl zC qsz ?_); have hx := oF; intro P W4 hN4 hP hk4; clear hx)
  | ((with_reducible refine qdz rfl _ rfl zC qsz ?_); intro R W2 hN2 hR hk2; replace hB := hB.next hk2; replace hk := btz hk hk2; clear hk2)
  | (with_reducible refine qhz (by kernel_rfl) 203 _ rfl B rfl F hB _ underlying203 (by kernel_rfl) (jJz hz) ?_)
  | (go_at_call 232; (with_reducible refine (hff _ hk).mono ?_); rintro e w3 hT; obtain ⟨CF, rfl, oF, hb3⟩ := hT.got rfl; clear hT)
  | ((with_reducible refine qbz rfl _ _ _ rfl P rfl CF rfl zC hP (qfz oF.size) (qoz.trans oF.size.symm) oF.one ?_); intro V4 hP4 q4; obtain ⟨hb5, oG⟩ := juz hb3 oF hN4 hk4 q4; have zG := oG.size; clear oF hb3 hk4 q4 hN4 hP; replace hB := hB.next hb5; replace hR := hR.next hb5; replace hk := btz hk hb5; have k1 := oG.kind; rw [HD.out] at k1; have hsz := hb5.size; have hoG := ltN oG; clear hb5)
  | (with_reducible refine qaz (by kernel_rfl) _ _ rfl P _ rfl _ _ hP4 _ k1 ga2 ?_)
  | (with_reducible refine qhz (by kernel_rfl) 55 _ rfl P rfl CF hP4 _ underlying55 (by kernel_rfl) (qfz zG) ?_)
  | (go_at_call 234; (with_reducible refine (hse _ _ hk hoG).mono ?_); rintro e w6 ⟨rfl, hb6⟩; replace hB := hB.next hb6; replace hR := hR.next hb6; replace hP4 := hP4.next hb6; replace hk := btz hk hb6; replace oG := newN oG hb6; replace hoG := ltN oG; have hsz := Nat.le_trans hsz hb6.size; clear hb6)
  | (go_at_call 233; (with_reducible refine (xRz _ _).mono ?_); rintro e w5 ⟨rfl, rfl⟩)
  | (go_at_call 233; (with_reducible refine (kUz _ _).mono ?_); rintro e w5 ⟨rfl, rfl⟩))
 exact ⟨rfl, Tel.threw rfl (by decide) hk⟩
theorem dir_d (h : Fw w F L X) (hf : (fnd X i).isSome = true) (hd : (fO X i).kind = 2) (hs : seeB L (fO X i) = true) (hE : dirE X L i false = 0) : Calls prog 185 #[.agg F, .int .u64 i, .bool false] w (Tel (dirE X L i false) (fO X i) w) := by
 rw [hE]
 clear hE
 have hz : F.size = 55 := by obtain ⟨⟨_, _, _, _, _, _, _, _, _, hF, _⟩, _, _⟩ := h; exact hF.size
 have hff := fun (W : World) (hk : Below w.heap.size w W) => xiz (h.next hk) hf
 have hsx : Small (fO X i) := h.sml _ (vUz hf).1
 have hse := fun (W : World) (C : Array Value) (hk : Below w.heap.size w W) (hC : ObD (LtN W) W C (fO X i)) => jmz (h.next hk) hC hsx
 rw [hs] at hse
 have HD : Hid ((fO X i).kind = 2) := hd
 have ga2 := isAgg3
 clear hf hd hs
 go_enter func185, ntmps185
 go_wp2_with (first
  | go_skip
  | (with_reducible refine qcz rfl 203 _ rfl F rfl ?_; intro B W1 hN1 hB hk)
  | ((with_reducible refine qdz rfl _ rfl zC qsz ?_); have hx := oF; intro P W4 hN4 hP hk4; clear hx)
  | ((with_reducible refine qdz rfl _ rfl zC qsz ?_); intro R W2 hN2 hR hk2; replace hB := hB.next hk2; replace hk := btz hk hk2; clear hk2)
  | (with_reducible refine qhz (by kernel_rfl) 203 _ rfl B rfl F hB _ underlying203 (by kernel_rfl) (jJz hz) ?_)
  | (go_at_call 232; (with_reducible refine (hff _ hk).mono ?_); rintro e w3 hT; obtain ⟨CF, rfl, oF, hb3⟩ := hT.got rfl; clear hT)
  | ((with_reducible refine qbz rfl _ _ _ rfl P rfl CF rfl zC hP (qfz oF.size) (qoz.trans oF.size.symm) oF.one ?_); intro V4 hP4 q4; obtain ⟨hb5, oG⟩ := juz hb3 oF hN4 hk4 q4; have zG := oG.size; clear oF hb3 hk4 q4 hN4 hP; replace hB := hB.next hb5; replace hR := hR.next hb5; replace hk := btz hk hb5; have k1 := oG.kind; rw [HD.out] at k1; have hsz := hb5.size; have hoG := ltN oG; clear hb5)
  | (with_reducible refine qaz (by kernel_rfl) _ _ rfl P _ rfl _ _ hP4 _ k1 ga2 ?_)
  | (with_reducible refine qhz (by kernel_rfl) 55 _ rfl P rfl CF hP4 _ underlying55 (by kernel_rfl) (qfz zG) ?_)
  | (go_at_call 234; (with_reducible refine (hse _ _ hk hoG).mono ?_); rintro e w6 ⟨rfl, hb6⟩; replace hB := hB.next hb6; replace hR := hR.next hb6; replace hP4 := hP4.next hb6; replace hk := btz hk hb6; replace oG := newN oG hb6; replace hoG := ltN oG; have hsz := Nat.le_trans hsz hb6.size; clear hb6)
  | (go_at_call 233; (with_reducible refine (xRz _ _).mono ?_); rintro e w5 ⟨rfl, rfl⟩)
  | (go_at_call 233; (with_reducible refine (kUz _ _).mono ?_); rintro e w5 ⟨rfl, rfl⟩)
  | ((with_reducible refine qbz rfl _ _ _ rfl R rfl CF rfl zC hR (qfz zG) (qoz.trans zG.symm) oG.one ?_); intro V5 hR5 q5))
 obtain ⟨o9, b9⟩ := gPz hk (by have := hN1.out; have := hN2.out; omega) oG ⟨by have := hN1.out; have := hN2.out; omega, by have := hN2.out; omega⟩ q5
 exact bodyPost_ret (v := .agg CF) (xLz results185 rfl hR5 zG) rfl (Tel.told rfl o9 b9)
theorem vVz (h : Fw w F L X) (hf : (fnd X i).isSome = true) (hd : (fO X i).kind = 2) (hs : seeB L (fO X i) = true) (hcase : (chgB L (fO X i) = true) ∧ (dirE X L i true = 0) ∨ (chgB L (fO X i) = false) ∧ (dirE X L i true = 2)) : Calls prog 185 #[.agg F, .int .u64 i, .bool true] w (Tel (dirE X L i true) (fO X i) w) := by
 have hz : F.size = 55 := by obtain ⟨⟨_, _, _, _, _, _, _, _, _, hF, _⟩, _, _⟩ := h; exact hF.size
 have ga2 := isAgg3
 rcases hcase with ⟨hc, hE⟩ | ⟨hc, hE⟩
 case' inl =>
  rw [hE]
  clear hE
  have hff := fun (W : World) (hk : Below w.heap.size w W) => xiz (h.next hk) hf
  have hsx : Small (fO X i) := h.sml _ (vUz hf).1
  have hse := fun (W : World) (C : Array Value) (hk : Below w.heap.size w W) (hC : ObD (LtN W) W C (fO X i)) => jmz (h.next hk) hC hsx
  rw [hs] at hse
  have hch := fun (W : World) (C : Array Value) (hk : Below w.heap.size w W) (hC : ObD (LtN W) W C (fO X i)) => vYz (h.next hk) hC hsx
  rw [hc] at hch
  have HD : Hid ((fO X i).kind = 2) := hd
  clear hf hd hs hc
 case' inr =>
  rw [hE]
  clear hE
  have hff := fun (W : World) (hk : Below w.heap.size w W) => xiz (h.next hk) hf
  have hsx : Small (fO X i) := h.sml _ (vUz hf).1
  have hse := fun (W : World) (C : Array Value) (hk : Below w.heap.size w W) (hC : ObD (LtN W) W C (fO X i)) => jmz (h.next hk) hC hsx
  rw [hs] at hse
  have hch := fun (W : World) (C : Array Value) (hk : Below w.heap.size w W) (hC : ObD (LtN W) W C (fO X i)) => vYz (h.next hk) hC hsx
  rw [hc] at hch
  have HD : Hid ((fO X i).kind = 2) := hd
  clear hf hd hs hc
 all_goals go_enter func185, ntmps185
 all_goals go_wp2_with (first
  | go_skip
  | (with_reducible refine qcz rfl 203 _ rfl F rfl ?_; intro B W1 hN1 hB hk)
  | ((with_reducible refine qdz rfl _ rfl zC qsz ?_); have hx := oF; intro P W4 hN4 hP hk4; clear hx)
  | ((with_reducible refine qdz rfl _ rfl zC qsz ?_); intro R W2 hN2 hR hk2; replace hB := hB.next hk2; replace hk := btz hk hk2; clear hk2)
  | (with_reducible refine qhz (by kernel_rfl) 203 _ rfl B rfl F hB _ underlying203 (by kernel_rfl) (jJz hz) ?_)
  | (go_at_call 232; (with_reducible refine (hff _ hk).mono ?_); rintro e w3 hT; obtain ⟨CF, rfl, oF, hb3⟩ := hT.got rfl; clear hT)
  | ((with_reducible refine qbz rfl _ _ _ rfl P rfl CF rfl zC hP (qfz oF.size) (qoz.trans oF.size.symm) oF.one ?_); intro V4 hP4 q4; obtain ⟨hb5, oG⟩ := juz hb3 oF hN4 hk4 q4; have zG := oG.size; clear oF hb3 hk4 q4 hN4 hP; replace hB := hB.next hb5; replace hR := hR.next hb5; replace hk := btz hk hb5; have k1 := oG.kind; rw [HD.out] at k1; have hsz := hb5.size; have hoG := ltN oG; clear hb5)
  | (with_reducible refine qaz (by kernel_rfl) _ _ rfl P _ rfl _ _ hP4 _ k1 ga2 ?_)
  | (with_reducible refine qhz (by kernel_rfl) 55 _ rfl P rfl CF hP4 _ underlying55 (by kernel_rfl) (qfz zG) ?_)
  | (go_at_call 234; (with_reducible refine (hse _ _ hk hoG).mono ?_); rintro e w6 ⟨rfl, hb6⟩; replace hB := hB.next hb6; replace hR := hR.next hb6; replace hP4 := hP4.next hb6; replace hk := btz hk hb6; replace oG := newN oG hb6; replace hoG := ltN oG; have hsz := Nat.le_trans hsz hb6.size; clear hb6)
  | (go_at_call 235; (with_reducible refine (hch _ _ hk hoG).mono ?_); rintro e w7 ⟨rfl, hb6⟩; replace hB := hB.next hb6; replace hR := hR.next hb6; replace hP4 := hP4.next hb6; replace hk := btz hk hb6; replace oG := newN oG hb6; replace hoG := ltN oG; have hsz := Nat.le_trans hsz hb6.size; clear hb6)
  | (go_at_call 233; (with_reducible refine (xRz _ _).mono ?_); rintro e w5 ⟨rfl, rfl⟩)
  | (go_at_call 233; (with_reducible refine (kUz _ _).mono ?_); rintro e w5 ⟨rfl, rfl⟩)
  | ((with_reducible refine qbz rfl _ _ _ rfl R rfl CF rfl zC hR (qfz zG) (qoz.trans zG.symm) oG.one ?_); intro V5 hR5 q5))
 ·exact ⟨rfl, Tel.threw rfl (by decide) hk⟩
 ·obtain ⟨o9, b9⟩ := gPz hk (by have := hN1.out; have := hN2.out; omega) oG ⟨by have := hN1.out; have := hN2.out; omega, by have := hN2.out; omega⟩ q5
  exact bodyPost_ret (v := .agg CF) (xLz results185 rfl hR5 zG) rfl (Tel.told rfl o9 b9)
theorem dir_v (h : Fw w F L X) : Calls prog 185 #[.agg F, .int .u64 i, .bool wr] w (Tel (dirE X L i wr) (fO X i) w) := by
 cases hf : (fnd X i).isSome with
 | false => exact dir_a h hf (yCz (by rw [hf]; exact fun q => absurd q.1 (by decide)))
 | true =>
  by_cases hd : (fO X i).kind = 2
  ·cases hs : seeB L (fO X i) with
   | false => exact dir_c h hf hd hs (yCz (by rw [hs]; exact fun q => absurd q.2.2 (by decide)))
   | true =>
    cases wr with
    | false => exact dir_d h hf hd hs (dir_ok ⟨hf, hd, hs⟩ (fun q => absurd q.1 (by decide)))
    | true =>
     cases hc : chgB L (fO X i) with
     | true => exact vVz h hf hd hs (.inl ⟨hc, (dir_ok ⟨hf, hd, hs⟩ (by rw [hc]; exact fun q => absurd q.2 (by decide)))⟩)
     | false => exact vVz h hf hd hs (.inr ⟨hc, (dir_two ⟨hf, hd, hs⟩ ⟨rfl, hc⟩)⟩)
  ·exact dir_b h hf hd (yCz fun q => hd q.2.1)
theorem wZz (off : Nat) : ∀ (v : List Value) (k : Nat) (cs : Array Value), off + k + v.length ≤ cs.size →
  ((v.zipIdx k).foldl (fun (c : Array Value) (p : Value × Nat) => c.setIfInBounds (off + p.2) p.1) cs).size = cs.size ∧
  ∀ i, ((v.zipIdx k).foldl (fun (c : Array Value) (p : Value × Nat) => c.setIfInBounds (off + p.2) p.1) cs)[i]? = if off + k ≤ i ∧ i < off + k + v.length then v[i - (off + k)]? else cs[i]?
 | [], k, cs, _ => ⟨rfl, fun i => by rw [if_neg (by simp)]; rfl⟩
 | a :: r, k, cs, h => by
  simp only [List.length_cons] at h
  obtain ⟨h1, h2⟩ := wZz off r (k + 1) (cs.setIfInBounds (off + k) a) (by simp; omega)
  simp only [List.zipIdx_cons, List.foldl_cons]
  refine ⟨h1.trans (by simp), fun i => (h2 i).trans ?_⟩
  rw [qEz (by omega)]
  simp only [List.length_cons]
  by_cases e : off + k = i
  ·subst e
   rw [if_neg (by omega), if_pos rfl, if_pos (by omega)]
   simp
  ·rw [if_neg e]
   by_cases q : off + (k + 1) ≤ i ∧ i < off + (k + 1) + r.length
   ·rw [if_pos q, if_pos (by omega), show i - (off + k) = i - (off + (k + 1)) + 1 from by omega, List.getElem?_cons_succ]
   ·rw [if_neg q, if_neg (by omega)]
theorem wQz {place : Nat → Option (Nat × Nat)} {cs C : Array Value} {i o n : Nat} {rest : List (Nat × Value)} (hp : place i = some (o, n)) (h1 : C.size = n) (h2 : o + C.size ≤ cs.size) : Instr.fill place cs ((i, .agg C) :: rest) = Instr.fill place ((C.toList.zipIdx 0).foldl (fun (c : Array Value) (p : Value × Nat) => c.setIfInBounds (o + p.2) p.1) cs) rest := by
 rw [Instr.fill, hp]
 simp only [Value.cells]
 refine (if_neg ?_).trans ?_
 ·simp [h1]
  omega
 ·rw [← Array.foldl_toList, Array.toList_zipIdx]
def zF : Array Value := zC ++ #[.int .i64 0, .int .u64 0, .int .u64 0, .slice none 0 0]
theorem xXz : zF.size = 55 := by kernel_rfl
theorem ggz (parts : List (Nat × Value)) : prog.built 203 parts = Instr.fill (fun i => (#[(0, 51), (51, 4)] : Array (Nat × Nat))[i]?) zF parts := by kernel_rfl
theorem built_f {C G : Array Value} (hC : C.size = 51) (hG : G.size = 4) : ∃ F, prog.built 203 [(0, .agg C), (1, .agg G)] = some F ∧ F.size = 55 ∧ (∀ i, i < 51 → F[i]? = C[i]?) ∧ ∀ i, i < 4 → F[51 + i]? = G[i]? := by
 rw [ggz]
 obtain ⟨a1, a2⟩ := wZz 0 C.toList 0 zF (by rw [xXz]; simp [hC])
 obtain ⟨b1, b2⟩ := wZz 51 G.toList 0 ((C.toList.zipIdx 0).foldl (fun (c : Array Value) (p : Value × Nat) => c.setIfInBounds (0 + p.2) p.1) zF) (by rw [a1, xXz]; simp [hG])
 refine ⟨_, ?_, b1.trans (a1.trans xXz), fun i hi => ?_, fun i hi => ?_⟩
 ·rw [wQz (o := 0) (n := 51) rfl hC (by rw [xXz, hC]; decide), wQz (o := 51) (n := 4) rfl hG (by rw [a1, xXz, hG]; decide)]
  rfl
 ·rw [b2 i, if_neg (by omega), a2 i, if_pos (by simp [hC]; omega)]
  simp
 ·rw [b2 (51 + i), if_pos (by simp [hG]; omega)]
  simp
theorem fd_of {C G F : Array Value} {t ke ro : Int} {ao aL : Option Addr} {n cap nL cL : Nat} (hG : G = #[.int .i64 t, .int .u64 ke, .int .u64 ro, .slice ao n cap]) (h1 : F.size = 55) (h2 : ∀ i, i < 51 → F[i]? = C[i]?) (h3 : ∀ i, i < 4 → F[51 + i]? = G[i]?) (h4 : C[2]? = some (.slice aL nL cL)) (h5 : C.all (·.oneCell') = true) : Fd F t ke ro ao n cap aL nL cL := by
 subst hG
 refine ⟨h1, ?_, (h2 2 (by decide)).trans h4, ?_⟩
 ·apply Array.ext_getElem?
  intro i
  by_cases hi : i < 4
  ·rw [q1z (by omega) hi, h3 i hi]
  ·rw [Array.getElem?_eq_none (by simp; omega), Array.getElem?_eq_none (by simp; omega)]
 ·apply w1z
  intro j v e
  by_cases hj : j < 51
  ·rw [h2 j hj] at e
   exact wqz h5 e
  ·have hl : j < 55 := by rw [← h1]; exact (Array.getElem?_eq_some_iff.1 e).1
   obtain ⟨m, rfl⟩ : ∃ m, j = 51 + m := ⟨j - 51, by omega⟩
   rw [h3 m (by omega)] at e
   exact wqz (T := #[.int .i64 t, .int .u64 ke, .int .u64 ro, .slice ao n cap]) (by kernel_rfl) e
theorem ta_hit (k : Int) (t : Nat) (w : World) : (Instr.typeAssert (.iface 31 (.int .i64 k)) t 31 true).run prog w = .ok (.tuple #[.int .i64 k, .bool true]) w := by
 simp [Instr.typeAssert, run_underlying underlying31]
theorem grz (t : Nat) (w : World) : (Instr.typeAssert .nilIface t 31 true).run prog w = .ok (.tuple #[.int .i64 0, .bool false]) w := by
 have hz : (zeroValue 31).run prog w = .ok (.int .i64 0) w := by kernel_rfl
 simp [Instr.typeAssert, run_underlying underlying31, hz]
theorem k6z (p : Addr) (x k : Int) (older : List PanicEntry) (w : World) (hc : w.cell? p = some (.int .i64 x)) (hz : w.frozen? p = false) :
  CallsD prog 231 #[.pointer (some p)] (.panicking ({ v := .iface 31 (.int .i64 k), recovered := false } :: older)) w fun e u' w' =>
   e = .returned (.tuple #[]) ∧ u' = .panicking ({ v := .iface 31 (.int .i64 k), recovered := true } :: older) ∧ w' = w.setCell p (.int .i64 k) := by
 refine callsD_of_wpS func231 rfl fun c₀ cs hu => ?_
 apply wpS_seq
 apply wpS_region
 simp [wpOpsS, go_sem, recoverD, hu, ntmps231, Exit.thenS, ta_hit]
 apply wpS_seq
 apply wpS_region
 simp [wpOpsS, go_sem, Exit.thenS]
 refine wpS_cond (t := true) (by simp [Act.eval, Array.replicate]) ?_
 simp only [if_true]
 apply wpS_region
 simp [wpOpsS, go_sem, hc, hz, bodyPostS, results, results231]
theorem gfz (p : Addr) (w : World) :
  CallsD prog 231 #[.pointer (some p)] .returning w fun e u' w' => e = .returned (.tuple #[]) ∧ u' = .returning ∧ w' = w := by
 refine callsD_of_wpS func231 rfl fun c₀ cs hu => ?_
 apply wpS_seq
 apply wpS_region
 simp [wpOpsS, go_sem, recoverD, hu, ntmps231, Exit.thenS, grz]
 apply wpS_seq
 apply wpS_region
 simp [wpOpsS, go_sem, Exit.thenS]
 refine wpS_cond (t := false) (by simp [Act.eval, Array.replicate]) ?_
 simp only [Bool.false_eq_true, if_false]
 refine wpS_of_wp (wp_skip ?_)
 cases c₀
 simp_all [bodyPostS, results, results231]
theorem res40e {fn : Func} {p q : Tmp} (h : fn.results = #[.cell p 55, .cell q 31]) {tmps : Array Value} {O E : Nat} {C : Array Value} (hp : tmps.getD p undef = .pointer (some ⟨O, 0, none⟩)) (hq : tmps.getD q undef = .pointer (some ⟨E, 0, none⟩)) (hO : Blk w O C 55) (hs : C.size = 51) (hE : w.cell? ⟨E, 0, none⟩ = some (.int .i64 k)) : (results fn tmps).run prog w = .ok (.tuple #[.agg C, .int .i64 k]) w := by
 have h1 := run_loadVar_mid (P := prog) w O 0 55 C.toList _ hO.range0 underlying55 rfl (by simpa using qfz hs)
 rw [Array.toArray_toList] at h1
 have h2 : (loadVar 31 ⟨E, 0, none⟩).run prog w = .ok (.int .i64 k) w := by
  have := isAgg31
  simp [go_sem, hE]
 have hp' : tmps[p]?.getD undef = .pointer (some ⟨O, 0, none⟩) := by simpa using hp
 have hq' : tmps[q]?.getD undef = .pointer (some ⟨E, 0, none⟩) := by simpa using hq
 simp only [results, h]
 simp [Sem.run_bind, Result.andThen, hp', hq', asAddr, h1, h2]
theorem bGz (w w1 : World) (hb : Below (w.alloc (.cells #[.int .i64 0] 31)).heap.size (w.alloc (.cells #[.int .i64 0] 31)) w1) : w1.cell? ⟨w.heap.size, 0, none⟩ = some (.int .i64 0) ∧ w1.frozen? ⟨w.heap.size, 0, none⟩ = false :=
 ⟨(hb.cell (p := ⟨w.heap.size, 0, none⟩) (by simp)).trans (by simp), (hb.frozen (p := ⟨w.heap.size, 0, none⟩) (by simp)).trans (by simp)⟩
theorem bPz (f : Nat) (lb : Array Value) (ef : ∀ args w, (callFunc f args).run prog w = .ok (.enter f args) w) (h : ∀ W, Below w.heap.size w W → Calls prog f lb W (Tel 0 x W)) :
  Calls prog 183 #[.func (.func f) #[] lb] w fun e w' => ∃ C, e = .returned (.tuple #[.agg C, .int .i64 0]) ∧ ObD (New w w') w' C x ∧ Below w.heap.size w w' := by
 have hmf : ∀ (fn : Fn) (first cap : Array Value) (w : World), (Instr.makeFunc fn first cap).run prog w = .ok (.func fn first cap) w := fun _ _ _ _ => rfl
 go_enter_defers func183, ntmps183
 go_wp2_with (first
  | ((with_reducible refine qdz rfl _ rfl zC qsz ?_); intro O W1 hN1 hO hk)
  | (go_at_fn f; refine (h _ (hk.alloc hk.size _)).mono ?_; rintro e w1 hT; obtain ⟨C, rfl, oC, hb⟩ := hT.got rfl; clear hT; obtain ⟨hc1, hz1⟩ := bGz W1 w1 hb; have hO1 := (hO.next ((brz _ W1).alloc (lrz _) _)).next hb; have zC1 := oC.size)
  | ((with_reducible refine qbz rfl _ _ _ rfl O rfl C rfl zC hO1 (qfz zC1) (qoz.trans zC1.symm) oC.one ?_); intro V2 hO2 q2; have hne : W1.heap.size ≠ O := (by have := hN1.out; omega); have hc2 := (World.cell?_of_block (w := w1) (a := ⟨W1.heap.size, 0, none⟩) (q2.block _ hne)).trans hc1; have hz2 : V2.frozen? ⟨W1.heap.size, 0, none⟩ = false := (by have e := q2.block _ hne; unfold World.frozen? at hz1 ⊢; rw [e]; exact hz1)))
 refine leaves_cons (f := 231) (args := #[.pointer (some ⟨W1.heap.size, 0, none⟩)]) (by simp) (by simp [go_sem]) ?_
 refine (gfz ⟨W1.heap.size, 0, none⟩ _).mono ?_
 rintro e u' w'' ⟨rfl, rfl, rfl⟩
 have hcs : (V2.setCell ⟨W1.heap.size, 0, none⟩ (.int .i64 0)).cell? ⟨W1.heap.size, 0, none⟩ = some (.int .i64 0) := World.cell?_setCell_same' _ _ _ (by rw [hc2]; rfl)
 have oE := Oth.setCell V2 W1.heap.size 0 (.int .i64 0)
 have hsz : (W1.alloc (.cells #[.int .i64 0] 31)).heap.size = W1.heap.size + 1 := by simp
 have hn := hN1.out
 have e2 := q2.size
 have e3 := oE.size
 have hbz := hb.size
 refine ⟨_, res40e results183 rfl rfl (hO2.other oE (by omega)) zC1 hcs, C, rfl, (oC.laterK fun b hb => ?_).wide fun b hb => ⟨by have := hb.1; omega, by have := hb.2; omega⟩, ?_⟩
 ·have h1 := hb.1
  rw [oE.block b (by omega), q2.block b (by omega)]
 ·exact oE.below _ _ (by omega) (q2.below _ _ (by omega) ((hk.alloc hk.size _).trans (hb.mono (by omega))))
theorem gez (f : Nat) (lb : Array Value) (ef : ∀ args w, (callFunc f args).run prog w = .ok (.enter f args) w) (hk0 : k ≠ 0) (h : ∀ W, Below w.heap.size w W → Calls prog f lb W (Tel k x W)) :
  Calls prog 183 #[.func (.func f) #[] lb] w fun e w' => ∃ C, e = .returned (.tuple #[.agg C, .int .i64 k]) ∧ ObD (New w w') w' C zOb ∧ Below w.heap.size w w' := by
 have hmf : ∀ (fn : Fn) (first cap : Array Value) (w : World), (Instr.makeFunc fn first cap).run prog w = .ok (.func fn first cap) w := fun _ _ _ _ => rfl
 go_enter_defers func183, ntmps183
 go_wp2_with (first
  | ((with_reducible refine qdz rfl _ rfl zC qsz ?_); intro O W1 hN1 hO hk)
  | (go_at_fn f; refine (h _ (hk.alloc hk.size _)).mono ?_; rintro e w1 hT; obtain ⟨rfl, hb⟩ := hT.lost hk0; clear hT; dsimp only [wfz]))
 obtain ⟨hc1, hz1⟩ := bGz W1 w1 hb
 have hO1 := (hO.next ((brz _ W1).alloc (lrz _) (.cells #[.int .i64 0] 31))).next hb
 refine leaves_cons (f := 231) (args := #[.pointer (some ⟨W1.heap.size, 0, none⟩)]) (by simp) (by simp [go_sem]) ?_
 refine (k6z ⟨W1.heap.size, 0, none⟩ 0 k [] _ hc1 hz1).mono ?_
 rintro e u' w'' ⟨rfl, rfl, rfl⟩
 have hcs : (w1.setCell ⟨W1.heap.size, 0, none⟩ (.int .i64 k)).cell? ⟨W1.heap.size, 0, none⟩ = some (.int .i64 k) := World.cell?_setCell_same' _ _ _ (by rw [hc1]; rfl)
 have oE := Oth.setCell w1 W1.heap.size 0 (.int .i64 k)
 have hsz : (W1.alloc (.cells #[.int .i64 0] 31)).heap.size = W1.heap.size + 1 := by simp
 have hn := hN1.out
 exact ⟨_, res40e results183 rfl rfl (hO1.other oE (by omega)) qoz hcs, zC, rfl, zC_d _ _, oE.below _ _ (by omega) ((hk.alloc hk.size _).trans (hb.mono (by omega)))⟩
theorem caught_v (f : Nat) (lb : Array Value) (ef : ∀ args w, (callFunc f args).run prog w = .ok (.enter f args) w) (h : ∀ W, Below w.heap.size w W → Calls prog f lb W (Tel k x W)) :
  Calls prog 183 #[.func (.func f) #[] lb] w fun e w' => ∃ C, e = .returned (.tuple #[.agg C, .int .i64 k]) ∧ ObD (New w w') w' C (resO k x) ∧ Below w.heap.size w w' := by
 by_cases hk0 : k = 0
 ·subst hk0
  exact (bPz f lb ef h).mono fun e w' ⟨C, e1, o, hb⟩ => ⟨C, e1, by unfold resO; rw [if_pos rfl]; exact o, hb⟩
 ·exact (gez f lb ef hk0 h).mono fun e w' ⟨C, e1, o, hb⟩ => ⟨C, e1, by unfold resO; rw [if_neg hk0]; exact o, hb⟩
section
variable {P : Program} {ops : Array Oper} {rest : List Oper} {op : Oper} {a : Act} {Q : Exit → Act → World → Prop} {w : World}
theorem kDz (hgd : op.guard = none) (ty : TypeId) (x : Operand) (ho : op.op = .box ty x) (v : Value) (hx : a.eval x = v) (hv : v.cells = #[v])
  (h : ∀ B W, Hid (w.heap.size = B ∧ W.heap.size = B + 1) → Blk W B #[v] ty → Below w.heap.size w W → wpList P ops Q rest (a.put op.dst (.pointer (some ⟨B, 0, none⟩))) W) : wpList P ops Q (op :: rest) a w :=
 wpList_plain hgd fun K hK => by
  unfold Oper.wp execOp
  simp only [ho, hx, Instr.box, newVar, newRow, newObj, Sem.run_bind, hv]
  exact hK _ _ (h _ _ ⟨rfl, by simp⟩ (Blk.new w #[v] ty) ((brz _ w).alloc (lrz _) _))
end
theorem zeroF (w : World) : (zeroValue 203).run prog w = .ok (.agg zF) w := by kernel_rfl
variable {w : World} {X : List Ob} {i : Int} {F : Array Value} {wr : Bool} {B Q K : Nat}
theorem dir1_ok {L : Lb} (h : Fw w F L X) (hB : Blk w B F 203) (hQ : Blk w Q #[.int .u64 i] 22) (hK : Blk w K #[.bool wr] 4)  (hE : dirE X L i wr = 0) : Calls prog 184 #[.pointer (some ⟨B, 0, none⟩), .pointer (some ⟨Q, 0, none⟩), .pointer (some ⟨K, 0, none⟩)] w (Tel (dirE X L i wr) (fO X i) w) := by
 have hmf : ∀ (fn : Fn) (first cap : Array Value) (w : World), (Instr.makeFunc fn first cap).run prog w = .ok (.func fn first cap) w := fun _ _ _ _ => rfl
 have hz : F.size = 55 := by obtain ⟨⟨_, _, _, _, _, _, _, _, _, hF, _⟩, _, _⟩ := h; exact hF.size
 have hin := fun (W : World) (hk : Below w.heap.size w W) => dir_v (i := i) (wr := wr) (h.next hk)
 have HE : Hid (dirE X L i wr = 0) := hE
 clear hE
 generalize dirE X L i wr = ek at hin HE ⊢
 go_enter func184, ntmps184
 go_wp2_with (first
  | ((with_reducible refine qdz rfl _ rfl zC qsz ?_); intro R W2 hN2 hR hk; replace hB := hB.next hk; replace hQ := hQ.next hk; replace hK := hK.next hk; skip)
  | (with_reducible refine qhz (by kernel_rfl) 203 _ rfl B rfl F hB _ underlying203 (by kernel_rfl) (jJz hz) ?_)
  | (with_reducible refine qaz (by kernel_rfl) _ _ rfl Q _ rfl _ _ hQ (.int .u64 i) rfl isAgg22 ?_)
  | (with_reducible refine qaz (by kernel_rfl) _ _ rfl K _ rfl _ _ hK (.bool wr) rfl isAgg4 ?_)
  | (go_at_call 185; (with_reducible refine (hin _ hk).mono ?_); rintro e w3 hT; obtain ⟨CF, rfl, oF, hb3⟩ := hT.got HE.out; clear hT; replace hR := hR.next hb3; have hk3 := btz hk hb3; have zF := oF.size)
  | ((with_reducible refine qbz rfl _ _ _ rfl R rfl CF rfl zC hR (qfz zF) (qoz.trans zF.symm) oF.one ?_); intro V5 hR5 q5))
 obtain ⟨o9, b9⟩ := gPz hk3 hk.size oF ⟨by have := hN2.out; omega, by have := hN2.out; omega⟩ q5
 exact bodyPost_ret (v := .agg CF) (xLz results184 rfl hR5 zF) rfl (Tel.told HE.out o9 b9)
theorem dir1_no {L : Lb} (h : Fw w F L X) (hB : Blk w B F 203) (hQ : Blk w Q #[.int .u64 i] 22) (hK : Blk w K #[.bool wr] 4)  (hE : dirE X L i wr ≠ 0) : Calls prog 184 #[.pointer (some ⟨B, 0, none⟩), .pointer (some ⟨Q, 0, none⟩), .pointer (some ⟨K, 0, none⟩)] w (Tel (dirE X L i wr) (fO X i) w) := by
 have hmf : ∀ (fn : Fn) (first cap : Array Value) (w : World), (Instr.makeFunc fn first cap).run prog w = .ok (.func fn first cap) w := fun _ _ _ _ => rfl
 have hz : F.size = 55 := by obtain ⟨⟨_, _, _, _, _, _, _, _, _, hF, _⟩, _, _⟩ := h; exact hF.size
 have hin := fun (W : World) (hk : Below w.heap.size w W) => dir_v (i := i) (wr := wr) (h.next hk)
 have HE : Hid (dirE X L i wr ≠ 0) := hE
 clear hE
 generalize dirE X L i wr = ek at hin HE ⊢
 go_enter func184, ntmps184
 go_wp2_with (first
  | ((with_reducible refine qdz rfl _ rfl zC qsz ?_); intro R W2 hN2 hR hk; replace hB := hB.next hk; replace hQ := hQ.next hk; replace hK := hK.next hk; skip)
  | (with_reducible refine qhz (by kernel_rfl) 203 _ rfl B rfl F hB _ underlying203 (by kernel_rfl) (jJz hz) ?_)
  | (with_reducible refine qaz (by kernel_rfl) _ _ rfl Q _ rfl _ _ hQ (.int .u64 i) rfl isAgg22 ?_)
  | (with_reducible refine qaz (by kernel_rfl) _ _ rfl K _ rfl _ _ hK (.bool wr) rfl isAgg4 ?_)
  | (go_at_call 185; (with_reducible refine (hin _ hk).mono ?_); rintro e w3 hT; obtain ⟨rfl, hb3⟩ := hT.lost HE.out))
 exact ⟨rfl, Tel.threw rfl HE.out (btz hk hb3)⟩
theorem dir1_v {L : Lb} (h : Fw w F L X) (hB : Blk w B F 203) (hQ : Blk w Q #[.int .u64 i] 22) (hK : Blk w K #[.bool wr] 4)  : Calls prog 184 #[.pointer (some ⟨B, 0, none⟩), .pointer (some ⟨Q, 0, none⟩), .pointer (some ⟨K, 0, none⟩)] w (Tel (dirE X L i wr) (fO X i) w) := by
 by_cases hE : dirE X L i wr = 0
 ·exact dir1_ok h hB hQ hK  hE
 ·exact dir1_no h hB hQ hK  hE
theorem yDz : ∀ args w, (callFunc 184 args).run prog w = .ok (.enter 184 args) w := enters_of func184 (by kernel_rfl) rfl
variable {ao : Option Addr} {C : Array Value} {t ke ro : Int}
theorem uvz {n cap : Nat} {x : Ob} (h : Obs w ao n cap X) (hs : Srt X) (hn : n ≤ 4096) (hsm : q3z X) (hC : ObD (LtN w) w C x) (hl : x.label.length < 1048576)  : Calls prog 144 #[.agg #[.int .i64 t, .int .u64 ke, .int .u64 ro, .slice ao n cap], .agg C, .int .u64 i, .bool wr] w fun e w' => ∃ C', e = .returned (.tuple #[.agg C', .int .i64 (dirE X x.label i wr)]) ∧ ObD (New w w') w' C' (resO (dirE X x.label i wr) (fO X i)) ∧ Below w.heap.size w w' := by
 have hmf : ∀ (fn : Fn) (first cap : Array Value) (w : World), (Instr.makeFunc fn first cap).run prog w = .ok (.func fn first cap) w := fun _ _ _ _ => rfl
 obtain ⟨F, hbt, f1, f2, f3⟩ := built_f (C := C) (G := #[.int .i64 t, .int .u64 ke, .int .u64 ro, .slice ao n cap]) hC.size rfl
 obtain ⟨a2, n2, c2, e2, l2⟩ := hC.label
 have hF := fd_of rfl f1 f2 f3 e2 hC.one
 have hFw := fun (W : World) (hk : Below w.heap.size w W) => (⟨⟨t, ke, ro, ao, n, cap, a2, n2, c2, hF, qwz h hk, LabD.lab' l2 hk, by have := l2.1; omega, hn⟩, hs, hsm⟩ : Fw W F x.label X)
 have ho := hF.one
 have hz := hC.size
 have hzg : (prog.info? 25).map (·.size) = some (#[.int .i64 t, .int .u64 ke, .int .u64 ro, .slice ao n cap] : Array Value).size := by kernel_rfl
 obtain ⟨D, hD⟩ : ∃ D : Array Value, D = #[.int .i64 t, .int .u64 ke, .int .u64 ro, .slice ao n cap] := ⟨_, rfl⟩
 rw [← hD] at hbt hzg
 rw [← hD]
 have hzf : zF.size = F.size := xXz.trans f1.symm
 clear hD f2 f3 hF h hs hsm l2 e2
 have hca := fun (W : World) (B Q K : Nat) (hB : Blk W B F 203) (hQ : Blk W Q #[.int .u64 i] 22) (hK : Blk W K #[.bool wr] 4) (hk : Below w.heap.size w W) => caught_v 184 #[.pointer (some ⟨B, 0, none⟩), .pointer (some ⟨Q, 0, none⟩), .pointer (some ⟨K, 0, none⟩)] yDz (w := W) (fun V hb => dir1_v (hFw V (btz hk hb)) (hB.next hb) (hQ.next hb) (hK.next hb) )
 have hcQ : (.int .u64 i : Value).cells = #[.int .u64 i] := rfl
 have hcK : (.bool wr : Value).cells = #[.bool wr] := rfl
 generalize dirE X x.label i wr = ek at hca ⊢
 go_enter func144, ntmps144
 go_wp2_with (first
  | (with_reducible refine qcz rfl 25 _ rfl D rfl ?_; intro B W1 hN1 hB hk)
  | (with_reducible refine qcz rfl 55 _ rfl C rfl ?_; intro T W3 hN3 hT hk3; replace hB := hB.next hk3; replace hk := btz hk hk3; clear hk3)
  | (with_reducible refine kDz rfl 22 _ rfl (.int .u64 i) rfl hcQ ?_; intro Q VQ hNQ hQ hkQ; replace hB := hB.next hkQ; replace hT := hT.next hkQ; replace hk := btz hk hkQ; clear hkQ)
  | (with_reducible refine kDz rfl 4 _ rfl (.bool wr) rfl hcK ?_; intro K VK hNK hK hkK; replace hB := hB.next hkK; replace hT := hT.next hkK; replace hQ := hQ.next hkK; replace hk := btz hk hkK; clear hkK)
  | ((with_reducible refine qdz rfl 55 rfl zC qsz ?_); intro R W2 hN2 hR hk2; replace hB := hB.next hk2; replace hT := hT.next hk2; replace hQ := hQ.next hk2; replace hK := hK.next hk2; replace hk := btz hk hk2; clear hk2)
  | (with_reducible refine qhz (by kernel_rfl) 55 _ rfl T rfl C hT _ underlying55 (by kernel_rfl) (qfz hz) ?_)
  | (with_reducible refine qhz (by kernel_rfl) 25 _ rfl B rfl D hB _ underlying25 (by kernel_rfl) hzg ?_)
  | ((with_reducible refine qyz rfl 203 [(0, _), (1, _)] rfl F ?hf ?_); (case hf => exact hbt))
  | ((with_reducible refine qdz rfl 203 rfl zF zeroF ?_); intro P W6 hN6 hP hk6; have hw6 := hk6; clear hw6; replace hB := hB.next hk6; replace hT := hT.next hk6; replace hQ := hQ.next hk6; replace hK := hK.next hk6; replace hR := hR.next hk6; replace hk := btz hk hk6; clear hk6)
  | ((with_reducible refine qbz rfl _ _ _ rfl P rfl F rfl zF hP (jJz f1) hzf ho ?_); intro V4 hP4 q4; have l0 := hN1.out; have l1 := hN3.out; have lQ := hNQ.out; have lK := hNK.out; have l2 := hN2.out; have l6 := hN6.out; replace hQ := hQ.other q4 (by omega); replace hK := hK.other q4 (by omega); replace hR := hR.other q4 (by omega); replace hk := q4.below _ _ (by omega) hk)
  | (go_at_call 183; (with_reducible refine (hca _ _ _ _ hP4 hQ hK hk).mono ?_); rintro e w5 ⟨CF, rfl, oF, hb5⟩; have zF := oF.size; replace hR := hR.next hb5; have hk5 := btz hk hb5)
  | ((with_reducible refine qbz rfl _ _ _ rfl R rfl CF rfl zC hR (qfz zF) (qoz.trans zF.symm) oF.one ?_); intro V5 hR5 q5))
 have e4 := q4.size
 obtain ⟨o9, b9⟩ := gPz hk5 hk.size oF ⟨by omega, by omega⟩ q5
 exact bodyPost_ret (v := .tuple #[.agg CF, .int .i64 ek]) (kRz results144 rfl rfl hR5 zF) rfl ⟨CF, rfl, o9, b9⟩
theorem bxz {N : Nat} (hN : N < 4294967296) : Calls prog 270 #[.slice none 0 0, .int .i64 (N : Int)] w fun e w' => ∃ v, e = .returned v ∧ w'.ownsRow w.heap.size 22 1 v 0 [] ∧ Below w.heap.size w w' := by
 have h1 : ¬ ((N : Int) < 0) := by omega
 rcases Nat.eq_zero_or_pos N with h0 | h0
 ·subst h0
  go_enter func270, ntmps270
  go_wp2
  go_ret
  exact ⟨_, rfl, World.ownsRow_nil _ _ _ _, brz _ _⟩
 ·obtain ⟨i0, hi, hz0, hz1, hz2⟩ := info_parts u2z
  have hG := grownCap_ge w (0 + N) 0 22
  have hG63 := grownCap_le_maxLen w (0 + N) 0 22 (by unfold maxLen; omega)
  have hrz : ∀ ty, (Builtin.append_ #[40, 3] ty #[.slice none 0 0, .int .i64 (N : Int)]).run prog w = .ok (.slice (some ⟨w.heap.size, 0, none⟩) (0 + N) (grownCap w (0 + N) 0 22)) (w.drew.alloc (.cells (([] : List Value).toArray ++ Builtin.zeroCells (Value.int .u64 0).cells N ++ Builtin.zeroCells (Value.int .u64 0).cells (grownCap w (0 + N) 0 22 - (0 + N))) 22)) := fun ty =>
   Lib.run_append_grow_zeros w 40 3 ty 22 i0 (.int .u64 0) .i64 .i64 underlying40 underlying3 hi hz0 none 0 0 [] (run_firstCells_none w.drew i0.size 0 0 0) N h0 (by omega) (by omega) (by omega) (by rw [hz2]; omega) (by rw [hz2]; exact growslice_fits (by omega) (by omega))
  obtain ⟨G, hGe⟩ : ∃ G, G = grownCap w (0 + N) 0 22 := ⟨_, rfl⟩
  rw [← hGe] at hrz hG hG63
  obtain ⟨cur, hcur⟩ : ∃ cur, cur = (([] : List Value).toArray ++ Builtin.zeroCells (Value.int .u64 0).cells N ++ Builtin.zeroCells (Value.int .u64 0).cells (G - (0 + N))) := ⟨_, rfl⟩
  have hcs : cur.size = G * 1 := by
   rw [hcur]
   have hzz : (Value.int .u64 0).cells.size = 1 := rfl
   simp [Builtin.zeroCells, hzz]
   omega
  rw [← hcur] at hrz
  have hbl : (w.drew.alloc (.cells cur 22)).heap[w.heap.size]? = some (.cells cur 22 (0, 0)) := heap_alloc_new w.drew _
  have hbe : Below w.heap.size w (w.drew.alloc (.cells cur 22)) := ((brz w.heap.size w).drew).alloc (lrz _) _
  have hG63' : G ≤ 9223372036854775807 := by unfold maxLen at hG63; omega
  clear hGe hcur
  generalize w.drew.alloc (.cells cur 22) = W1 at hrz hbl hbe
  go_enter func270, ntmps270
  go_wp2_with (at_builtin; refine Lib.wpList_append_run _ rfl _ _ _ _ rfl _ _ rfl rfl _ _ (hrz _) ?_)
  go_ret
  refine ⟨_, rfl, ⟨rfl, .inr ⟨w.heap.size, G, cur, rfl, lrz _, hbl, Nat.zero_le _, hG63, hcs, ?_⟩⟩, hbe⟩
  simp
theorem yFz {Bq m : Nat} {Cq : Array Value} {af : Nat → Option Addr} {nf cf : Nat → Nat} {sf : Nat → List Value} (hb : Blk w Bq Cq 40) (hc : ∀ i, i < m → Cq[i]? = some (.slice (af i) (nf i) (cf i))) (hr : ∀ i, i < m → RowC 1 (LtN w) w (af i) (nf i) (cf i) (sf i)) (h1 : ∀ i, i < m → ∀ u ∈ sf i, u.oneCell' = true) (hm : m < 4294967296) (hN : psum nf m < 4294967296) :
  Calls prog 242 #[.slice (some ⟨Bq, 0, none⟩) m m] w fun e w' => ∃ v, e = .returned v ∧ w'.ownsRow w.heap.size 22 1 v (psum nf m) (pcat sf m) ∧ Below w.heap.size w w' := by
 have ga3 := isAgg40
 go_enter func242, ntmps242
 go_wp2
 go_loopw [3, 11] (fun s i wr => ∃ k : Nat, k ≤ m ∧ i = .int .i64 k ∧ s = .int .i64 (psum nf k : Nat) ∧ Blk wr Bq Cq 40 ∧ Below w.heap.size w wr) (fun _ i _ => m - (intOf i).toNat)
 case atStart => exact ⟨0, Nat.zero_le _, rfl, rfl, hb, brz _ _⟩
 case round =>
  obtain ⟨k, hk, rfl, rfl, hbk, hbw⟩ := hrel
  by_cases hkm : k < m
  ·have hkm' : (k : Int) < m := by omega
   have hcell := (hbk.cell k).trans (hc k hkm)
   have hps : psum nf k + nf k < 4294967296 := Nat.lt_of_le_of_lt (xNz nf (show k + 1 ≤ m from hkm)) hN
   have hns : ¬ ((psum nf k + nf k : Nat) : Int) < 0 := by omega
   go_wp2
   go_roundw
   case rel => exact ⟨k + 1, hkm, by go_num, by rw [show psum nf (k + 1) = psum nf k + nf k from rfl]; go_num, hbk, hbw⟩
   case measure => simp [intOf]; omega
  ·obtain rfl : k = m := by omega
   go_wp2_with (first
    | (go_at_call 270; (with_reducible refine (bxz hN).mono ?_); rintro e w1 ⟨v0, rfl, hown0, hb1⟩))
   have hbk1 := hbk.next hb1
   have hbw1 := btz hbw hb1
   have hown1 : w1.ownsRow w.heap.size 22 1 v0 0 [] := by
    refine ⟨hown0.1, ?_⟩
    rcases hown0.2 with q | ⟨g, c, cur, q1, q2, q3⟩
    ·exact .inl q
    ·exact .inr ⟨g, c, cur, q1, Nat.le_trans hbw.size q2, q3⟩
   clear hown0
   go_loopw [6, 27] (fun v i wr => ∃ j : Nat, j ≤ k ∧ i = .int .i64 j ∧ wr.ownsRow w.heap.size 22 1 v (psum nf j) (pcat sf j) ∧ Blk wr Bq Cq 40 ∧ Below w.heap.size w wr) (fun _ i _ => k - (intOf i).toNat)
   case atStart => exact ⟨0, Nat.zero_le _, rfl, hown1, hbk1, hbw1⟩
   case round =>
    obtain ⟨j, hj, rfl, hown, hbk2, hbw2⟩ := hrel
    by_cases hjm : j < k
    ·have hjm' : (j : Int) < k := by omega
     have hcell := (hbk2.cell j).trans (hc j hjm)
     have hps : psum nf j + nf j < 4294967296 := Nat.lt_of_le_of_lt (xNz nf (show j + 1 ≤ k from hjm)) hN
     have hrj := (hr j hjm).next hbw2
     have h1j := h1 j hjm
     go_wp2_with (at_builtin; refine qOz u2z underlying40 rfl (by omega) rfl _ _ rfl w.heap.size _ (psum nf j) (pcat sf j) rfl hown _ _ _ _ (sf j) rfl hrj h1j (by unfold maxLen; omega) (by omega) hbw2.size ?_; intro v' w2 hown' hgrow)
     go_roundw
     case rel =>
      have hbw3 : Below w.heap.size w w2 := hbw2.grown hgrow hbw2.size (y1z hown)
      have hbk3 : Blk w2 Bq Cq 40 := (hbw3.block Bq hb.lt).trans hb
      exact ⟨j + 1, hjm, by go_num, hown', hbk3, hbw3⟩
     case measure => simp [intOf]; omega
    ·obtain rfl : j = k := by omega
     go_wp2
     go_ret
     exact ⟨_, rfl, hown, hbw2⟩
def ahW (L : List Int) (i : Int) : Nat := (L.filter fun x => decide (x < i)).length
theorem bZz (L : List Int) (i : Int) : ahW L i ≤ L.length := List.length_filter_le ..
theorem ahW_of : ∀ {L : List Int} {k : Nat}, k ≤ L.length → (∀ j, j < k → L.getD j 0 < i) → (∀ j, k ≤ j → j < L.length → i ≤ L.getD j 0) → ahW L i = k
 | [], k, hk, _, _ => by simp at hk; subst hk; rfl
 | a :: r, 0, _, _, h2 => by
  unfold ahW
  have : (a :: r).filter (fun x => decide (x < i)) = [] := by
   rw [List.filter_eq_nil_iff]
   intro x hx
   obtain ⟨j, hj, e⟩ := List.getElem_of_mem hx
   have := h2 j (Nat.zero_le _) hj
   rw [List.getD_eq_getElem?_getD, List.getElem?_eq_getElem hj, Option.getD_some, e] at this
   simp; omega
  rw [this]; rfl
 | a :: r, k + 1, hk, h1, h2 => by
  have h0 := h1 0 (by omega)
  simp only [List.getD_cons_zero] at h0
  have ih := ahW_of (L := r) (k := k) (by simpa using hk) (fun j hj => by simpa using h1 (j + 1) (by omega)) (fun j q1 q2 => by simpa using h2 (j + 1) (by omega) (by simpa using q2))
  unfold ahW at ih ⊢
  rw [List.filter_cons_of_pos (by simpa using h0), List.length_cons, ih]
theorem ySz {a : Int} : Calls prog 192 #[.int .u64 a] w fun e w' => e = .returned (.bool false) ∧ w' = w := by
 go_enter func192, ntmps192
 go_wp2
 go_ret
 exact ⟨rfl, rfl⟩
theorem less_any {a b : Int} : Calls prog 191 #[.int .u64 a, .int .u64 b] w fun e w' => e = .returned (.bool (decide (a < b))) ∧ w' = w := by
 by_cases h : a < b
 ·rw [decide_eq_true h]
  go_enter func191, ntmps191
  go_wp2_with (go_at_call 238; refine xgz.mono ?_; rintro e w1 ⟨rfl, rfl⟩)
  go_ret
  exact ⟨by first | rfl | simp [h], rfl⟩
 ·rw [decide_eq_false h]
  go_enter func191, ntmps191
  go_wp2_with (go_at_call 238; refine xgz.mono ?_; rintro e w1 ⟨rfl, rfl⟩)
  go_ret
  exact ⟨by first | rfl | simp [h], rfl⟩
variable {L : List Int} {al : Option Addr} {nl cl : Nat}
theorem bsw_full (h : CtD (LtN w) w al nl cl L) (hs : L.Pairwise (· < ·)) (hn16 : nl ≤ 4096) : Calls prog 150 #[.slice al nl cl, .int .u64 i] w fun e w' => e = .returned (.tuple #[.int .i64 (ahW L i : Nat), .bool (decide (i ∈ L))]) ∧ w' = w := by
 have hn : Hid (L.length = nl) := h.1
 have hnc := h.2.1
 have hcm := h.2.2.1.1
 have hsH : Hid (∀ j k, j < k → k < nl → L.getD j 0 < L.getD k 0) := by
  refine (?_ : ∀ j k, j < k → k < nl → L.getD j 0 < L.getD k 0)
  intro j k q1 q2
  have hl := hn.out
  have := List.pairwise_iff_getElem.1 hs j k (by omega) (by omega) q1
  rwa [List.getD_eq_getElem?_getD, List.getElem?_eq_getElem (by omega), List.getD_eq_getElem?_getD, List.getElem?_eq_getElem (by omega)]
 have ga1 := isAgg22
 clear hs
 go_enter func150, ntmps150
 go_wp2
 go_loopw [7, 8] (fun vl vh wr => ∃ lo hi : Nat, lo ≤ hi ∧ hi ≤ nl ∧ vl = .int .i64 lo ∧ vh = .int .i64 hi ∧ Hid (∀ j, j < lo → L.getD j 0 < i) ∧ Hid (∀ j, hi ≤ j → j < nl → i ≤ L.getD j 0) ∧ wr = w) (fun vl vh _ => (intOf vh).toNat - (intOf vl).toNat)
 case atStart => exact ⟨0, nl, Nat.zero_le _, lrz _, rfl, rfl, fun j hj => absurd hj (by omega), fun j h1 h2 => absurd h2 (by omega), rfl⟩
 case round =>
  obtain ⟨lo, hi, hlh, hhn, rfl, rfl, hlo, hhi, rfl⟩ := hrel
  by_cases hlt : lo < hi
  ·obtain ⟨m, hm⟩ : ∃ m : Nat, m = (lo + hi) / 2 := ⟨_, rfl⟩
   have hmi : ((lo : Int) + hi) / 2 = m := by omega
   have hmn : m < nl := by omega
   have hm1 : lo ≤ m := by omega
   have hm2 : m < hi := by omega
   have hmn' : (m : Int) < nl := by omega
   have hm96 : m ≤ 4096 := by omega
   obtain ⟨b, off, rfl, hbb, hc⟩ := vWz h hmn
   clear hm
   have hls := less_any (w := wr) (a := L.getD m 0) (b := i)
   by_cases hxi : L.getD m 0 < i
   ·rw [decide_eq_true hxi] at hls
    have hlo2 : Hid (∀ j, j < m + 1 → L.getD j 0 < i) := by
     refine (?_ : ∀ j, j < m + 1 → L.getD j 0 < i)
     intro j hj
     rcases Nat.lt_or_ge j m with q | q
     ·have := hsH.out j m q hmn; omega
     ·obtain rfl : j = m := by omega
      exact hxi
    generalize L.getD m 0 = z at hc hls
    go_wp2_with (first
     | (with_reducible refine x0z (by kernel_rfl) .shr _ _ _ _ rfl _ _ rfl rfl (yiz _ _ _ _ hmi) ?_)
     | (with_reducible refine xzz (by kernel_rfl) 116 3 _ rfl (.int .u64 (m : Int)) rfl (yEz _ hm96) ?_)
     | (with_reducible refine qWz (by kernel_rfl) _ _ rfl b _ rfl _ hc ga1 ?_)
     | (go_at_call 191; (with_reducible refine hls.mono ?_); rintro e w1 ⟨rfl, rfl⟩))
    go_roundw
    case rel => exact ⟨m + 1, hi, by omega, hhn, by go_num, rfl, hlo2, hhi, trivial⟩
    case measure => simp [intOf]; omega
   ·rw [decide_eq_false hxi] at hls
    have hhi2 : Hid (∀ j, m ≤ j → j < nl → i ≤ L.getD j 0) := by
     refine (?_ : ∀ j, m ≤ j → j < nl → i ≤ L.getD j 0)
     intro j hj hjn
     rcases Nat.lt_or_ge m j with q | q
     ·have := hsH.out m j q hjn; omega
     ·obtain rfl : j = m := by omega
      omega
    generalize L.getD m 0 = z at hc hls
    go_wp2_with (first
     | (with_reducible refine x0z (by kernel_rfl) .shr _ _ _ _ rfl _ _ rfl rfl (yiz _ _ _ _ hmi) ?_)
     | (with_reducible refine xzz (by kernel_rfl) 116 3 _ rfl (.int .u64 (m : Int)) rfl (yEz _ hm96) ?_)
     | (with_reducible refine qWz (by kernel_rfl) _ _ rfl b _ rfl _ hc ga1 ?_)
     | (go_at_call 191; (with_reducible refine hls.mono ?_); rintro e w1 ⟨rfl, rfl⟩))
    go_roundw
    case rel => exact ⟨lo, m, by omega, by omega, rfl, rfl, hlo, hhi2, trivial⟩
    case measure => simp [intOf]; omega
  ·obtain rfl : lo = hi := by omega
   have hke : Hid (ahW L i = lo) := ahW_of (by rw [hn.out]; exact hhn) hlo.out (fun j h1 h2 => hhi.out j h1 (by rw [← hn.out]; exact h2))
   have hin : i ∈ L → ∃ j, j < nl ∧ L.getD j 0 = i := fun q => by
    obtain ⟨j, hj, e⟩ := List.getElem_of_mem q
    exact ⟨j, by rw [← hn.out]; exact hj, by rw [List.getD_eq_getElem?_getD, List.getElem?_eq_getElem hj]; exact e⟩
   by_cases hln : lo < nl
   ·obtain ⟨b, off, rfl, hbb, hc⟩ := vWz h hln
    have hln' : (lo : Int) < nl := by omega
    have hyes : L.getD lo 0 = i → decide (i ∈ L) = true := fun e => by
     refine decide_eq_true ?_
     rw [← e, List.getD_eq_getElem?_getD, List.getElem?_eq_getElem (by rw [hn.out]; exact hln)]
     exact List.getElem_mem _
    have hnot : L.getD lo 0 ≠ i → decide (i ∈ L) = false := fun e => decide_eq_false fun q => by
     obtain ⟨j, hj, ej⟩ := hin q
     have h1 := hhi.out lo (lrz _) hln
     rcases Nat.lt_trichotomy j lo with r | r | r
     ·have := hlo.out j r; omega
     ·subst r; exact e ej
     ·have := hsH.out lo j r hj; omega
    clear hin
    generalize L.getD lo 0 = z at hc hyes hnot
    by_cases hxi : z = i
    ·have hd : Hid (decide (i ∈ L) = true) := hyes hxi
     clear hyes hnot
     subst hxi
     go_wp2_with (first
      | (with_reducible refine qWz (by with_unfolding_all rfl) _ _ rfl b _ rfl _ hc ga1 ?_)
      | (go_at_call 192; refine ySz.mono ?_; rintro e w1 ⟨rfl, rfl⟩))
     go_ret2
     rw [hke.out, hd.out]
     exact ⟨rfl, rfl⟩
    ·have hxb : (z == i) = false := by simpa using hxi
     have hd : Hid (decide (i ∈ L) = false) := hnot hxi
     clear hyes hnot
     go_wp2_with (first
      | (with_reducible refine qWz (by with_unfolding_all rfl) _ _ rfl b _ rfl _ hc ga1 ?_)
      | (go_at_call 192; refine ySz.mono ?_; rintro e w1 ⟨rfl, rfl⟩))
     go_ret2
     rw [hke.out, hd.out]
     exact ⟨rfl, rfl⟩
   ·have hln' : ¬ (lo : Int) < nl := by omega
    have hno : Hid (decide (i ∈ L) = false) := decide_eq_false fun q => by
     obtain ⟨j, hj, ej⟩ := hin q
     have := hlo.out j (by omega)
     omega
    clear hin
    go_wp2
    go_ret2
    exact ⟨by rw [hke.out, hno.out]; rfl, rfl⟩
theorem bsw_any (h : CtD (LtN w) w al nl cl L) (hs : L.Pairwise (· < ·)) (hn16 : nl ≤ 4096) : Calls prog 150 #[.slice al nl cl, .int .u64 i] w fun e w' => ∃ b, e = .returned (.tuple #[.int .i64 (ahW L i : Nat), .bool b]) ∧ w' = w :=
 (bsw_full h hs hn16).mono fun _ _ ⟨e, q⟩ => ⟨_, e, q⟩
theorem jwz {S : World → Prop} {b off i n cap : Nat} (hi : i < n) : Obl.holds prog S (.ia 40 (.slice (some ⟨b, off, none⟩) n cap) (.int .i64 i) (.pointer (some ⟨b, off + i, none⟩))) := fun w hS => by
 have hi' : (i : Int) < n := by omega
 go_simp
variable {v : Value}
theorem x5z {S : World → Prop} {P : Program} {ty : TypeId} {b o : Nat} (hc : ∀ w, S w → w.cell? ⟨b, o, none⟩ = some v) (hg : ∀ w, (isAgg ty).run P w = .ok false w) : Obl.holds P S (.load ty b o v) := fun w hS => by
 simp [loadVar, hg, hc w hS]
theorem ob_lt {w W W' : World} {x : Ob} (h : ObD (LtN w) W C x) (k : Below w.heap.size w W) (q : Below W.heap.size W W') : ObD (LtN w) W' C x :=
 h.laterK fun b hb => q.block b (ltz hb k.size)
theorem ob_oth {w W W' : World} {P : Nat} {x : Ob} (h : ObD (LtN w) W C x) (hP : w.heap.size ≤ P) (q : Oth P W W') : ObD (LtN w) W' C x :=
 h.laterK fun b hb => q.block b (by have : b < w.heap.size := hb; omega)
theorem jNz {w W : World} {n cap : Nat} (h : Obs w ao n cap X) (k : Below w.heap.size w W) : Calls prog 14 #[.agg #[.int .i64 t, .int .u64 ke, .int .u64 ro, .slice ao n cap], .int .u64 i] W fun e w' => ∃ C', e = .returned (.tuple #[.agg C', .bool (fnd X i).isSome]) ∧ ObD (LtN w) w' C' (fO X i) ∧ Below W.heap.size W w' :=
 gOz (D0 := LtN w) (fun _ hb => ltz hb k.size) (wtz h (fun _ hb => hb) k)
theorem kgz {base : Nat} (h : w.ownsRow base 22 1 v L.length (qNz L)) : ∃ al cl, v = .slice al L.length cl ∧ CtD (fun b => base ≤ b ∧ b < w.heap.size) w al L.length cl L := by
 obtain ⟨ao, cap, e, h1, h2, h3, h4⟩ := RowC.of_owns h
 refine ⟨ao, cap, e, rfl, h2, h3, fun hn => ?_⟩
 obtain ⟨b, off, ea, hb, hr⟩ := h4 hn
 refine ⟨b, off, ea, hb, fun i hi => ?_⟩
 refine hr i _ ?_
 unfold qNz
 rw [List.getElem?_map, List.getElem?_eq_getElem hi, List.getD_eq_getElem?_getD, List.getElem?_eq_getElem hi]
 rfl
theorem y2z {W : World} {b b' : Nat} {e : TypeId} {size : Nat} {k : Nat} {xs : List Value} (hb : b' ≤ b) (h : W.ownsRow b e size v k xs) : W.ownsRow b' e size v k xs := by
 refine ⟨h.1, ?_⟩
 rcases h.2 with q | ⟨g, c, cur, q1, q2, q3⟩
 ·exact .inl q
 ·exact .inr ⟨g, c, cur, q1, Nat.le_trans hb q2, q3⟩
theorem abv_step {m : Nat} {j h : Int} {r : List Int} (e : holL X j = h :: r) : abvL X (m + 1) j = h :: abvL X m h := by
 conv => lhs; unfold abvL
 rw [e]
theorem abv_stop {m : Nat} {j : Int} (e : holL X j = []) : abvL X m j = [] := by
 cases m with
 | zero => rfl
 | succ m => unfold abvL; rw [e]
theorem rabove_w {n cap : Nat} (h : Obs w ao n cap X) (hn16 : n ≤ 4096) : Calls prog 128 #[.agg #[.int .i64 t, .int .u64 ke, .int .u64 ro, .slice ao n cap], .int .u64 i] w fun e w' => ∃ v, e = .returned v ∧ w'.ownsRow w.heap.size 22 1 v (rabv X i).length (qNz (rabv X i)) ∧ Below w.heap.size w w' := by
 have hn : Hid (X.length = n) := h.1
 have ga1 := isAgg22
 have ga3 := isAgg23
 have c3 : (#[.int .i64 t, .int .u64 ke, .int .u64 ro, .slice ao n cap] : Array Value)[3]? = some (.slice ao n cap) := rfl
 have hzw : (prog.info? 25).map (·.size) = some (#[.int .i64 t, .int .u64 ke, .int .u64 ro, .slice ao n cap] : Array Value).size := by kernel_rfl
 have hho := fun (W : World) (i : Int) (hk : Below w.heap.size w W) => kfz (t := t) (ke := ke) (ro := ro) (i := i) (qwz h hk) hn16
 obtain ⟨G, hG⟩ : ∃ G : Array Value, G = #[.int .i64 t, .int .u64 ke, .int .u64 ro, .slice ao n cap] := ⟨_, rfl⟩
 rw [← hG] at c3 hzw hho
 rw [← hG]
 clear hG
 obtain ⟨A, hA⟩ : ∃ A, Hid (A = abvL X (n + 1) i) := ⟨_, rfl⟩
 obtain ⟨RV, hRV⟩ : ∃ RV, Hid (rabv X i = RV) := ⟨_, rfl⟩
 have hrv : Hid (RV = if A.length ≤ n then A else []) := by show RV = _; rw [← hRV.out]; unfold rabv; rw [hn.out, hA.out]
 rw [hRV.out]
 go_enter func128, ntmps128
 go_wp2_with (first
  | (with_reducible refine qcz rfl 25 _ rfl G rfl ?_; intro B2 W2 hN2 hB2 hk0))
 have hs0 := hk0.size
 clear hN2
 go_loopw [1, 5] (fun vi vo wr => ∃ (j : Int) (pre : List Int), vi = .int .u64 j ∧ pre.length ≤ n + 1 ∧ wr.ownsRow W2.heap.size 22 1 vo pre.length (qNz pre) ∧ Hid (pre ++ abvL X (n + 1 - pre.length) j = A) ∧ Below W2.heap.size W2 wr) (fun _ vo _ => match vo with | .slice _ k _ => n + 1 - k | _ => 0)
 case atStart => exact ⟨i, [], rfl, Nat.zero_le _, World.ownsRow_nil _ _ _ _, hA.out.symm, brz _ _⟩
 case round =>
  obtain ⟨j, pre, rfl, hpl, hown, hpa, hk2⟩ := hrel
  replace hB2 := hB2.next hk2
  have hk := hk0.trans (hk2.mono hs0)
  obtain ⟨al, cl, rfl, hct⟩ := kgz hown
  by_cases hle : pre.length ≤ n
  ·have hle' : ((pre.length : Nat) : Int) ≤ n := by omega
   obtain ⟨m, hm⟩ : ∃ m, Hid (n + 1 - pre.length = m + 1) := ⟨n - pre.length, by show _ = _; omega⟩
   rw [hm.out] at hpa
   have hhj := hho wr j hk
   cases hj : holL X j with
   | nil =>
    rw [hj] at hhj
    have hA2 : Hid (A = pre) := by show A = pre; rw [← hpa.out, abv_stop hj, List.append_nil]
    go_wp2_with (first
     | (with_reducible refine qaz (by kernel_rfl) _ _ rfl B2 _ rfl _ _ hB2 _ c3 ga3 ?_)
     | (with_reducible refine qhz (by kernel_rfl) _ _ rfl B2 rfl G hB2 _ underlying25 (by kernel_rfl) hzw ?_)
     | (go_at_call 15; (with_reducible refine hhj.mono ?_); rintro e w1 ⟨v, rfl, hown1, hb1⟩; obtain ⟨al1, cl1, rfl, hct1⟩ := kgz hown1; replace hk := btz hk hb1; have hown2 := xrz hown hb1))
    go_ret
    refine ⟨_, rfl, ?_, hk⟩
    have e : RV = pre := by rw [hrv.out, hA2.out, if_pos hle]
    rw [e]
    exact y2z hs0 hown2
   | cons a r =>
    rw [hj] at hhj
    have hst := abv_step (m := m) hj
    go_wp2_with (first
     | (with_reducible refine qaz (by kernel_rfl) _ _ rfl B2 _ rfl _ _ hB2 _ c3 ga3 ?_)
     | (with_reducible refine qhz (by kernel_rfl) _ _ rfl B2 rfl G hB2 _ underlying25 (by kernel_rfl) hzw ?_)
     | (go_at_call 15; (with_reducible refine hhj.mono ?_); rintro e w1 ⟨v, rfl, hown1, hb1⟩; obtain ⟨al1, cl1, rfl, hct1⟩ := kgz hown1; obtain ⟨b1, off1, rfl, hbb1, hc1⟩ := vWz hct1 (i := 0) (by simp); have hB2' := hB2.next hb1; have hk1 := btz hk hb1; have hown2 := xrz hown hb1; have hlr : (0 : Int) < ((a :: r).length : Nat) := (by simp only [List.length_cons]; omega); have hlz : ((((a :: r).length : Nat) : Int) == 0) = false := (by rw [beq_eq_false_iff_ne]; omega); simp only [List.getD_cons_zero] at hc1)
     | (with_reducible refine qWz (by kernel_rfl) _ _ rfl b1 _ rfl _ hc1 ga1 ?_)
     | ((with_reducible refine xZz rfl _ rfl a rfl ?_); intro Bq W8 hBq hbq hk8; have hown8 := xrz hown2 hk8)
     | (at_builtin; refine qOz u2z underlying40 rfl (by omega) rfl _ _ rfl W2.heap.size _ _ _ rfl hown8 _ _ _ _ [.int .u64 a] rfl (jLz hbq) (fun u hu => by rw [List.mem_singleton] at hu; rw [hu]; rfl) (by unfold maxLen; omega) (by omega) (Nat.le_trans hk2.size (Nat.le_trans hb1.size hk8.size)) ?_; intro v' w2 hown' hgrow))
    go_roundw
    case rel =>
     have hk8' : Below W2.heap.size W2 W8 := (btz hk2 hb1).trans (hk8.mono (Nat.le_trans hk2.size hb1.size))
     have hb2 : Below W2.heap.size W2 w2 := hk8'.grown hgrow hk8'.size (y1z hown8)
     refine ⟨a, pre ++ [a], rfl, by simp; omega, ?_, ?_, hb2⟩
     ·have e : qNz (pre ++ [a]) = qNz pre ++ [.int .u64 a] := by simp [qNz]
      rw [e, List.length_append]
      exact hown'
     ·show pre ++ [a] ++ abvL X (n + 1 - (pre ++ [a]).length) a = A
      have e : n + 1 - (pre ++ [a]).length = m := by have := hm.out; simp; omega
      rw [e, ← hpa.out, hst, List.append_assoc]
      rfl
    case measure =>
     obtain ⟨al9, cl9, rfl, _⟩ := RowC.of_owns hown'
     simp only []
     omega
  ·have hle' : ¬ ((pre.length : Nat) : Int) ≤ n := by omega
   have hpn : Hid (pre.length = n + 1) := by show _ = _; omega
   have hA2 : Hid (A = pre) := by show A = pre; rw [← hpa.out, hpn.out, Nat.sub_self]; unfold abvL; rw [List.append_nil]
   go_wp2_with (first
    | (with_reducible refine qaz (by kernel_rfl) _ _ rfl B2 _ rfl _ _ hB2 _ c3 ga3 ?_))
   go_ret
   refine ⟨_, rfl, ?_, hk⟩
   have e : RV = [] := by rw [hrv.out, hA2.out, if_neg hle]
   rw [e]
   exact World.ownsRow_nil _ _ _ _
def insW (L : List Int) (i : Int) : List Int := L.take (ahW L i) ++ i :: L.drop (ahW L i)
theorem gnz : ∀ u ∈ qNz L, u.oneCell' = true := by
 intro u hu
 obtain ⟨x, _, rfl⟩ := List.mem_map.1 hu
 rfl
variable {n cap k : Nat}
theorem gwz (hk : k ≤ n) (hn : n ≤ cap) (W : World) : (Instr.sliceAt 40 (.slice ao n cap) none (some (.int .i64 (k : Int))) none).run prog W = .ok (.slice ao k cap) W := by
 have h2 : k ≤ cap := by omega
 unfold Instr.sliceAt Instr.slice Instr.sliceBounds
 simp [go_sem, run_underlying underlying40, Result.andThen, h2]
theorem ct_take {D : Nat → Prop} (h : CtD D w ao n cap L) (hk : k ≤ n) : CtD D w ao k cap (L.take k) := by
 obtain ⟨h1, h2, h3, h4⟩ := h
 refine ⟨by rw [List.length_take]; omega, by omega, h3, fun hz => ?_⟩
 obtain ⟨b, off, e, hb, hx⟩ := h4 (by omega)
 refine ⟨b, off, e, hb, fun i hi => ?_⟩
 rw [hx i (by omega)]
 congr 2
 simp only [List.getD_eq_getElem?_getD, List.getElem?_take, if_pos hi]
theorem ygz {D : Nat → Prop} (h : CtD D w ao n cap L) (hk : k ≤ n) : ∃ a', CtD D w a' (n - k) (cap - k) (L.drop k) ∧ (∀ W, (Instr.sliceAt 40 (.slice ao n cap) (some (.int .i64 (k : Int))) none none).run prog W = .ok (.slice a' (n - k) (cap - k)) W) := by
 cases ao with
 | none =>
  have h0 := h.2.2.1.2 rfl
  have hn := h.2.1
  obtain rfl : n = 0 := by omega
  obtain rfl : k = 0 := by omega
  subst h0
  refine ⟨none, by simpa using h, fun W => ?_⟩
  unfold Instr.sliceAt Instr.slice Instr.sliceBounds
  simp [go_sem, run_underlying underlying40, Result.andThen]
 | some a =>
  have hn := h.2.1
  by_cases hc : cap = k
  ·have hkn : k = n := by omega
   refine ⟨some a, ?_, fun W => ?_⟩
   ·obtain ⟨h1, h2, h3, h4⟩ := h
    exact ⟨by rw [List.length_drop]; omega, by omega, ⟨by omega, fun e => by cases e⟩, fun hz => by omega⟩
   ·subst hc
    unfold Instr.sliceAt Instr.slice Instr.sliceBounds
    simp [go_sem, run_underlying underlying40, Result.andThen, hk]
  ·refine ⟨some (a.add k), ?_, fun W => ?_⟩
   ·obtain ⟨h1, h2, h3, h4⟩ := h
    refine ⟨by rw [List.length_drop]; omega, by omega, ⟨by omega, fun e => by cases e⟩, fun hz => ?_⟩
    obtain ⟨b, off, e, hb, hx⟩ := h4 (by omega)
    cases e
    refine ⟨b, off + k, ?_, hb, fun i hi => ?_⟩
    ·unfold Addr.add
     split
     ·rename_i h0; rw [h0]; rfl
     ·rfl
    ·rw [show off + k + i = off + (k + i) by omega, hx _ (by omega)]
     congr 2
     simp only [List.getD_eq_getElem?_getD, List.getElem?_drop]
   ·unfold Instr.sliceAt Instr.slice Instr.sliceBounds
    simp [go_sem, run_underlying underlying40, Result.andThen, hk, hc]
theorem infoSW : (prog.info? 40).map (fun i => (i.zero, i.size, i.bytes)) = some (some (.slice none 0 0), 1, 24) := by kernel_rfl
theorem run_bs3W {a0 a1 a2 : Option Addr} {n0 n1 n2 c0 c1 c2 : Nat} (w : World) : (Instr.buildSlice 257 3 #[(0, .slice a0 n0 c0), (1, .slice a1 n1 c1), (2, .slice a2 n2 c2)]).run prog w = .ok (.slice (some ⟨w.heap.size, 0, none⟩) 3 3) (w.alloc (.cells #[.slice a0 n0 c0, .slice a1 n1 c1, .slice a2 n2 c2] 40)) := by
 obtain ⟨i0, hi, hz0, hz1, hz2⟩ := info_parts infoSW
 refine run_buildSlice w _ _ 3 _ _ i0 _ underlying257 hi hz0 (by rw [hz1]; omega) (by rw [hz1]; omega) ?_
 rw [hz1]
 have := Great.fill_whole (s := 1) (by omega) [.slice a0 n0 c0, .slice a1 n1 c1, .slice a2 n2 c2] ((Array.range (3 * 1)).map ((Value.slice none 0 0).cells[· % (Value.slice none 0 0).cells.size]!)) (by simp [Value.cells]) (by simp)
 simpa [Value.cells] using this
theorem linked_v (h : CtD (LtN w) w al nl cl L) (hs : L.Pairwise (· < ·)) (hn16 : nl ≤ 4096) : Calls prog 198 #[.slice al nl cl, .int .u64 i] w fun e w' => ∃ v, e = .returned v ∧ w'.ownsRow w.heap.size 22 1 v (insW L i).length (qNz (insW L i)) ∧ Below w.heap.size w w' := by
 have hmx : prog.follows .mixedOrders = true := by kernel_rfl
 have hbs := bsw_any (i := i) h hs hn16
 obtain ⟨k, hke⟩ : ∃ k, ahW L i = k := ⟨_, rfl⟩
 have hkl : k ≤ nl := by rw [← hke, ← h.1]; exact bZz L i
 have hlc := h.2.1
 have hLl : L.length = nl := h.1
 rw [hke] at hbs
 have h1 := ct_take h hkl
 obtain ⟨a3, h3, hs3⟩ := ygz h hkl
 go_enter func198, ntmps198
 go_wp2_with (first
  | (go_at_call 150; (with_reducible refine hbs.mono ?_); rintro e w1 ⟨bb, rfl, rfl⟩))
 refine PgM.region_out (S := fun W => Below w1.heap.size w1 W) hmx ((brz _ _).drew) (fun hS => ?_)
 generalize w1.drew = W5 at hS ⊢
 refine qmz (by kernel_rfl) (fun _ _ _ _ _ h => h) hS [(0, none), (1, none), (2, some (.slice al k cl)), (3, none), (5, none), (6, none), (7, some (.slice a3 (nl - k) (cl - k)))] (l' := #[tt, tt, tt, tt, ff, tt, tt, tt, ff, ff, ff]) (a' := { tmps := #[.slice al nl cl, .int .u64 i, ud, undef, .slice none 0 0, .int .i64 k, .bool bb, .tuple #[.int .i64 k, .bool bb], .slice al nl cl, .int .u64 i, .tuple #[.int .i64 k, .bool bb], .int .i64 k, .bool bb, .slice al nl cl, .int .i64 k, .slice al k cl, .int .u64 i, undef, .slice al nl cl, .int .i64 k, .slice a3 (nl - k) (cl - k), ud, undef], defers := [] }) (obs := [.sl 40 (.slice al nl cl) (none) (some (.int .i64 k)) (none) (.slice al k cl), .sl 40 (.slice al nl cl) (some (.int .i64 k)) (none) (none) (.slice a3 (nl - k) (cl - k))]) (n := 4) (by kernel_rfl) (by kernel_rfl) ⟨fun W _ => gwz hkl hlc W, fun W _ => hs3 W, trivial⟩ ?_
 refine qkz (i := 4) (n := 3) rfl (by kernel_rfl) ?_
 refine jFz (t := 40) (n := 1) (vs := [(0, .int .u64 i)]) (d := some 17) (by kernel_rfl) (gDz W5) ?_
 have kq := (brz W5.heap.size W5).alloc (lrz _) (.cells #[.int .u64 i] 22)
 have hq := Blk.new W5 #[.int .u64 i] 22
 generalize W5.alloc (.cells #[.int .u64 i] 22) = W6 at kq hq ⊢
 replace hS : Below w1.heap.size w1 W6 := btz hS kq
 clear kq
 generalize W5.heap.size = Bi at hq ⊢
 refine ⟨hS, ?_⟩
 refine qkz (i := 8) (n := 2) rfl (by kernel_rfl) ?_
 refine jFz (t := 257) (n := 3) (vs := [(0, .slice al k cl), (1, .slice (some ⟨Bi, 0, none⟩) 1 1), (2, .slice a3 (nl - k) (cl - k))]) (d := some 21) (by kernel_rfl) (run_bs3W W6) ?_
 have kq2 := (brz W6.heap.size W6).alloc (lrz _) (.cells #[.slice al k cl, .slice (some ⟨Bi, 0, none⟩) 1 1, .slice a3 (nl - k) (cl - k)] 40)
 have hq2 := Blk.new W6 #[.slice al k cl, .slice (some ⟨Bi, 0, none⟩) 1 1, .slice a3 (nl - k) (cl - k)] 40
 generalize W6.alloc (.cells #[.slice al k cl, .slice (some ⟨Bi, 0, none⟩) 1 1, .slice a3 (nl - k) (cl - k)] 40) = W7 at kq2 hq2 ⊢
 replace hq := hq.next kq2
 replace hS : Below w1.heap.size w1 W7 := btz hS kq2
 clear kq2
 generalize W6.heap.size = Bq at hq2 ⊢
 refine ⟨hS, ?_⟩
 have hcat := yFz (w := W7) (Bq := Bq) (m := 3) (af := fun i => if i = 0 then al else if i = 1 then some ⟨Bi, 0, none⟩ else a3) (nf := fun i => if i = 0 then k else if i = 1 then 1 else nl - k) (cf := fun i => if i = 0 then cl else if i = 1 then 1 else cl - k) (sf := fun q => if q = 0 then qNz (L.take k) else if q = 1 then [.int .u64 i] else qNz (L.drop k)) hq2
  (fun i hi => by rcases i with _ | _ | _ | i <;> first | rfl | (exfalso; omega))
  (fun i hi => by rcases i with _ | _ | _ | i <;> first | exact h1.row.next hS | exact jLz hq | exact h3.row.next hS | (exfalso; omega))
  (fun i hi => by rcases i with _ | _ | _ | i <;> first | exact gnz | (intro u hu; rw [List.mem_singleton.1 hu]; rfl) | (exfalso; omega)) (by omega) (by show 0 + k + 1 + (nl - k) < 4294967296; omega)
 refine qrz (i := 9) (fuel := 1) (f := 242) (vs := [.slice (some ⟨Bq, 0, none⟩) 3 3]) (d := some 22) (by kernel_rfl) (by kernel_rfl) (by kernel_rfl) call242 hcat ?_
 rintro e W8 ⟨V, rfl, hown, kb⟩
 have hS8 : Below w1.heap.size w1 W8 := btz hS kb
 refine ⟨_, rfl, hS8, ?_⟩
 refine qmz (by kernel_rfl) (fun _ _ _ _ _ h => h) hS8 [(10, none)] (l' := #[tt, tt, tt, tt, tt, tt, tt, tt, tt, tt, tt]) (a' := { tmps := #[.slice al nl cl, .int .u64 i, ud, undef, V, .int .i64 k, .bool bb, .tuple #[.int .i64 k, .bool bb], .slice al nl cl, .int .u64 i, .tuple #[.int .i64 k, .bool bb], .int .i64 k, .bool bb, .slice al nl cl, .int .i64 k, .slice al k cl, .int .u64 i, .slice (some ⟨Bi, 0, none⟩) 1 1, .slice al nl cl, .int .i64 k, .slice a3 (nl - k) (cl - k), .slice (some ⟨Bq, 0, none⟩) 3 3, V], defers := [] }) (obs := []) (n := 0) (by kernel_rfl) (by kernel_rfl) trivial ?_
 refine wpAnyH_done (by kernel_rfl) ?_ _
 go_wp2
 go_ret
 refine ⟨V, rfl, ?_, hS8⟩
 have e1 : insW L i = L.take k ++ [i] ++ L.drop k := by unfold insW; rw [hke]; simp
 have e2 : (insW L i).length = k + 1 + (nl - k) := by rw [e1]; simp; omega
 have e3 : qNz (insW L i) = qNz (L.take k) ++ [.int .u64 i] ++ qNz (L.drop k) := by rw [e1]; simp [qNz]
 rw [e2, e3]
 have := y2z hS.size hown
 simpa [psum, pcat] using this
end
section
open Go.RowKit Go.Shelf
def StayT {β : Type} (B : Nat) (t : TypeId) (J : β → World → Prop) : Prop := ∀ s A A' row, J s A → A.grownBy A' row → (∀ r, row = some r → B ≤ r ∧ ∃ C, A.heap[r]? = some (.cells C t)) → J s A'
def KT (D : Nat → Prop) (t : TypeId) (B : Nat) (W W' : World) : Prop := Keeps D W W' ∧ ∀ b C, B ≤ b → W.heap[b]? = some (.cells C t) → W'.heap[b]? = some (.cells C t)
theorem KT.trans {D : Nat → Prop} {t : TypeId} {B : Nat} {X Y Z : World} (h : KT D t B X Y) (k : KT D t B Y Z) : KT D t B X Z := ⟨h.1.trans k.1, fun b C hb hc => k.2 b C hb (h.2 b C hb hc)⟩
theorem KT.putObj {D : Nat → Prop} {t : TypeId} {B : Nat} {W : World} {l : Nat} {r : Loop} (o : Obj) (hD : ∀ b, D b → b ≠ l) (h : W.heap[l]? = some (.loop r)) : KT D t B W (W.putObj l o) :=
 ⟨⟨by simp [World.putObj], fun b hb => World.putObj_heap_other (hD b hb)⟩, fun b C _ hc => (World.putObj_heap_other (fun e => by rw [e, h] at hc; cases hc)).trans hc⟩
end
section
open Go.RowKit Go.Shelf
attribute [local go_sem] Oper.semAt_some
theorem Oth.grown {B : Nat} {w W : World} (h : Oth B w W) : w.grownBy W (some B) :=
 have b := h.below B w (lrz _) (brz _ _)
 ⟨b.os, b.tape, b.output, b.size, fun k _ hk => h.block k (fun e => hk (by rw [e]))⟩
theorem StayT.and {β : Type} {B : Nat} {t : TypeId} {I I' : β → World → Prop} (h : StayT B t I) (h' : StayT B t I') : StayT B t (fun s W => I s W ∧ I' s W) := fun s A A' row hs hg hr => ⟨h s A A' row hs.1 hg hr, h' s A A' row hs.2 hg hr⟩
theorem sound_q {x : Ob} (h : q9z x = true) : (0 ≤ x.quota ∧ x.quota ≤ 4096) ∧ x.label.length < 1048576 := by
 unfold q9z comB qYz at h
 simp only [Bool.and_eq_true, decide_eq_true_eq] at h
 omega
theorem xcz {fn : Func} {p u : Tmp} (h : fn.results = #[.cell p 25, .tmp u]) {tmps : Array Value} {w : World} {B : Nat} {C : Array Value} {v : Value} (hp : tmps.getD p undef = .pointer (some ⟨B, 0, none⟩)) (hu : tmps.getD u undef = v) (hB : Blk w B C 25) (hs : C.size = 4) : (results fn tmps).run prog w = .ok (.tuple #[.agg C, v]) w := by
 rw [results_cell_tmp h, hp, hu]
 have := run_loadVar_mid (P := prog) w B 0 25 C.toList _ hB.range0 underlying25 rfl (by rw [q0z]; simp [hs])
 rw [Array.toArray_toList] at this
 simp [asAddr, this, Result.andThen]
abbrev ObsN (w : World) (D0 : Nat → Prop) (w' : World) (ao : Option Addr) (n cap : Nat) (X : List Ob) : Prop := ObsD (New w w') (fun b => D0 b ∨ New w w' b) w' ao n cap X
variable {D0 : Nat → Prop} {ao : Option Addr} {n cap : Nat} {X : List Ob}
theorem ObsN.store {w w' w'' : World} {R : Nat} (h : ObsN w D0 w' ao n cap X) (q : Oth R w' w'') (hR : R < w.heap.size) (hD : ∀ b, D0 b → b ≠ R) : ObsN w D0 w'' ao n cap X := by
 have e : w''.heap.size = w'.heap.size := q.size
 have h1 := h.laterK (w' := w'') (fun b hb => q.block b (by rcases hb with c | c; exact hD b c; have := c.1; omega)) (fun b hb => q.block b (by have := hb.1; omega))
 exact h1.wide (fun b hb => hb.imp id fun c => ⟨c.1, by rw [e]; exact c.2⟩) (fun b hb => ⟨hb.1, by rw [e]; exact hb.2⟩)
theorem ObsN.low {w W w' : World} (h : ObsN W D0 w' ao n cap X) (k : w.heap.size ≤ W.heap.size) : ObsN w D0 w' ao n cap X :=
 ObsD.wide h (fun b hb => hb.imp id fun c => ⟨Nat.le_trans k c.1, c.2⟩) (fun b hb => ⟨Nat.le_trans k hb.1, hb.2⟩)
theorem ObsN.next {w w' w'' : World} (h : ObsN w D0 w' ao n cap X) (hD : ∀ b, D0 b → b < w'.heap.size) (k : Below w'.heap.size w' w'') : ObsN w D0 w'' ao n cap X := by
 have h1 := ObsD.laterK h (w' := w'') (fun b hb => k.block b (by rcases hb with c | c; exact hD b c; exact c.2)) (fun b hb => k.block b hb.2)
 exact h1.wide (fun b hb => hb.imp id fun c => ⟨c.1, ltz c.2 k.size⟩) (fun b hb => ⟨hb.1, ltz hb.2 k.size⟩)
theorem vzz {w : World} {t ke ro er : Int} (hD : ∀ b, D0 b → b < w.heap.size) (h : ObsD (LtN w) D0 w ao n cap X) (hs : Srt X) (hn16 : n < 1024) (hsm : q3z X) (hid : fnd X 0 = none) : Calls prog 154 #[.agg #[.int .i64 t, .int .u64 ke, .int .u64 ro, .slice ao n cap], .int .i64 er] w fun e w' => ∃ ao2 n2 cap2, e = .returned (.tuple #[.agg #[.int .i64 t, .int .u64 ke, .int .u64 ro, .slice ao2 n2 cap2], .int .i64 er]) ∧ ObsN w D0 w' ao2 n2 cap2 X ∧ Below w.heap.size w w' := by
 have hzw : (prog.info? 25).map (·.size) = some (#[.int .i64 t, .int .u64 ke, .int .u64 ro, .slice ao n cap] : Array Value).size := by kernel_rfl
 have hV : (#[.int .i64 t, .int .u64 ke, .int .u64 ro, .slice ao n cap] : Array Value).extract 0 (0 + 4) = #[.int .i64 t, .int .u64 ke, .int .u64 ro, .slice ao n cap] := rfl
 have hG4 : 0 + 4 ≤ (#[.int .i64 t, .int .u64 ke, .int .u64 ro, .slice ao n cap] : Array Value).size := lrz _
 have hz2 : ∀ v, (prog.info? 25).map (·.size) = some (#[.int .i64 t, .int .u64 ke, .int .u64 ro, v] : Array Value).size := fun _ => q0z
 have hs2 : ∀ v, zW.size = (#[.int .i64 t, .int .u64 ke, .int .u64 ro, v] : Array Value).size := fun _ => rfl
 have h12 : ∀ ao n cap, (#[.int .i64 t, .int .u64 ke, .int .u64 ro, .slice ao n cap] : Array Value).all (·.oneCell') = true := fun _ _ _ => by kernel_rfl
 have hdr := fun (W : World) (hk : Below w.heap.size w W) => drop_w (t := t) (ke := ke) (ro := ro) (i := 0) (D0 := D0) (fun b hb => ltz (hD b hb) hk.size) (wtz h hD hk) hs hn16 hsm
 simp only [uuz hs hid] at hdr
 obtain ⟨G, hG⟩ : ∃ G : Array Value, G = #[.int .i64 t, .int .u64 ke, .int .u64 ro, .slice ao n cap] := ⟨_, rfl⟩
 rw [← hG] at hzw hdr hV hG4
 rw [← hG]
 clear hG
 go_enter func154, ntmps154
 go_wp2_with (first
  | (with_reducible refine qcz rfl 180 _ rfl G rfl ?_; intro B W2 hN2 hB hk)
  | ((with_reducible refine qdz rfl _ rfl zW wyz ?_); intro R W3 hN3 hR hk3; replace hB := hB.next hk3; replace hk := btz hk hk3)
  | (with_reducible refine qnz (by kernel_rfl) 25 _ rfl B 0 rfl 4 G _ hB G hV hG4 _ underlying25 (by kernel_rfl) q0z ?_)
  | (go_at_call 49; (with_reducible refine (hdr _ hk).mono ?_); rintro e w4 ⟨aX, nX, cX, rfl, oX, hb4⟩; replace hR := hR.next hb4)
  | ((with_reducible refine qbz rfl _ _ _ rfl R rfl _ rfl zW hR (hz2 _) (hs2 _) (h12 aX nX cX) ?_); intro W5 hR5 q5))
 refine bodyPost_ret (xcz results154 rfl rfl hR5 rfl) rfl ?_
 have hRw : w.heap.size ≤ R ∧ R < W3.heap.size := by have := hN2.out; have := hN3.out; omega
 have hN := (ObsN.store oX q5 hRw.2 (fun b hb => by have := hD b hb; omega)).low hk.size
 exact ⟨aX, nX, cX, rfl, hN, q5.below _ _ hRw.1 (btz hk hb4)⟩
end
end Go.Proofs.YtloghnpfplljgaaGreat
