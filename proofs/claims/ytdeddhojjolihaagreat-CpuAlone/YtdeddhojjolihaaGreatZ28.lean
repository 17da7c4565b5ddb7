/-
 PROVED HERE: what the document's has and Holders return when they are called (contracts over this translation); what slices. What is asked stands at each.
-/
import Derived.RangeFuncNested
import Derived.Defers
import Derived.Recover
import Derived.Laws.Pointers
import Derived.WalkSmall
import Derived.Laws.EntriesVeiled
import Derived.Test.YtdeddhojjolihaaGreatZ18
import Derived.Test.YtdeddhojjolihaaGreatZ19
import Derived.Test.YtdeddhojjolihaaGreatZ25
namespace Go.Proofs.YtdeddhojjolihaaGreat
set_option maxRecDepth 100000
set_option maxHeartbeats 8000000
set_option linter.unusedVariables false
open Go.Proofs.Tryz
section
open Go.RowKit Go.Shelf
attribute [local go_sem] Oper.semAt_some
theorem rhas_any {w : World} {al : Option Addr} {nl cl : Nat} {L : List Int} {i : Int} (h : CtD (LtN w) w al nl cl L) : Asks 99 #[.slice al nl cl, .int .u64 i] (i ∈ L) w := by
 have hn : Hid (L.length = nl) := h.1
 have hnc := h.2.1
 have hcm := h.2.2.1.1
 have ga1 := isAgg22
 unfold Asks
 go_enter func99, ntmps99
 go_wp2
 go_loopw [5] (fun j wr => ∃ k : Nat, k ≤ nl ∧ j = .int .i64 k ∧ Hid (∀ q, q < k → L.getD q 0 ≠ i) ∧ wr = w) (fun j _ => nl - (intOf j).toNat)
 case atStart => exact ⟨0, Nat.zero_le _, rfl, fun q hq => absurd hq (by omega), rfl⟩
 case round =>
  obtain ⟨k, hk, rfl, hal, rfl⟩ := hrel
  by_cases hkn : k < nl
  ·obtain ⟨b, off, rfl, hb, hc⟩ := jCz h hkn
   have hkn' : (k : Int) < nl := by omega
   go_wp2_with (first
    | (with_reducible refine wjz (by kernel_rfl) _ _ rfl b _ rfl _ hc ga1 ?_)
    | ((with_reducible refine qiz (by kernel_rfl) .eql _ _ _ _ rfl _ _ rfl rfl (qEz _ _ _ _ _ _) ?_ ?_) <;> intro hq))
   ·go_ret
    exact qGz (by rw [← hq.out]; exact jvz (by rw [hn.out]; exact hkn)) (Below.refl _ _)
   ·go_roundw
    case rel => exact ⟨k + 1, by omega, by go_num, wUz hal.out hq.out, trivial⟩
    case measure => simp [intOf]; omega
  ·obtain rfl : k = nl := by omega
   go_wp2
   go_ret
   have hq : Hid (¬ i ∈ L) := by
    refine (?_ : ¬ i ∈ L)
    intro e
    obtain ⟨j, hj, q⟩ := List.getElem_of_mem e
    have := hal.out j (by rw [← hn.out]; exact hj)
    rw [List.getD_eq_getElem?_getD, List.getElem?_eq_getElem hj] at this
    exact this q
   exact qrz hq (Below.refl _ _) id
theorem u4z {X : List Ob} {i : Int} {k : Nat} (h : k < X.length) : holL (X.take (k + 1)) i = holL (X.take k) i ++ (if i ∈ (oat X k).links then [(oat X k).id] else []) := by
 unfold holL
 rw [List.take_add_one, List.getElem?_eq_getElem h, qCz h, Option.toList_some, List.filter_append, List.map_append]
 congr 1
 by_cases q : i ∈ X[k].links
 ·rw [if_pos q, List.filter_cons_of_pos (by simpa using q)]; rfl
 ·rw [if_neg q, List.filter_cons_of_neg (by simpa using q)]; rfl
theorem run_bsw {v : Int} (w : World) : (Instr.buildSlice 35 1 #[(0, .int .u64 v)]).run prog w = .ok (.slice (some ⟨w.heap.size, 0, none⟩) 1 1) (w.alloc (.cells #[.int .u64 v] 22)) := by
 obtain ⟨i0, hi, hz0, hz1, hz2⟩ := info_parts infoW
 refine run_buildSlice w _ _ 1 _ _ i0 _ underlying35 hi hz0 (by rw [hz1]; omega) (by rw [hz1]; omega) ?_
 rw [hz1]
 have := Great.fill_whole (s := 1) (by omega) [.int .u64 v] ((Array.range (1 * 1)).map ((Value.int .u64 0).cells[· % (Value.int .u64 0).cells.size]!)) (by simp [Value.cells]) (by simp)
 simpa [Value.cells] using this
section
variable {ops : Array Oper} {rest : List Oper} {op : Oper} {a : Act} {Q : Exit → Act → World → Prop} {w : World}
theorem kVz (hgd : op.guard = none) (x : Operand) (ho : op.op = .buildSlice 35 1 #[(0, x)]) (v : Int) (hx : a.eval x = .int .u64 v)
  (h : ∀ B W, Hid (w.heap.size = B ∧ W.heap.size = B + 1) → Blk W B #[.int .u64 v] 22 → Below w.heap.size w W → wpList prog ops Q rest (a.put op.dst (.slice (some ⟨B, 0, none⟩) 1 1)) W) : wpList prog ops Q (op :: rest) a w :=
 wpList_plain hgd fun K hK => by
  have e : (#[(0, x)].map fun ((i : Nat), x) => (i, a.eval x)) = #[(0, Value.int .u64 v)] := by simp [hx]
  unfold Oper.wp execOp
  simp only [ho, e, Sem.run_bind, run_bsw, Result.andThen_ok]
  exact hK _ _ (h _ _ ⟨rfl, by simp⟩ (Blk.new w #[.int .u64 v] 22) ((Below.refl _ w).alloc (Nat.le_refl _) _))
end
theorem v1z {W : World} {B : Nat} {v : Int} (h : Blk W B #[.int .u64 v] 22) : RowC 1 (LtN W) W (some ⟨B, 0, none⟩) 1 1 [.int .u64 v] :=
 ⟨rfl, Nat.le_refl _, ⟨by omega, fun e => by cases e⟩, fun _ => ⟨B, 0, rfl, h.lt, h.range0⟩⟩
theorem x1z {w : World} {t ke ro : Int} {ao : Option Addr} {n cap : Nat} {X : List Ob} {i : Int} (h : Obs w ao n cap X) (hn16 : n ≤ 4096) : Calls prog 57 #[.agg #[.int .i64 t, .int .u64 ke, .int .u64 ro, .slice ao n cap], .int .u64 i] w fun e w' => ∃ v, e = .returned v ∧ w'.ownsRow w.heap.size 22 1 v (holL X i).length (qKz (holL X i)) ∧ Below w.heap.size w w' := by
 have hn : Hid (X.length = n) := h.1
 have hnc := h.2.1
 have hcm := h.2.2.1.1
 have ga1 := isAgg22
 have ga3 := isAgg23
 have ga4 := isAgg35
 have c3 : (#[.int .i64 t, .int .u64 ke, .int .u64 ro, .slice ao n cap] : Array Value)[3]? = some (.slice ao n cap) := rfl
 obtain ⟨G, hG⟩ : ∃ G : Array Value, G = #[.int .i64 t, .int .u64 ke, .int .u64 ro, .slice ao n cap] := ⟨_, rfl⟩
 rw [← hG] at c3
 rw [← hG]
 clear hG
 go_enter func57, ntmps57
 go_wp2_with (first
  | (with_reducible refine qdz rfl _ _ rfl G rfl ?_; intro B W hB hb hk))
 have hBl : Hid (w.heap.size = B ∧ W.heap.size = B + 1) := hB
 clear hB
 go_loopw [5, 6] (fun v j wr => ∃ k : Nat, k ≤ n ∧ j = .int .i64 k ∧ wr.ownsRow W.heap.size 22 1 v (holL (X.take k) i).length (qKz (holL (X.take k) i)) ∧ Below W.heap.size W wr) (fun _ j _ => n - (intOf j).toNat)
 case atStart => exact ⟨0, Nat.zero_le _, rfl, World.ownsRow_nil _ _ _ _, Below.refl _ _⟩
 case round =>
  obtain ⟨k, hkn1, rfl, hown, hb0⟩ := hrel
  have hbw := btz hk hb0
  replace hb := hb.next hb0
  have hb0s := hb0.size
  by_cases hkn : k < n
  ·obtain ⟨b, off, C, rfl, hbb, hC, hr⟩ := wQz (quz h hbw) hkn
   obtain ⟨al, nl, cl, c5, hLk⟩ := hC.links
   have hkn' : (k : Int) < n := by omega
   have hid : wr.cell? ⟨b, off + k * 51, none⟩ = some (.int .u64 (oat X k).id) := by simpa using hr 0 _ (by simpa using hC.id)
   have hlk : wr.cell? ⟨b, off + k * 51 + 5, none⟩ = some (.slice al nl cl) := hr 5 _ (by simpa using c5)
   have hidW : ∀ W, Below wr.heap.size wr W → W.cell? ⟨b, off + k * 51, none⟩ = some (.int .u64 (oat X k).id) := fun W q => (World.cell?_of_block (w := wr) (a := ⟨b, off + k * 51, none⟩) (q.block b hbb)).trans hid
   have hsu := u4z (i := i) (show k < X.length by rw [hn.out]; exact hkn)
   have hl : (holL (X.take k) i).length ≤ k := by unfold holL; rw [List.length_map]; exact Nat.le_trans (List.length_filter_le ..) (by simp; omega)
   go_wp2_with (first
    | (with_reducible refine qaz (by kernel_rfl) _ _ rfl B _ rfl _ _ hb _ c3 ga3 ?_)
    | (with_reducible refine wjz (by kernel_rfl) _ _ rfl b _ rfl _ hlk ga4 ?_)
    | (go_at_call 99; (with_reducible refine (rhas_any hLk).on ?_ ?_) <;> (intro w1 hq hb1; replace hb := hb.next hb1; have hid1 := hidW _ hb1))
    | (with_reducible refine wjz (by kernel_rfl) _ _ rfl b _ rfl _ hid1 ga1 ?_)
    | ((with_reducible refine kVz rfl _ rfl (oat X k).id rfl ?_); intro Bq W8 hBq hbq hk8; have hown8 := xlz (xlz hown hb1) hk8)
    | (at_builtin; refine qOz infoW underlying35 rfl (by omega) rfl _ _ rfl W.heap.size _ _ _ rfl hown8 _ _ _ _ [.int .u64 (oat X k).id] rfl (v1z hbq) (fun u hu => by rw [List.mem_singleton] at hu; rw [hu]; rfl) (by unfold maxLen; omega) (by omega) (Nat.le_trans hb0s (Nat.le_trans hb1.size hk8.size)) ?_; intro v' w2 hown' hgrow))
   ·go_roundw
    case rel =>
     rw [if_pos hq.out] at hsu
     have hb2 : Below W.heap.size W w2 := ((hb0.trans (hb1.mono hb0s)).trans (hk8.mono (Nat.le_trans hb0s hb1.size))).grown hgrow (Nat.le_trans hb0s (Nat.le_trans hb1.size hk8.size)) (uFz hown8)
     refine ⟨k + 1, by omega, by go_num, ?_, hb2⟩
     rw [hsu, List.length_append]
     have e : qKz (holL (X.take k) i ++ [(oat X k).id]) = qKz (holL (X.take k) i) ++ [.int .u64 (oat X k).id] := by simp [qKz]
     rw [e]
     exact hown'
    case measure => simp [intOf]; omega
   ·go_roundw
    case rel =>
     rw [if_neg hq.out, List.append_nil] at hsu
     exact ⟨k + 1, by omega, by go_num, by rw [hsu]; exact xlz hown hb1, hb0.trans (hb1.mono hb0s)⟩
    case measure => simp [intOf]; omega
  ·obtain rfl : k = n := by omega
   go_wp2_with (first
    | (with_reducible refine qaz (by kernel_rfl) _ _ rfl B _ rfl _ _ hb _ c3 ga3 ?_))
   go_ret
   have ht : X.take k = X := by rw [← hn.out]; exact List.take_length
   rw [ht] at hown
   refine ⟨_, rfl, ⟨hown.1, ?_⟩, hbw⟩
   rcases hown.2 with q | ⟨g, c, cur, q1, q2, q3⟩
   ·exact .inl q
   ·exact .inr ⟨g, c, cur, q1, Nat.le_trans hk.size q2, q3⟩
end
section
open Go.RowKit Go.Shelf
attribute [local go_sem] Oper.semAt_some
theorem yIz {w : World} {al : Option Addr} {nl cl : Nat} {L : List Int} {i : Int} (h : CtD (LtN w) w al nl cl L) : Calls prog 187 #[.slice al nl cl, .int .u64 i] w fun e w' => ∃ r : Int, e = .returned (.int .i64 r) ∧ Hid ((0 ≤ r ↔ i ∈ L) ∧ -1 ≤ r ∧ r ≤ cl) ∧ Below w.heap.size w w' := by
 have hn : Hid (L.length = nl) := h.1
 have hnc := h.2.1
 have hcm := h.2.2.1.1
 have ga1 := isAgg22
 go_enter func187, ntmps187
 go_wp2
 go_loopw [8] (fun j wr => ∃ k : Nat, k ≤ nl ∧ j = .int .i64 k ∧ Hid (∀ q, q < k → L.getD q 0 ≠ i) ∧ wr = w) (fun j _ => nl - (intOf j).toNat)
 case atStart => exact ⟨0, Nat.zero_le _, rfl, fun q hq => absurd hq (by omega), rfl⟩
 case round =>
  obtain ⟨k, hk, rfl, hal, rfl⟩ := hrel
  by_cases hkn : k < nl
  ·obtain ⟨b, off, rfl, hb, hc⟩ := jCz h hkn
   have hkn' : (k : Int) < nl := by omega
   go_wp2_with (first
    | (with_reducible refine wjz (by kernel_rfl) _ _ rfl b _ rfl _ hc ga1 ?_)
    | ((with_reducible refine qiz (by kernel_rfl) .eql _ _ _ _ rfl _ _ rfl rfl (qEz _ _ _ _ _ _) ?_ ?_) <;> intro hq))
   ·go_ret
    refine ⟨(k : Int), rfl, ⟨⟨fun _ => ?_, fun _ => by omega⟩, by omega, by omega⟩, Below.refl _ _⟩
    rw [hq.out]
    exact jvz (by rw [hn.out]; exact hkn)
   ·go_roundw
    case rel => exact ⟨k + 1, by omega, by go_num, wUz hal.out (fun e => hq.out e.symm), trivial⟩
    case measure => simp [intOf]; omega
  ·obtain rfl : k = nl := by omega
   go_wp2
   go_ret
   have hq : ¬ i ∈ L := by
    intro e
    obtain ⟨j, hj, q⟩ := List.getElem_of_mem e
    have := hal.out j (by rw [← hn.out]; exact hj)
    rw [List.getD_eq_getElem?_getD, List.getElem?_eq_getElem hj] at this
    exact this q
   exact ⟨-1, rfl, ⟨⟨fun e => absurd e (by decide), fun e => absurd e hq⟩, by decide, by omega⟩, Below.refl _ _⟩
theorem kKz {w : World} {al : Option Addr} {nl cl : Nat} {L : List Int} {i : Int} (h : CtD (LtN w) w al nl cl L) : Asks 179 #[.slice al nl cl, .int .u64 i] (i ∈ L) w := by
 unfold Asks
 go_enter func179, ntmps179
 go_wp2_with (first
  | (go_at_call 187; (with_reducible refine (yIz h).mono ?_); rintro e w1 ⟨r, rfl, hr, hb1⟩))
 go_ret
 exact ⟨_, rfl, (show (decide (0 ≤ r) = true) ↔ i ∈ L from decide_eq_true_iff.trans hr.out.1), hb1⟩
end
section
open Go.RowKit Go.Shelf
attribute [local go_sem] Oper.semAt_some
def jMz (k : Int) : List PanicEntry := [{ v := .iface 163 (.int .i64 k), recovered := false }]
theorem wmz (k : Int) (w : World) : Calls prog 166 #[.bool true, .int .i64 k] w fun e w' => e = .returned (.tuple #[]) ∧ w = w' := by
 go_enter func166, ntmps166
 go_wp2
 go_end0
 exact ⟨rfl, rfl⟩
theorem wLz (k : Int) (w : World) : Calls prog 166 #[.bool false, .int .i64 k] w fun e w' => e = .panicked (jMz k) ∧ w = w' := by
 go_enter func166, ntmps166
 go_wp2
 exact ⟨rfl, rfl, rfl⟩
structure Tel (k : Int) (x : Ob) (w : World) (e : Ending) (w' : World) : Prop where
 yes : k = 0 → ∃ C, e = .returned (.agg C) ∧ ObD (New w w') w' C x
 no : k ≠ 0 → e = .panicked (jMz k)
 low : Below w.heap.size w w'
variable {x : Ob} {C : Array Value}
theorem Tel.told {k : Int} {w w' : World} (hk : k = 0) (h : ObD (New w w') w' C x) (hb : Below w.heap.size w w') : Tel k x w (.returned (.agg C)) w' := ⟨fun _ => ⟨C, rfl, h⟩, fun q => absurd hk q, hb⟩
theorem Tel.threw {k j : Int} {w w' : World} (hk : k = j) (hj : j ≠ 0) (hb : Below w.heap.size w w') : Tel k x w (.panicked (jMz j)) w' := by subst hk; exact ⟨fun q => absurd q hj, fun _ => rfl, hb⟩
structure Fd (F : Array Value) (t ke ro : Int) (ao : Option Addr) (n cap : Nat) (aL : Option Addr) (nL cL : Nat) : Prop where
 size : F.size = 55
 wld : F.extract 51 (51 + 4) = #[.int .i64 t, .int .u64 ke, .int .u64 ro, .slice ao n cap]
 lab : F[2]? = some (.slice aL nL cL)
 one : F.all (·.oneCell') = true
structure Fw (w : World) (F : Array Value) (L : Lb) (X : List Ob) : Prop where
 val : ∃ t ke ro ao n cap aL nL cL, Fd F t ke ro ao n cap aL nL cL ∧ Obs w ao n cap X ∧ Lab w.heap.size w aL nL cL L ∧ nL < 1048576 ∧ n ≤ 4096
 srt : Srt X
 sml : wfz X
variable {X : List Ob} {F : Array Value} {L : Lb}
theorem Fw.next {w w' : World} (h : Fw w F L X) (k : Below w.heap.size w w') : Fw w' F L X := by
 obtain ⟨⟨t, ke, ro, ao, n, cap, aL, nL, cL, h1, h2, h3, h4, h5⟩, hs, hm⟩ := h
 exact ⟨⟨t, ke, ro, ao, n, cap, aL, nL, cL, h1, quz h2 k, h3.next k, h4, h5⟩, hs, hm⟩
theorem xxz (h : F.size = 55) : (prog.info? 188).map (·.size) = some F.size := by rw [h]; kernel_rfl
variable {w : World}
theorem uMz {aT aO : Option Addr} {nT cT nO cO : Nat} {T O : List (Int × Int)} (hT : Lab w.heap.size w aT nT cT T) (hO : Lab w.heap.size w aO nO cO O) (kT : nT < 1048576) :
  Calls prog 167 #[.slice aT nT cT, .slice aO nO cO] w fun e w' => e = .returned (.bool (leqB O (wAz T))) ∧ Below w.heap.size w w' := by
 have hB := Below.refl w.heap.size w
 go_enter func167, ntmps167
 go_wp2_with (first | (go_at_call 182; refine (CkM.sees_any hT hO (by omega)).mono ?_; rintro e w1 ⟨q1, rfl, hq, kb⟩; replace hT := hT.next kb; replace hO := hO.next kb; replace hB := btz hB kb; have hq1 := hq; clear hq kb; obtain ⟨g1, l1, rfl, _, _⟩ := id hq1) | (go_at_call 181; refine (CkM.holds1_any _ hq1).mono ?_; rintro e w1 ⟨rfl, kb⟩; replace hB := btz hB kb))
 go_ret
 exact ⟨rfl, hB⟩
theorem xvz {F C : Array Value} (h : Fw w F L X) (hC : ObD (LtN w) w C x) (hs : Small x) : Calls prog 153 #[.agg F, .agg C] w fun e w' => e = .returned (.bool (seeB L x)) ∧ Below w.heap.size w w' := by
 have hmx : prog.follows .mixedOrders = true := by kernel_rfl
 obtain ⟨⟨t, ke, ro, ao, n, cap, aL, nL, cL, hF, hX, hL, kL, hn⟩, _, _⟩ := h
 have hz := hC.size
 have hf := hF.size
 have hl := hF.lab
 go_enter func153, ntmps153
 go_wp2_with (first
  | (with_reducible refine qdz rfl 188 _ rfl F rfl ?_; intro B W1 hN1 hB hk)
  | (with_reducible refine qdz rfl 50 _ rfl C rfl ?_; intro O W2 hN2 hO hk2; replace hB := hB.next hk2; replace hk := btz hk hk2; clear hk2))
 refine PgM.region_out (S := fun W => Below W2.heap.size W2 W) hmx ((Below.refl _ _).drew) (fun hS => ?_)
 generalize W2.drew = v5 at hS ⊢
 refine qlz (by kernel_rfl) (fun _ _ _ _ _ h => h) hS [(0, none), (1, none), (2, some (.slice aL nL cL)), (3, some (.agg C))] (l' := #[tt, tt, tt, tt, ff, ff, ff]) (a' := { tmps := #[.agg F, .agg C, .pointer (some ⟨B, 0, none⟩), .pointer (some ⟨O, 0, none⟩), .bool false, .pointer (some ⟨B, 0, none⟩), .pointer (some ⟨B, 2, none⟩), .slice aL nL cL, .agg C, ud, undef], defers := [] }) (obs := [.load 34 B 2 (.slice aL nL cL), .load 50 O 0 (.agg C)]) (n := 3) (by kernel_rfl) (by kernel_rfl) ⟨qgz (fun _ h => hB.next h) hl isAgg34, qTz (fun _ h => hO.next h) underlying50 (by kernel_rfl) (qhz hz), trivial⟩ ?_
 refine qzz (i := 4) (fuel := 2) (f := 168) (vs := [.agg C]) (d := some 9) (by kernel_rfl) (by kernel_rfl) (by kernel_rfl) call168 (ukz (hC.next (btz hk hS)) hs) ?_
 rintro e v6 ⟨aS, nS, cS, rfl, lS, hb6⟩
 have hS6 : Below W2.heap.size W2 v6 := btz hS hb6
 refine ⟨_, rfl, hS6, ?_⟩
 refine qzz (i := 5) (fuel := 1) (f := 167) (vs := [.slice aL nL cL, .slice aS nS cS]) (d := some 10) (by kernel_rfl) (by kernel_rfl) (by kernel_rfl) call167 (uMz (hL.next (btz hk hS6)) (LabD.wide lS fun b hb => hb.2) kL) ?_
 rintro e v7 ⟨rfl, hb7⟩
 have hS7 : Below W2.heap.size W2 v7 := btz hS6 hb7
 refine ⟨_, rfl, hS7, ?_⟩
 refine qlz (by kernel_rfl) (fun _ _ _ _ _ h => h) hS7 [(6, none)] (l' := #[tt, tt, tt, tt, tt, tt, tt]) (a' := { tmps := #[.agg F, .agg C, .pointer (some ⟨B, 0, none⟩), .pointer (some ⟨O, 0, none⟩), .bool (leqB (shoC x) (wAz L)), .pointer (some ⟨B, 0, none⟩), .pointer (some ⟨B, 2, none⟩), .slice aL nL cL, .agg C, .slice aS nS cS, .bool (leqB (shoC x) (wAz L))], defers := [] }) (obs := []) (n := 0) (by kernel_rfl) (by kernel_rfl) trivial ?_
 refine wpAnyH_done (by kernel_rfl) ?_ _
 go_wp2
 go_ret
 exact ⟨rfl, btz hk hS7⟩
theorem xiz {F C : Array Value} (h : Fw w F L X) (hC : ObD (LtN w) w C x) (hs : Small x) (hcase : (seeB L x = true) ∨ (seeB L x = false)) : Calls prog 186 #[.agg F, .agg C] w fun e w' => e = .returned (.bool (chgB L x)) ∧ Below w.heap.size w w' := by
 have hz := hC.size
 have ga0 := isAgg34
 rcases hcase with hv | hv
 case' inl =>
  have hse := fun (W : World) (hk : Below w.heap.size w W) => xvz (h.next hk) (hC.next hk) hs
  rw [hv] at hse
  have hr : Hid (chgB L x = leqB L x.label) := by show chgB L x = _; unfold chgB; rw [hv]; rfl
  obtain ⟨RV, hRV⟩ : ∃ RV, Hid (chgB L x = RV) := ⟨_, rfl⟩
  rw [hRV.out] at hr ⊢
  obtain ⟨⟨t, ke, ro, ao, n, cap, aL, nL, cL, hF, hX, hL, kL, hn⟩, _, _⟩ := h
  have hf := hF.size
  have hl := hF.lab
  obtain ⟨a2, n2, c2, e2, l2⟩ := hC.label
 case' inr =>
  have hse := fun (W : World) (hk : Below w.heap.size w W) => xvz (h.next hk) (hC.next hk) hs
  rw [hv] at hse
  have hr : Hid (chgB L x = false) := by show chgB L x = _; unfold chgB; rw [hv]; rfl
  obtain ⟨RV, hRV⟩ : ∃ RV, Hid (chgB L x = RV) := ⟨_, rfl⟩
  rw [hRV.out] at hr ⊢
  obtain ⟨⟨t, ke, ro, ao, n, cap, aL, nL, cL, hF, hX, hL, kL, hn⟩, _, _⟩ := h
  have hf := hF.size
  have hl := hF.lab
  obtain ⟨a2, n2, c2, e2, l2⟩ := hC.label
 all_goals go_enter func186, ntmps186
 all_goals go_wp2_with (first
  | go_skip
  | (with_reducible refine qdz rfl 188 _ rfl F rfl ?_; intro B W1 hN1 hB hk)
  | (with_reducible refine qdz rfl 50 _ rfl C rfl ?_; intro O W2 hN2 hO hk2; replace hB := hB.next hk2; replace hk := btz hk hk2; clear hk2)
  | (with_reducible refine qez (by kernel_rfl) 188 _ rfl B rfl F hB _ underlying188 (by kernel_rfl) (xxz hf) ?_)
  | (with_reducible refine qez (by kernel_rfl) 50 _ rfl O rfl C hO _ underlying50 (by kernel_rfl) (qhz hz) ?_)
  | (go_at_call 153; (with_reducible refine (hse _ hk).mono ?_); rintro e w3 ⟨rfl, hb3⟩; replace hB := hB.next hb3; replace hO := hO.next hb3; replace hk := btz hk hb3; clear hb3)
  | (with_reducible refine qaz (by kernel_rfl) _ _ rfl B _ rfl _ _ hB _ hl ga0 ?_)
  | (with_reducible refine qaz (by kernel_rfl) _ _ rfl O _ rfl _ _ hO _ e2 ga0 ?_)
  | (go_at_call 142; (with_reducible refine (kiz (B := 0) (hL.next hk) (LabD.lab' l2 hk)).mono ?_); rintro e w4 ⟨rfl, hb4⟩; replace hk := btz hk hb4; clear hb4))
 ·go_ret
  exact ⟨by rw [hr.out]; rfl, hk⟩
 ·go_ret
  exact ⟨by rw [hr.out]; rfl, hk⟩
theorem vdz {F C : Array Value} (h : Fw w F L X) (hC : ObD (LtN w) w C x) (hs : Small x) : Calls prog 186 #[.agg F, .agg C] w fun e w' => e = .returned (.bool (chgB L x)) ∧ Below w.heap.size w w' := by
 cases hv : seeB L x with
 | true => exact xiz h hC hs (.inl hv)
 | false => exact xiz h hC hs (.inr hv)
theorem w8z {W2 w3 W4 V4 : World} {P : Nat} (hb3 : Below W2.heap.size W2 w3) (oF : ObD (New W2 w3) w3 C x) (hN4 : Hid (w3.heap.size = P ∧ W4.heap.size = P + 1)) (hk4 : Below w3.heap.size w3 W4) (q4 : Oth P W4 V4) : Below W2.heap.size W2 V4 ∧ ObD (New W2 V4) V4 C x := by
 have h1 := hN4.out
 have h2 := hb3.size
 have h3 := q4.size
 refine ⟨q4.below _ _ (by omega) (hb3.trans (hk4.mono h2)), (oF.laterK fun b hb => ?_).wide fun b hb => ⟨hb.1, by have := hb.2; omega⟩⟩
 have h5 := hb.2
 rw [q4.block b (by omega), hk4.block b h5]
theorem newN {W2 W V : World} (h : ObD (New W2 W) W C x) (k : Below W.heap.size W V) : ObD (New W2 V) V C x := (h.laterK fun b hb => k.block b hb.2).wide fun b hb => ⟨hb.1, Nat.lt_of_lt_of_le hb.2 k.size⟩
theorem jUz {w W2 W V : World} {R : Nat} (hk : Below w.heap.size w W) (h2 : w.heap.size ≤ W2.heap.size) (o : ObD (New W2 W) W C x) (hR : w.heap.size ≤ R ∧ R < W2.heap.size) (q : Oth R W V) : ObD (New w V) V C x ∧ Below w.heap.size w V := by
 have e := q.size
 refine ⟨(o.laterK fun b hb => q.block b (by have := hb.1; omega)).wide fun b hb => ⟨Nat.le_trans h2 hb.1, by rw [e]; exact hb.2⟩, q.below _ _ hR.1 hk⟩
theorem ltN {W2 W : World} (h : ObD (New W2 W) W C x) : ObD (LtN W) W C x := h.wide fun _ hb => hb.2
theorem wZz {i : Int} (h : Fw w F L X) (hf : (fnd X i).isSome = true) : Calls prog 180 #[.agg F, .int .u64 i] w (Tel 0 (fO X i) w) := by
 obtain ⟨⟨t, ke, ro, ao, n, cap, aL, nL, cL, hF, hX, hL, kL, hn⟩, hs, hsm⟩ := h
 have hfd := fun (W : World) (hk : Below w.heap.size w W) => jbz (t := t) (ke := ke) (ro := ro) (i := i) (quz hX hk) hs hn hsm
 rw [hf] at hfd
 have hz := hF.size
 have hw := hF.wld
 have hle : 51 + 4 ≤ F.size := by rw [hz]; decide
 go_enter func180, ntmps180
 go_wp2_with (first
  | (with_reducible refine qdz rfl 188 _ rfl F rfl ?_; intro B W1 hN1 hB hk)
  | ((with_reducible refine qcz rfl _ rfl zC qsz ?_); have hx := oF; intro P W4 hN4 hP hk4; clear hx)
  | ((with_reducible refine qcz rfl _ rfl zC qsz ?_); intro R W2 hN2 hR hk2; replace hB := hB.next hk2; replace hk := btz hk hk2; clear hk2)
  | (with_reducible refine qnz (by kernel_rfl) 25 _ rfl B 51 rfl 4 F _ hB _ hw hle _ underlying25 (by kernel_rfl) xuz ?_)
  | (go_at_call 16; (with_reducible refine (hfd _ hk).mono ?_); rintro e w3 ⟨CF, rfl, oF, hb3, _⟩)
  | ((with_reducible refine qbz rfl _ _ _ rfl P rfl CF rfl zC hP (qhz oF.size) (qmz.trans oF.size.symm) oF.one ?_); intro V4 hP4 q4; obtain ⟨hb5, oG⟩ := w8z hb3 oF hN4 hk4 q4; have zG := oG.size; clear oF hb3 hk4 q4 hN4 hP; replace hR := hR.next hb5; have hsz := hb5.size; replace hk := btz hk hb5)
  | (go_at_call 166; (with_reducible refine (wmz _ _).mono ?_); rintro e w5 ⟨rfl, rfl⟩)
  | (with_reducible refine qez (by kernel_rfl) 50 _ rfl P rfl CF hP4 _ underlying50 (by kernel_rfl) (qhz zG) ?_)
  | ((with_reducible refine qbz rfl _ _ _ rfl R rfl CF rfl zC hR (qhz zG) (qmz.trans zG.symm) oG.one ?_); intro V5 hR5 q5))
 have hw2 : w.heap.size ≤ W2.heap.size := by have := hN1.out; have := hN2.out; omega
 obtain ⟨o9, b9⟩ := jUz hk hw2 oG ⟨by have := hN1.out; have := hN2.out; omega, by have := hN2.out; omega⟩ q5
 exact bodyPost_ret (v := .agg CF) (kSz results180 rfl hR5 zG) rfl (Tel.told rfl o9 b9)
theorem v8z {i : Int} (h : Fw w F L X) (hf : (fnd X i).isSome = false) : Calls prog 180 #[.agg F, .int .u64 i] w (Tel 1 (fO X i) w) := by
 obtain ⟨⟨t, ke, ro, ao, n, cap, aL, nL, cL, hF, hX, hL, kL, hn⟩, hs, hsm⟩ := h
 have hfd := fun (W : World) (hk : Below w.heap.size w W) => jbz (t := t) (ke := ke) (ro := ro) (i := i) (quz hX hk) hs hn hsm
 rw [hf] at hfd
 have hz := hF.size
 have hw := hF.wld
 have hle : 51 + 4 ≤ F.size := by rw [hz]; decide
 go_enter func180, ntmps180
 go_wp2_with (first
  | (with_reducible refine qdz rfl 188 _ rfl F rfl ?_; intro B W1 hN1 hB hk)
  | ((with_reducible refine qcz rfl _ rfl zC qsz ?_); have hx := oF; intro P W4 hN4 hP hk4; clear hx)
  | ((with_reducible refine qcz rfl _ rfl zC qsz ?_); intro R W2 hN2 hR hk2; replace hB := hB.next hk2; replace hk := btz hk hk2; clear hk2)
  | (with_reducible refine qnz (by kernel_rfl) 25 _ rfl B 51 rfl 4 F _ hB _ hw hle _ underlying25 (by kernel_rfl) xuz ?_)
  | (go_at_call 16; (with_reducible refine (hfd _ hk).mono ?_); rintro e w3 ⟨CF, rfl, oF, hb3, _⟩)
  | ((with_reducible refine qbz rfl _ _ _ rfl P rfl CF rfl zC hP (qhz oF.size) (qmz.trans oF.size.symm) oF.one ?_); intro V4 hP4 q4; obtain ⟨hb5, oG⟩ := w8z hb3 oF hN4 hk4 q4; have zG := oG.size; clear oF hb3 hk4 q4 hN4 hP; replace hR := hR.next hb5; have hsz := hb5.size; replace hk := btz hk hb5)
  | (go_at_call 166; (with_reducible refine (wLz _ _).mono ?_); rintro e w5 ⟨rfl, rfl⟩))
 exact ⟨rfl, Tel.threw rfl (by decide) hk⟩
end
section
open Go.RowKit Go.Shelf
attribute [local go_sem] Oper.semAt_some
theorem Tel.got {x : Ob} {w w' : World} {e : Ending} {k : Int} (h : Tel k x w e w') (hk : k = 0) : ∃ C, e = .returned (.agg C) ∧ ObD (New w w') w' C x ∧ Below w.heap.size w w' := by obtain ⟨C, e, o⟩ := h.yes hk; exact ⟨C, e, o, h.low⟩
theorem Tel.lost {x : Ob} {w w' : World} {e : Ending} {k : Int} (h : Tel k x w e w') (hk : k ≠ 0) : e = .panicked (jMz k) ∧ Below w.heap.size w w' := ⟨h.no hk, h.low⟩
variable {F : Array Value} {X : List Ob} {w : World} {L : Lb} {i : Int} {wr : Bool}
theorem dir_a (h : Fw w F L X) (hf : (fnd X i).isSome = false) (hE : dirE X L i wr = 1) : Calls prog 178 #[.agg F, .int .u64 i, .bool wr] w (Tel (dirE X L i wr) (fO X i) w) := by
 rw [hE]
 clear hE
 have hz : F.size = 55 := by obtain ⟨⟨_, _, _, _, _, _, _, _, _, hF, _⟩, _, _⟩ := h; exact hF.size
 have hff := fun (W : World) (hk : Below w.heap.size w W) => v8z (h.next hk) hf
 have ga2 := isAgg3
 clear hf
 go_enter func178, ntmps178
 go_wp2_with (first
  | go_skip
  | (with_reducible refine qdz rfl 188 _ rfl F rfl ?_; intro B W1 hN1 hB hk)
  | ((with_reducible refine qcz rfl _ rfl zC qsz ?_); have hx := oF; intro P W4 hN4 hP hk4; clear hx)
  | ((with_reducible refine qcz rfl _ rfl zC qsz ?_); intro R W2 hN2 hR hk2; replace hB := hB.next hk2; replace hk := btz hk hk2; clear hk2)
  | (with_reducible refine qez (by kernel_rfl) 188 _ rfl B rfl F hB _ underlying188 (by kernel_rfl) (xxz hz) ?_)
  | (go_at_call 180; (with_reducible refine (hff _ hk).mono ?_); rintro e w3 hT; obtain ⟨rfl, hb3⟩ := hT.lost (by decide)))
 exact ⟨rfl, Tel.threw rfl (by decide) (btz hk hb3)⟩
theorem dir_b (h : Fw w F L X) (hf : (fnd X i).isSome = true) (hd : ¬ (fO X i).kind = 2) (hE : dirE X L i wr = 1) : Calls prog 178 #[.agg F, .int .u64 i, .bool wr] w (Tel (dirE X L i wr) (fO X i) w) := by
 rw [hE]
 clear hE
 have hz : F.size = 55 := by obtain ⟨⟨_, _, _, _, _, _, _, _, _, hF, _⟩, _, _⟩ := h; exact hF.size
 have hff := fun (W : World) (hk : Below w.heap.size w W) => wZz (h.next hk) hf
 have hsx : Small (fO X i) := h.sml _ (xJz hf).1
 have g1 : ((fO X i).kind == 2) = false := by rw [beq_eq_false_iff_ne]; exact hd
 have ga2 := isAgg3
 clear hf hd
 go_enter func178, ntmps178
 go_wp2_with (first
  | go_skip
  | (with_reducible refine qdz rfl 188 _ rfl F rfl ?_; intro B W1 hN1 hB hk)
  | ((with_reducible refine qcz rfl _ rfl zC qsz ?_); have hx := oF; intro P W4 hN4 hP hk4; clear hx)
  | ((with_reducible refine qcz rfl _ rfl zC qsz ?_); intro R W2 hN2 hR hk2; replace hB := hB.next hk2; replace hk := btz hk hk2; clear hk2)
  | (with_reducible refine qez (by kernel_rfl) 188 _ rfl B rfl F hB _ underlying188 (by kernel_rfl) (xxz hz) ?_)
  | (go_at_call 180; (with_reducible refine (hff _ hk).mono ?_); rintro e w3 hT; obtain ⟨CF, rfl, oF, hb3⟩ := hT.got rfl; clear hT)
  | ((with_reducible refine qbz rfl _ _ _ rfl P rfl CF rfl zC hP (qhz oF.size) (qmz.trans oF.size.symm) oF.one ?_); intro V4 hP4 q4; obtain ⟨hb5, oG⟩ := w8z hb3 oF hN4 hk4 q4; have zG := oG.size; clear oF hb3 hk4 q4 hN4 hP; replace hB := hB.next hb5; replace hR := hR.next hb5; replace hk := btz hk hb5; have k1 := oG.kind; have hsz := hb5.size; have hoG := ltN oG; clear hb5)
  | (with_reducible refine qaz (by kernel_rfl) _ _ rfl P _ rfl _ _ hP4 _ k1 ga2 ?_)
  | (with_reducible refine qez (by kernel_rfl) 50 _ rfl P rfl CF hP4 _ underlying50 (by kernel_rfl) (qhz zG) ?_)
  | (go_at_call 166; (with_reducible refine (wmz _ _).mono ?_); rintro e w5 ⟨rfl, rfl⟩)
  | (go_at_call 166; (with_reducible refine (wLz _ _).mono ?_); rintro e w5 ⟨rfl, rfl⟩))
 exact ⟨rfl, Tel.threw rfl (by decide) hk⟩
theorem dir_c (h : Fw w F L X) (hf : (fnd X i).isSome = true) (hd : (fO X i).kind = 2) (hs : seeB L (fO X i) = false) (hE : dirE X L i wr = 1) : Calls prog 178 #[.agg F, .int .u64 i, .bool wr] w (Tel (dirE X L i wr) (fO X i) w) := by
 rw [hE]
 clear hE
 have hz : F.size = 55 := by obtain ⟨⟨_, _, _, _, _, _, _, _, _, hF, _⟩, _, _⟩ := h; exact hF.size
 have hff := fun (W : World) (hk : Below w.heap.size w W) => wZz (h.next hk) hf
 have hsx : Small (fO X i) := h.sml _ (xJz hf).1
 have hse := fun (W : World) (C : Array Value) (hk : Below w.heap.size w W) (hC : ObD (LtN W) W C (fO X i)) => xvz (h.next hk) hC hsx
 rw [hs] at hse
 have HD : Hid ((fO X i).kind = 2) := hd
 have ga2 := isAgg3
 clear hf hd hs
 go_enter func178, ntmps178
 go_wp2_with (first
  | go_skip
  | (with_reducible refine qdz rfl 188 _ rfl F rfl ?_; intro B W1 hN1 hB hk)
  | ((with_reducible refine qcz rfl _ rfl zC qsz ?_); have hx := oF; intro P W4 hN4 hP hk4; clear hx)
  | ((with_reducible refine qcz rfl _ rfl zC qsz ?_); intro R W2 hN2 hR hk2; replace hB := hB.next hk2; replace hk := btz hk hk2; clear hk2)
  | (with_reducible refine qez (by kernel_rfl) 188 _ rfl B rfl F hB _ underlying188 (by kernel_rfl) (xxz hz) ?_)
  | (go_at_call 180; (with_reducible refine (hff _ hk).mono ?_); rintro e w3 hT; obtain ⟨CF, rfl, oF, hb3⟩ := hT.got rfl; clear hT)
  | ((with_reducible refine qbz rfl _ _ _ rfl P rfl CF rfl zC hP (qhz oF.size) (qmz.trans oF.size.symm) oF.one ?_); intro V4 hP4 q4; obtain ⟨hb5, oG⟩ := w8z hb3 oF hN4 hk4 q4; have zG := oG.size; clear oF hb3 hk4 q4 hN4 hP; replace hB := hB.next hb5; replace hR := hR.next hb5; replace hk := btz hk hb5; have k1 := oG.kind; rw [HD.out] at k1; have hsz := hb5.size; have hoG := ltN oG; clear hb5)
  | (with_reducible refine qaz (by kernel_rfl) _ _ rfl P _ rfl _ _ hP4 _ k1 ga2 ?_)
  | (with_reducible refine qez (by kernel_rfl) 50 _ rfl P rfl CF hP4 _ underlying50 (by kernel_rfl) (qhz zG) ?_)
  | (go_at_call 153; (with_reducible refine (hse _ _ hk hoG).mono ?_); rintro e w6 ⟨rfl, hb6⟩; replace hB := hB.next hb6; replace hR := hR.next hb6; replace hP4 := hP4.next hb6; replace hk := btz hk hb6; replace oG := newN oG hb6; replace hoG := ltN oG; have hsz := Nat.le_trans hsz hb6.size; clear hb6)
  | (go_at_call 166; (with_reducible refine (wmz _ _).mono ?_); rintro e w5 ⟨rfl, rfl⟩)
  | (go_at_call 166; (with_reducible refine (wLz _ _).mono ?_); rintro e w5 ⟨rfl, rfl⟩))
 exact ⟨rfl, Tel.threw rfl (by decide) hk⟩
theorem dir_d (h : Fw w F L X) (hf : (fnd X i).isSome = true) (hd : (fO X i).kind = 2) (hs : seeB L (fO X i) = true) (hE : dirE X L i false = 0) : Calls prog 178 #[.agg F, .int .u64 i, .bool false] w (Tel (dirE X L i false) (fO X i) w) := by
 rw [hE]
 clear hE
 have hz : F.size = 55 := by obtain ⟨⟨_, _, _, _, _, _, _, _, _, hF, _⟩, _, _⟩ := h; exact hF.size
 have hff := fun (W : World) (hk : Below w.heap.size w W) => wZz (h.next hk) hf
 have hsx : Small (fO X i) := h.sml _ (xJz hf).1
 have hse := fun (W : World) (C : Array Value) (hk : Below w.heap.size w W) (hC : ObD (LtN W) W C (fO X i)) => xvz (h.next hk) hC hsx
 rw [hs] at hse
 have HD : Hid ((fO X i).kind = 2) := hd
 have ga2 := isAgg3
 clear hf hd hs
 go_enter func178, ntmps178
 go_wp2_with (first
  | go_skip
  | (with_reducible refine qdz rfl 188 _ rfl F rfl ?_; intro B W1 hN1 hB hk)
  | ((with_reducible refine qcz rfl _ rfl zC qsz ?_); have hx := oF; intro P W4 hN4 hP hk4; clear hx)
  | ((with_reducible refine qcz rfl _ rfl zC qsz ?_); intro R W2 hN2 hR hk2; replace hB := hB.next hk2; replace hk := btz hk hk2; clear hk2)
  | (with_reducible refine qez (by kernel_rfl) 188 _ rfl B rfl F hB _ underlying188 (by kernel_rfl) (xxz hz) ?_)
  | (go_at_call 180; (with_reducible refine (hff _ hk).mono ?_); rintro e w3 hT; obtain ⟨CF, rfl, oF, hb3⟩ := hT.got rfl; clear hT)
  | ((with_reducible refine qbz rfl _ _ _ rfl P rfl CF rfl zC hP (qhz oF.size) (qmz.trans oF.size.symm) oF.one ?_); intro V4 hP4 q4; obtain ⟨hb5, oG⟩ := w8z hb3 oF hN4 hk4 q4; have zG := oG.size; clear oF hb3 hk4 q4 hN4 hP; replace hB := hB.next hb5; replace hR := hR.next hb5; replace hk := btz hk hb5; have k1 := oG.kind; rw [HD.out] at k1; have hsz := hb5.size; have hoG := ltN oG; clear hb5)
  | (with_reducible refine qaz (by kernel_rfl) _ _ rfl P _ rfl _ _ hP4 _ k1 ga2 ?_)
  | (with_reducible refine qez (by kernel_rfl) 50 _ rfl P rfl CF hP4 _ underlying50 (by kernel_rfl) (qhz zG) ?_)
  | (go_at_call 153; (with_reducible refine (hse _ _ hk hoG).mono ?_); rintro e w6 ⟨rfl, hb6⟩; replace hB := hB.next hb6; replace hR := hR.next hb6; replace hP4 := hP4.next hb6; replace hk := btz hk hb6; replace oG := newN oG hb6; replace hoG := ltN oG; have hsz := Nat.le_trans hsz hb6.size; clear hb6)
  | (go_at_call 166; (with_reducible refine (wmz _ _).mono ?_); rintro e w5 ⟨rfl, rfl⟩)
  | (go_at_call 166; (with_reducible refine (wLz _ _).mono ?_); rintro e w5 ⟨rfl, rfl⟩)
  | ((with_reducible refine qbz rfl _ _ _ rfl R rfl CF rfl zC hR (qhz zG) (qmz.trans zG.symm) oG.one ?_); intro V5 hR5 q5))
 obtain ⟨o9, b9⟩ := jUz hk (by have := hN1.out; have := hN2.out; omega) oG ⟨by have := hN1.out; have := hN2.out; omega, by have := hN2.out; omega⟩ q5
 exact bodyPost_ret (v := .agg CF) (kSz results178 rfl hR5 zG) rfl (Tel.told rfl o9 b9)
theorem vbz (h : Fw w F L X) (hf : (fnd X i).isSome = true) (hd : (fO X i).kind = 2) (hs : seeB L (fO X i) = true) (hcase : (chgB L (fO X i) = true) ∧ (dirE X L i true = 0) ∨ (chgB L (fO X i) = false) ∧ (dirE X L i true = 2)) : Calls prog 178 #[.agg F, .int .u64 i, .bool true] w (Tel (dirE X L i true) (fO X i) w) := by
 have hz : F.size = 55 := by obtain ⟨⟨_, _, _, _, _, _, _, _, _, hF, _⟩, _, _⟩ := h; exact hF.size
 have ga2 := isAgg3
 rcases hcase with ⟨hc, hE⟩ | ⟨hc, hE⟩
 case' inl =>
  rw [hE]
  clear hE
  have hff := fun (W : World) (hk : Below w.heap.size w W) => wZz (h.next hk) hf
  have hsx : Small (fO X i) := h.sml _ (xJz hf).1
  have hse := fun (W : World) (C : Array Value) (hk : Below w.heap.size w W) (hC : ObD (LtN W) W C (fO X i)) => xvz (h.next hk) hC hsx
  rw [hs] at hse
  have hch := fun (W : World) (C : Array Value) (hk : Below w.heap.size w W) (hC : ObD (LtN W) W C (fO X i)) => vdz (h.next hk) hC hsx
  rw [hc] at hch
  have HD : Hid ((fO X i).kind = 2) := hd
  clear hf hd hs hc
 case' inr =>
  rw [hE]
  clear hE
  have hff := fun (W : World) (hk : Below w.heap.size w W) => wZz (h.next hk) hf
  have hsx : Small (fO X i) := h.sml _ (xJz hf).1
  have hse := fun (W : World) (C : Array Value) (hk : Below w.heap.size w W) (hC : ObD (LtN W) W C (fO X i)) => xvz (h.next hk) hC hsx
  rw [hs] at hse
  have hch := fun (W : World) (C : Array Value) (hk : Below w.heap.size w W) (hC : ObD (LtN W) W C (fO X i)) => vdz (h.next hk) hC hsx
  rw [hc] at hch
  have HD : Hid ((fO X i).kind = 2) := hd
  clear hf hd hs hc
 all_goals go_enter func178, ntmps178
 all_goals go_wp2_with (first
  | go_skip
  | (with_reducible refine qdz rfl 188 _ rfl F rfl ?_; intro B W1 hN1 hB hk)
  | ((with_reducible refine qcz rfl _ rfl zC qsz ?_); have hx := oF; intro P W4 hN4 hP hk4; clear hx)
  | ((with_reducible refine qcz rfl _ rfl zC qsz ?_); intro R W2 hN2 hR hk2; replace hB := hB.next hk2; replace hk := btz hk hk2; clear hk2)
  | (with_reducible refine qez (by kernel_rfl) 188 _ rfl B rfl F hB _ underlying188 (by kernel_rfl) (xxz hz) ?_)
  | (go_at_call 180; (with_reducible refine (hff _ hk).mono ?_); rintro e w3 hT; obtain ⟨CF, rfl, oF, hb3⟩ := hT.got rfl; clear hT)
  | ((with_reducible refine qbz rfl _ _ _ rfl P rfl CF rfl zC hP (qhz oF.size) (qmz.trans oF.size.symm) oF.one ?_); intro V4 hP4 q4; obtain ⟨hb5, oG⟩ := w8z hb3 oF hN4 hk4 q4; have zG := oG.size; clear oF hb3 hk4 q4 hN4 hP; replace hB := hB.next hb5; replace hR := hR.next hb5; replace hk := btz hk hb5; have k1 := oG.kind; rw [HD.out] at k1; have hsz := hb5.size; have hoG := ltN oG; clear hb5)
  | (with_reducible refine qaz (by kernel_rfl) _ _ rfl P _ rfl _ _ hP4 _ k1 ga2 ?_)
  | (with_reducible refine qez (by kernel_rfl) 50 _ rfl P rfl CF hP4 _ underlying50 (by kernel_rfl) (qhz zG) ?_)
  | (go_at_call 153; (with_reducible refine (hse _ _ hk hoG).mono ?_); rintro e w6 ⟨rfl, hb6⟩; replace hB := hB.next hb6; replace hR := hR.next hb6; replace hP4 := hP4.next hb6; replace hk := btz hk hb6; replace oG := newN oG hb6; replace hoG := ltN oG; have hsz := Nat.le_trans hsz hb6.size; clear hb6)
  | (go_at_call 186; (with_reducible refine (hch _ _ hk hoG).mono ?_); rintro e w7 ⟨rfl, hb6⟩; replace hB := hB.next hb6; replace hR := hR.next hb6; replace hP4 := hP4.next hb6; replace hk := btz hk hb6; replace oG := newN oG hb6; replace hoG := ltN oG; have hsz := Nat.le_trans hsz hb6.size; clear hb6)
  | (go_at_call 166; (with_reducible refine (wmz _ _).mono ?_); rintro e w5 ⟨rfl, rfl⟩)
  | (go_at_call 166; (with_reducible refine (wLz _ _).mono ?_); rintro e w5 ⟨rfl, rfl⟩)
  | ((with_reducible refine qbz rfl _ _ _ rfl R rfl CF rfl zC hR (qhz zG) (qmz.trans zG.symm) oG.one ?_); intro V5 hR5 q5))
 ·exact ⟨rfl, Tel.threw rfl (by decide) hk⟩
 ·obtain ⟨o9, b9⟩ := jUz hk (by have := hN1.out; have := hN2.out; omega) oG ⟨by have := hN1.out; have := hN2.out; omega, by have := hN2.out; omega⟩ q5
  exact bodyPost_ret (v := .agg CF) (kSz results178 rfl hR5 zG) rfl (Tel.told rfl o9 b9)
theorem dir_v (h : Fw w F L X) : Calls prog 178 #[.agg F, .int .u64 i, .bool wr] w (Tel (dirE X L i wr) (fO X i) w) := by
 cases hf : (fnd X i).isSome with
 | false => exact dir_a h hf (jBz (by rw [hf]; exact fun q => absurd q.1 (by decide)))
 | true =>
  by_cases hd : (fO X i).kind = 2
  ·cases hs : seeB L (fO X i) with
   | false => exact dir_c h hf hd hs (jBz (by rw [hs]; exact fun q => absurd q.2.2 (by decide)))
   | true =>
    cases wr with
    | false => exact dir_d h hf hd hs (gnz ⟨hf, hd, hs⟩ (fun q => absurd q.1 (by decide)))
    | true =>
     cases hc : chgB L (fO X i) with
     | true => exact vbz h hf hd hs (.inl ⟨hc, (gnz ⟨hf, hd, hs⟩ (by rw [hc]; exact fun q => absurd q.2 (by decide)))⟩)
     | false => exact vbz h hf hd hs (.inr ⟨hc, (gmz ⟨hf, hd, hs⟩ ⟨rfl, hc⟩)⟩)
  ·exact dir_b h hf hd (jBz fun q => hd q.2.1)
theorem xmz {G : Array Value} {c i : Int} (h : Fw w F L X) (g0 : G[0]? = some (.int .u64 c)) (g1 : G[1]? = some (.int .u64 i)) (hcase : (dirE X L c false ≠ 0) ∧ (lokE X L c i = dirE X L c false) ∨ (dirE X L c false = 0) ∧ (¬ i ∈ (fO X c).links) ∧ (lokE X L c i = 1) ∨ (dirE X L c false = 0) ∧ (i ∈ (fO X c).links) ∧ ((fnd X i).isSome = false) ∧ (lokE X L c i = 1) ∨ (dirE X L c false = 0) ∧ (i ∈ (fO X c).links) ∧ ((fnd X i).isSome = true) ∧ (lokE X L c i = 0)) : Calls prog 165 #[.agg F, .agg G] w (Tel (lokE X L c i) (fO X i) w) := by
 have hz : F.size = 55 := by obtain ⟨⟨_, _, _, _, _, _, _, _, _, hF, _⟩, _, _⟩ := h; exact hF.size
 have ga1 := isAgg22
 rcases hcase with ⟨hd, hE⟩ | ⟨hd, hi, hE⟩ | ⟨hd, hi, hf, hE⟩ | ⟨hd, hi, hf, hE⟩
 case' inl =>
  have hdi := fun (W : World) (hk : Below w.heap.size w W) => dir_v (i := c) (wr := false) (h.next hk)
  have HE : Hid (lokE X L c i = dirE X L c false) := hE
  clear hE
 case' inr.inl =>
  have hdi := fun (W : World) (hk : Below w.heap.size w W) => dir_v (i := c) (wr := false) (h.next hk)
  have HE : Hid (lokE X L c i = 1) := hE
  clear hE
  rw [hd] at hdi
  have ga4 := isAgg35
  have hco := fun (W : World) (a : Option Addr) (m k : Nat) (hC : CtD (LtN W) W a m k (fO X c).links) => (kKz (i := i) hC).no hi
  clear hi hd
 case' inr.inr.inl =>
  have hdi := fun (W : World) (hk : Below w.heap.size w W) => dir_v (i := c) (wr := false) (h.next hk)
  have HE : Hid (lokE X L c i = 1) := hE
  clear hE
  have hff := fun (W : World) (hk : Below w.heap.size w W) => v8z (h.next hk) hf
  clear hf
  rw [hd] at hdi
  have ga4 := isAgg35
  have hco := fun (W : World) (a : Option Addr) (m k : Nat) (hC : CtD (LtN W) W a m k (fO X c).links) => (kKz (i := i) hC).yes hi
  clear hi hd
 case' inr.inr.inr =>
  have hdi := fun (W : World) (hk : Below w.heap.size w W) => dir_v (i := c) (wr := false) (h.next hk)
  have HE : Hid (lokE X L c i = 0) := hE
  clear hE
  have hff := fun (W : World) (hk : Below w.heap.size w W) => wZz (h.next hk) hf
  clear hf
  rw [hd] at hdi
  have ga4 := isAgg35
  have hco := fun (W : World) (a : Option Addr) (m k : Nat) (hC : CtD (LtN W) W a m k (fO X c).links) => (kKz (i := i) hC).yes hi
  clear hi hd
 all_goals go_enter func165, ntmps165
 all_goals go_wp2_with (first
  | go_skip
  | (with_reducible refine qdz rfl 188 _ rfl F rfl ?_; intro B W1 hN1 hB hk)
  | (with_reducible refine qdz rfl 39 _ rfl G rfl ?_; intro Q W8 hN8 hQ hk8; replace hB := hB.next hk8; replace hk := btz hk hk8; clear hk8)
  | ((with_reducible refine qcz rfl _ rfl zC qsz ?_); have hx := oF; intro P W4 hN4 hP hk4; clear hx)
  | ((with_reducible refine qcz rfl _ rfl zC qsz ?_); intro R W2 hN2 hR hk2; replace hB := hB.next hk2; replace hQ := hQ.next hk2; replace hk := btz hk hk2; clear hk2)
  | (with_reducible refine qez (by kernel_rfl) 188 _ rfl B rfl F hB _ underlying188 (by kernel_rfl) (xxz hz) ?_)
  | (with_reducible refine qaz (by kernel_rfl) _ _ rfl Q _ rfl _ _ hQ _ g0 ga1 ?_)
  | (with_reducible refine qaz (by kernel_rfl) _ _ rfl Q _ rfl _ _ hQ _ g1 ga1 ?_)
  | (go_at_call 178; (with_reducible refine (hdi _ hk).mono ?_); rintro e w3 hT; obtain ⟨CF, rfl, oF, hb3⟩ := hT.got rfl; clear hT)
  | (go_at_call 178; (with_reducible refine (hdi _ hk).mono ?_); rintro e w3 hT; obtain ⟨rfl, hb3⟩ := hT.lost hd)
  | ((with_reducible refine qbz rfl _ _ _ rfl P rfl CF rfl zC hP (qhz oF.size) (qmz.trans oF.size.symm) oF.one ?_); intro V4 hP4 q4; obtain ⟨hb5, oG⟩ := w8z hb3 oF hN4 hk4 q4; have zG := oG.size; clear oF hb3 hk4 q4 hN4 hP; replace hB := hB.next hb5; replace hR := hR.next hb5; replace hQ := hQ.next hb5; replace hk := btz hk hb5; obtain ⟨a5, n5, c5, e5, l5⟩ := (ltN oG).links; have hsz := hb5.size; clear hb5)
  | (with_reducible refine qaz (by kernel_rfl) _ _ rfl P _ rfl _ _ hP4 _ e5 ga4 ?_)
  | (go_at_call 179; (with_reducible refine (hco _ _ _ _ l5).mono ?_); rintro e w6 ⟨rfl, hb6⟩; replace hB := hB.next hb6; replace hR := hR.next hb6; replace hQ := hQ.next hb6; replace hk := btz hk hb6; have hsz := Nat.le_trans hsz hb6.size; clear hb6)
  | (go_at_call 166; (with_reducible refine (wmz _ _).mono ?_); rintro e w5 ⟨rfl, rfl⟩)
  | (go_at_call 166; (with_reducible refine (wLz _ _).mono ?_); rintro e w5 ⟨rfl, rfl⟩)
  | (go_at_call 180; (with_reducible refine (hff _ hk).mono ?_); rintro e w7 hT; obtain ⟨CG, rfl, oH, hb7⟩ := hT.got rfl; clear hT; have zH := oH.size; replace hR := hR.next hb7; have hk9 := btz hk hb7)
  | (go_at_call 180; (with_reducible refine (hff _ hk).mono ?_); rintro e w7 hT; obtain ⟨rfl, hb7⟩ := hT.lost (by decide))
  | ((with_reducible refine qbz rfl _ _ _ rfl R rfl CG rfl zC hR (qhz zH) (qmz.trans zH.symm) oH.one ?_); intro V5 hR5 q5))
 ·obtain ⟨o9, b9⟩ := jUz hk9 hk.size oH ⟨by have := hN1.out; have := hN8.out; have := hN2.out; omega, by have := hN2.out; omega⟩ q5
  exact bodyPost_ret (v := .agg CG) (kSz results165 rfl hR5 zH) rfl (Tel.told HE.out o9 b9)
 ·exact ⟨rfl, Tel.threw HE.out (by decide) (btz hk hb7)⟩
 ·exact ⟨rfl, Tel.threw HE.out (by decide) hk⟩
 ·exact ⟨rfl, Tel.threw HE.out hd (btz hk hb3)⟩
theorem k6z {G : Array Value} {c i : Int} (h : Fw w F L X) (g0 : G[0]? = some (.int .u64 c)) (g1 : G[1]? = some (.int .u64 i)) : Calls prog 165 #[.agg F, .agg G] w (Tel (lokE X L c i) (fO X i) w) := by
 by_cases hd : dirE X L c false = 0
 ·by_cases hi : i ∈ (fO X c).links
  ·cases hf : (fnd X i).isSome with
   | false => exact xmz h g0 g1 (.inr (.inr (.inl ⟨hd, hi, hf, (uRz hd (by rw [hf]; exact fun q => absurd q.2 (by decide)))⟩)))
   | true => exact xmz h g0 g1 (.inr (.inr (.inr ⟨hd, hi, hf, (lok_ok hd ⟨hi, hf⟩)⟩)))
  ·exact xmz h g0 g1 (.inr (.inl ⟨hd, hi, (uRz hd fun q => hi q.1)⟩))
 ·exact xmz h g0 g1 (.inl ⟨hd, (uSz hd)⟩)
end
section
open Go.RowKit Go.Shelf
attribute [local go_sem] Oper.semAt_some
theorem woz : ∀ args w, (callFunc 153 args).run prog w = .ok (.enter 153 args) w := enters_of func153 (by kernel_rfl) rfl
variable {F : Array Value} {G : Array Value} {X : List Ob} {w : World} {L : Lb} {c i kd : Int}
theorem ykz (h : Fw w F L X) (g0 : G[0]? = some (.int .u64 c)) (g1 : G[1]? = some (.int .u64 i)) (gz : G.size = 2) (hcase : (lokE X L c i ≠ 0) ∧ (allE X L c i kd (seeB L) = lokE X L c i) ∨ (lokE X L c i = 0) ∧ (¬ kd = 0) ∧ (¬ kd = (fO X i).kind) ∧ (allE X L c i kd (seeB L) = 3)) : Calls prog 152 #[.agg F, .agg G, .int .i64 kd, .func (.func 153) #[.agg F] #[]] w (Tel (allE X L c i kd (seeB L)) (fO X i) w) := by
 have hz : F.size = 55 := by obtain ⟨⟨_, _, _, _, _, _, _, _, _, hF, _⟩, _, _⟩ := h; exact hF.size
 have ga2 := isAgg3
 rcases hcase with ⟨hl, hE⟩ | ⟨hl, hk0, hk1, hE⟩
 case' inl =>
  have hlo := fun (W : World) (hk : Below w.heap.size w W) => k6z (c := c) (i := i) (h.next hk) g0 g1
  have HE : Hid (allE X L c i kd (seeB L) = lokE X L c i) := hE
  have ent := woz
  have hzr : (prog.info? 39).map (·.size) = some G.size := by rw [gz]; kernel_rfl
  clear hE
 case' inr =>
  have hlo := fun (W : World) (hk : Below w.heap.size w W) => k6z (c := c) (i := i) (h.next hk) g0 g1
  have HE : Hid (allE X L c i kd (seeB L) = 3) := hE
  have ent := woz
  have hzr : (prog.info? 39).map (·.size) = some G.size := by rw [gz]; kernel_rfl
  clear hE
  rw [hl] at hlo
  have k0 : (kd == 0) = false := by rw [beq_eq_false_iff_ne]; exact hk0
  have k2 : (kd == (fO X i).kind) = false := by rw [beq_eq_false_iff_ne]; exact hk1
  clear hk0 hk1
  clear hl
 all_goals go_enter func152, ntmps152
 all_goals go_wp2_with (first
  | go_skip
  | (with_reducible refine qdz rfl 188 _ rfl F rfl ?_; intro B W1 hN1 hB hk)
  | (with_reducible refine qdz rfl 39 _ rfl G rfl ?_; intro Q W8 hN8 hQ hk8; replace hB := hB.next hk8; replace hk := btz hk hk8; clear hk8)
  | ((with_reducible refine qcz rfl _ rfl zC qsz ?_); have hx := oF; intro P W4 hN4 hP hk4; clear hx)
  | ((with_reducible refine qcz rfl _ rfl zC qsz ?_); intro R W2 hN2 hR hk2; replace hB := hB.next hk2; replace hQ := hQ.next hk2; replace hk := btz hk hk2; clear hk2)
  | (with_reducible refine qez (by kernel_rfl) 188 _ rfl B rfl F hB _ underlying188 (by kernel_rfl) (xxz hz) ?_)
  | (with_reducible refine qez (by kernel_rfl) 39 _ rfl Q rfl G hQ _ underlying39 (by kernel_rfl) hzr ?_)
  | (go_at_call 165; (with_reducible refine (hlo _ hk).mono ?_); rintro e w3 hT; obtain ⟨CF, rfl, oF, hb3⟩ := hT.got rfl; clear hT)
  | (go_at_call 165; (with_reducible refine (hlo _ hk).mono ?_); rintro e w3 hT; obtain ⟨rfl, hb3⟩ := hT.lost hl)
  | ((with_reducible refine qbz rfl _ _ _ rfl P rfl CF rfl zC hP (qhz oF.size) (qmz.trans oF.size.symm) oF.one ?_); intro V4 hP4 q4; obtain ⟨hb5, oG⟩ := w8z hb3 oF hN4 hk4 q4; have zG := oG.size; clear oF hb3 hk4 q4 hN4 hP; replace hB := hB.next hb5; replace hR := hR.next hb5; replace hQ := hQ.next hb5; replace hk := btz hk hb5; have k1 := oG.kind; have hsz := hb5.size; have hoG := ltN oG; clear hb5)
  | (with_reducible refine qaz (by kernel_rfl) _ _ rfl P _ rfl _ _ hP4 _ k1 ga2 ?_)
  | (with_reducible refine qez (by kernel_rfl) 50 _ rfl P rfl CF hP4 _ underlying50 (by kernel_rfl) (qhz zG) ?_)
  | (go_at_call 166; (with_reducible refine (wmz _ _).mono ?_); rintro e w5 ⟨rfl, rfl⟩)
  | (go_at_call 166; (with_reducible refine (wLz _ _).mono ?_); rintro e w5 ⟨rfl, rfl⟩))
 ·exact ⟨rfl, Tel.threw HE.out (by decide) hk⟩
 ·exact ⟨rfl, Tel.threw HE.out hl (btz hk hb3)⟩
theorem as_c0 {c i : Int} (h : Fw w F L X) (g0 : G[0]? = some (.int .u64 c)) (g1 : G[1]? = some (.int .u64 i)) (gz : G.size = 2) (hl : lokE X L c i = 0) (hf : (fnd X i).isSome = true) (hm : seeB L (fO X i) = true) (hE : allE X L c i 0 (seeB L) = 0) : Calls prog 152 #[.agg F, .agg G, .int .i64 0, .func (.func 153) #[.agg F] #[]] w (Tel (allE X L c i 0 (seeB L)) (fO X i) w) := by
 have hz : F.size = 55 := by obtain ⟨⟨_, _, _, _, _, _, _, _, _, hF, _⟩, _, _⟩ := h; exact hF.size
 have hlo := fun (W : World) (hk : Below w.heap.size w W) => k6z (c := c) (i := i) (h.next hk) g0 g1
 have HE : Hid (allE X L c i 0 (seeB L) = 0) := hE
 have ent := woz
 have ga2 := isAgg3
 have hzr : (prog.info? 39).map (·.size) = some G.size := by rw [gz]; kernel_rfl
 clear hE
 rw [hl] at hlo
 have hsx : Small (fO X i) := h.sml _ (xJz hf).1
 have hma := fun (W : World) (C : Array Value) (hk : Below w.heap.size w W) (hC : ObD (LtN W) W C (fO X i)) => xvz (h.next hk) hC hsx
 rw [hm] at hma
 clear hl hm hf
 go_enter func152, ntmps152
 go_wp2_with (first
  | go_skip
  | (with_reducible refine qdz rfl 188 _ rfl F rfl ?_; intro B W1 hN1 hB hk)
  | (with_reducible refine qdz rfl 39 _ rfl G rfl ?_; intro Q W8 hN8 hQ hk8; replace hB := hB.next hk8; replace hk := btz hk hk8; clear hk8)
  | ((with_reducible refine qcz rfl _ rfl zC qsz ?_); have hx := oF; intro P W4 hN4 hP hk4; clear hx)
  | ((with_reducible refine qcz rfl _ rfl zC qsz ?_); intro R W2 hN2 hR hk2; replace hB := hB.next hk2; replace hQ := hQ.next hk2; replace hk := btz hk hk2; clear hk2)
  | (with_reducible refine qez (by kernel_rfl) 188 _ rfl B rfl F hB _ underlying188 (by kernel_rfl) (xxz hz) ?_)
  | (with_reducible refine qez (by kernel_rfl) 39 _ rfl Q rfl G hQ _ underlying39 (by kernel_rfl) hzr ?_)
  | (go_at_call 165; (with_reducible refine (hlo _ hk).mono ?_); rintro e w3 hT; obtain ⟨CF, rfl, oF, hb3⟩ := hT.got rfl; clear hT)
  | ((with_reducible refine qbz rfl _ _ _ rfl P rfl CF rfl zC hP (qhz oF.size) (qmz.trans oF.size.symm) oF.one ?_); intro V4 hP4 q4; obtain ⟨hb5, oG⟩ := w8z hb3 oF hN4 hk4 q4; have zG := oG.size; clear oF hb3 hk4 q4 hN4 hP; replace hB := hB.next hb5; replace hR := hR.next hb5; replace hQ := hQ.next hb5; replace hk := btz hk hb5; have k1 := oG.kind; have hsz := hb5.size; have hoG := ltN oG; clear hb5)
  | (with_reducible refine qaz (by kernel_rfl) _ _ rfl P _ rfl _ _ hP4 _ k1 ga2 ?_)
  | (with_reducible refine qez (by kernel_rfl) 50 _ rfl P rfl CF hP4 _ underlying50 (by kernel_rfl) (qhz zG) ?_)
  | (go_at_fn 153; (with_reducible refine (hma _ _ hk hoG).mono ?_); rintro e w6 ⟨rfl, hb6⟩; replace hB := hB.next hb6; replace hR := hR.next hb6; replace hQ := hQ.next hb6; replace hP4 := hP4.next hb6; replace hk := btz hk hb6; replace oG := newN oG hb6; have hsz := Nat.le_trans hsz hb6.size; clear hb6)
  | (go_at_call 166; (with_reducible refine (wmz _ _).mono ?_); rintro e w5 ⟨rfl, rfl⟩)
  | (go_at_call 166; (with_reducible refine (wLz _ _).mono ?_); rintro e w5 ⟨rfl, rfl⟩)
  | ((with_reducible refine qbz rfl _ _ _ rfl R rfl CF rfl zC hR (qhz zG) (qmz.trans zG.symm) oG.one ?_); intro V5 hR5 q5))
 obtain ⟨o9, b9⟩ := jUz hk (by have := hN1.out; have := hN8.out; have := hN2.out; omega) oG ⟨by have := hN1.out; have := hN8.out; have := hN2.out; omega, by have := hN2.out; omega⟩ q5
 exact bodyPost_ret (v := .agg CF) (kSz results152 rfl hR5 zG) rfl (Tel.told HE.out o9 b9)
theorem as_d0 (h : Fw w F L X) (g0 : G[0]? = some (.int .u64 c)) (g1 : G[1]? = some (.int .u64 i)) (gz : G.size = 2) (hl : lokE X L c i = 0) (hf : (fnd X i).isSome = true) (hk0 : ¬ kd = 0) (hk1 : kd = (fO X i).kind) (hm : seeB L (fO X i) = true) (hE : allE X L c i kd (seeB L) = 0) : Calls prog 152 #[.agg F, .agg G, .int .i64 kd, .func (.func 153) #[.agg F] #[]] w (Tel (allE X L c i kd (seeB L)) (fO X i) w) := by
 have hz : F.size = 55 := by obtain ⟨⟨_, _, _, _, _, _, _, _, _, hF, _⟩, _, _⟩ := h; exact hF.size
 have hlo := fun (W : World) (hk : Below w.heap.size w W) => k6z (c := c) (i := i) (h.next hk) g0 g1
 have HE : Hid (allE X L c i kd (seeB L) = 0) := hE
 have ent := woz
 have ga2 := isAgg3
 have hzr : (prog.info? 39).map (·.size) = some G.size := by rw [gz]; kernel_rfl
 clear hE
 rw [hl] at hlo
 have hsx : Small (fO X i) := h.sml _ (xJz hf).1
 have hma := fun (W : World) (C : Array Value) (hk : Below w.heap.size w W) (hC : ObD (LtN W) W C (fO X i)) => xvz (h.next hk) hC hsx
 rw [hm] at hma
 have k0 : (kd == 0) = false := by rw [beq_eq_false_iff_ne]; exact hk0
 have k2 : (kd == (fO X i).kind) = true := by rw [beq_iff_eq]; exact hk1
 clear hk0 hk1
 clear hl hm hf
 go_enter func152, ntmps152
 go_wp2_with (first
  | go_skip
  | (with_reducible refine qdz rfl 188 _ rfl F rfl ?_; intro B W1 hN1 hB hk)
  | (with_reducible refine qdz rfl 39 _ rfl G rfl ?_; intro Q W8 hN8 hQ hk8; replace hB := hB.next hk8; replace hk := btz hk hk8; clear hk8)
  | ((with_reducible refine qcz rfl _ rfl zC qsz ?_); have hx := oF; intro P W4 hN4 hP hk4; clear hx)
  | ((with_reducible refine qcz rfl _ rfl zC qsz ?_); intro R W2 hN2 hR hk2; replace hB := hB.next hk2; replace hQ := hQ.next hk2; replace hk := btz hk hk2; clear hk2)
  | (with_reducible refine qez (by kernel_rfl) 188 _ rfl B rfl F hB _ underlying188 (by kernel_rfl) (xxz hz) ?_)
  | (with_reducible refine qez (by kernel_rfl) 39 _ rfl Q rfl G hQ _ underlying39 (by kernel_rfl) hzr ?_)
  | (go_at_call 165; (with_reducible refine (hlo _ hk).mono ?_); rintro e w3 hT; obtain ⟨CF, rfl, oF, hb3⟩ := hT.got rfl; clear hT)
  | ((with_reducible refine qbz rfl _ _ _ rfl P rfl CF rfl zC hP (qhz oF.size) (qmz.trans oF.size.symm) oF.one ?_); intro V4 hP4 q4; obtain ⟨hb5, oG⟩ := w8z hb3 oF hN4 hk4 q4; have zG := oG.size; clear oF hb3 hk4 q4 hN4 hP; replace hB := hB.next hb5; replace hR := hR.next hb5; replace hQ := hQ.next hb5; replace hk := btz hk hb5; have k1 := oG.kind; have hsz := hb5.size; have hoG := ltN oG; clear hb5)
  | (with_reducible refine qaz (by kernel_rfl) _ _ rfl P _ rfl _ _ hP4 _ k1 ga2 ?_)
  | (with_reducible refine qez (by kernel_rfl) 50 _ rfl P rfl CF hP4 _ underlying50 (by kernel_rfl) (qhz zG) ?_)
  | (go_at_fn 153; (with_reducible refine (hma _ _ hk hoG).mono ?_); rintro e w6 ⟨rfl, hb6⟩; replace hB := hB.next hb6; replace hR := hR.next hb6; replace hQ := hQ.next hb6; replace hP4 := hP4.next hb6; replace hk := btz hk hb6; replace oG := newN oG hb6; have hsz := Nat.le_trans hsz hb6.size; clear hb6)
  | (go_at_call 166; (with_reducible refine (wmz _ _).mono ?_); rintro e w5 ⟨rfl, rfl⟩)
  | (go_at_call 166; (with_reducible refine (wLz _ _).mono ?_); rintro e w5 ⟨rfl, rfl⟩)
  | ((with_reducible refine qbz rfl _ _ _ rfl R rfl CF rfl zC hR (qhz zG) (qmz.trans zG.symm) oG.one ?_); intro V5 hR5 q5))
 obtain ⟨o9, b9⟩ := jUz hk (by have := hN1.out; have := hN8.out; have := hN2.out; omega) oG ⟨by have := hN1.out; have := hN8.out; have := hN2.out; omega, by have := hN2.out; omega⟩ q5
 exact bodyPost_ret (v := .agg CF) (kSz results152 rfl hR5 zG) rfl (Tel.told HE.out o9 b9)
theorem as_c2 {c i : Int} (h : Fw w F L X) (g0 : G[0]? = some (.int .u64 c)) (g1 : G[1]? = some (.int .u64 i)) (gz : G.size = 2) (hl : lokE X L c i = 0) (hf : (fnd X i).isSome = true) (hm : seeB L (fO X i) = false) (hE : allE X L c i 0 (seeB L) = 2) : Calls prog 152 #[.agg F, .agg G, .int .i64 0, .func (.func 153) #[.agg F] #[]] w (Tel (allE X L c i 0 (seeB L)) (fO X i) w) := by
 have hz : F.size = 55 := by obtain ⟨⟨_, _, _, _, _, _, _, _, _, hF, _⟩, _, _⟩ := h; exact hF.size
 have hlo := fun (W : World) (hk : Below w.heap.size w W) => k6z (c := c) (i := i) (h.next hk) g0 g1
 have HE : Hid (allE X L c i 0 (seeB L) = 2) := hE
 have ent := woz
 have ga2 := isAgg3
 have hzr : (prog.info? 39).map (·.size) = some G.size := by rw [gz]; kernel_rfl
 clear hE
 rw [hl] at hlo
 have hsx : Small (fO X i) := h.sml _ (xJz hf).1
 have hma := fun (W : World) (C : Array Value) (hk : Below w.heap.size w W) (hC : ObD (LtN W) W C (fO X i)) => xvz (h.next hk) hC hsx
 rw [hm] at hma
 clear hl hm hf
 go_enter func152, ntmps152
 go_wp2_with (first
  | go_skip
  | (with_reducible refine qdz rfl 188 _ rfl F rfl ?_; intro B W1 hN1 hB hk)
  | (with_reducible refine qdz rfl 39 _ rfl G rfl ?_; intro Q W8 hN8 hQ hk8; replace hB := hB.next hk8; replace hk := btz hk hk8; clear hk8)
  | ((with_reducible refine qcz rfl _ rfl zC qsz ?_); have hx := oF; intro P W4 hN4 hP hk4; clear hx)
  | ((with_reducible refine qcz rfl _ rfl zC qsz ?_); intro R W2 hN2 hR hk2; replace hB := hB.next hk2; replace hQ := hQ.next hk2; replace hk := btz hk hk2; clear hk2)
  | (with_reducible refine qez (by kernel_rfl) 188 _ rfl B rfl F hB _ underlying188 (by kernel_rfl) (xxz hz) ?_)
  | (with_reducible refine qez (by kernel_rfl) 39 _ rfl Q rfl G hQ _ underlying39 (by kernel_rfl) hzr ?_)
  | (go_at_call 165; (with_reducible refine (hlo _ hk).mono ?_); rintro e w3 hT; obtain ⟨CF, rfl, oF, hb3⟩ := hT.got rfl; clear hT)
  | ((with_reducible refine qbz rfl _ _ _ rfl P rfl CF rfl zC hP (qhz oF.size) (qmz.trans oF.size.symm) oF.one ?_); intro V4 hP4 q4; obtain ⟨hb5, oG⟩ := w8z hb3 oF hN4 hk4 q4; have zG := oG.size; clear oF hb3 hk4 q4 hN4 hP; replace hB := hB.next hb5; replace hR := hR.next hb5; replace hQ := hQ.next hb5; replace hk := btz hk hb5; have k1 := oG.kind; have hsz := hb5.size; have hoG := ltN oG; clear hb5)
  | (with_reducible refine qaz (by kernel_rfl) _ _ rfl P _ rfl _ _ hP4 _ k1 ga2 ?_)
  | (with_reducible refine qez (by kernel_rfl) 50 _ rfl P rfl CF hP4 _ underlying50 (by kernel_rfl) (qhz zG) ?_)
  | (go_at_fn 153; (with_reducible refine (hma _ _ hk hoG).mono ?_); rintro e w6 ⟨rfl, hb6⟩; replace hB := hB.next hb6; replace hR := hR.next hb6; replace hQ := hQ.next hb6; replace hP4 := hP4.next hb6; replace hk := btz hk hb6; replace oG := newN oG hb6; have hsz := Nat.le_trans hsz hb6.size; clear hb6)
  | (go_at_call 166; (with_reducible refine (wmz _ _).mono ?_); rintro e w5 ⟨rfl, rfl⟩)
  | (go_at_call 166; (with_reducible refine (wLz _ _).mono ?_); rintro e w5 ⟨rfl, rfl⟩))
 exact ⟨rfl, Tel.threw HE.out (by decide) hk⟩
theorem as_d2 (h : Fw w F L X) (g0 : G[0]? = some (.int .u64 c)) (g1 : G[1]? = some (.int .u64 i)) (gz : G.size = 2) (hl : lokE X L c i = 0) (hf : (fnd X i).isSome = true) (hk0 : ¬ kd = 0) (hk1 : kd = (fO X i).kind) (hm : seeB L (fO X i) = false) (hE : allE X L c i kd (seeB L) = 2) : Calls prog 152 #[.agg F, .agg G, .int .i64 kd, .func (.func 153) #[.agg F] #[]] w (Tel (allE X L c i kd (seeB L)) (fO X i) w) := by
 have hz : F.size = 55 := by obtain ⟨⟨_, _, _, _, _, _, _, _, _, hF, _⟩, _, _⟩ := h; exact hF.size
 have hlo := fun (W : World) (hk : Below w.heap.size w W) => k6z (c := c) (i := i) (h.next hk) g0 g1
 have HE : Hid (allE X L c i kd (seeB L) = 2) := hE
 have ent := woz
 have ga2 := isAgg3
 have hzr : (prog.info? 39).map (·.size) = some G.size := by rw [gz]; kernel_rfl
 clear hE
 rw [hl] at hlo
 have hsx : Small (fO X i) := h.sml _ (xJz hf).1
 have hma := fun (W : World) (C : Array Value) (hk : Below w.heap.size w W) (hC : ObD (LtN W) W C (fO X i)) => xvz (h.next hk) hC hsx
 rw [hm] at hma
 have k0 : (kd == 0) = false := by rw [beq_eq_false_iff_ne]; exact hk0
 have k2 : (kd == (fO X i).kind) = true := by rw [beq_iff_eq]; exact hk1
 clear hk0 hk1
 clear hl hm hf
 go_enter func152, ntmps152
 go_wp2_with (first
  | go_skip
  | (with_reducible refine qdz rfl 188 _ rfl F rfl ?_; intro B W1 hN1 hB hk)
  | (with_reducible refine qdz rfl 39 _ rfl G rfl ?_; intro Q W8 hN8 hQ hk8; replace hB := hB.next hk8; replace hk := btz hk hk8; clear hk8)
  | ((with_reducible refine qcz rfl _ rfl zC qsz ?_); have hx := oF; intro P W4 hN4 hP hk4; clear hx)
  | ((with_reducible refine qcz rfl _ rfl zC qsz ?_); intro R W2 hN2 hR hk2; replace hB := hB.next hk2; replace hQ := hQ.next hk2; replace hk := btz hk hk2; clear hk2)
  | (with_reducible refine qez (by kernel_rfl) 188 _ rfl B rfl F hB _ underlying188 (by kernel_rfl) (xxz hz) ?_)
  | (with_reducible refine qez (by kernel_rfl) 39 _ rfl Q rfl G hQ _ underlying39 (by kernel_rfl) hzr ?_)
  | (go_at_call 165; (with_reducible refine (hlo _ hk).mono ?_); rintro e w3 hT; obtain ⟨CF, rfl, oF, hb3⟩ := hT.got rfl; clear hT)
  | ((with_reducible refine qbz rfl _ _ _ rfl P rfl CF rfl zC hP (qhz oF.size) (qmz.trans oF.size.symm) oF.one ?_); intro V4 hP4 q4; obtain ⟨hb5, oG⟩ := w8z hb3 oF hN4 hk4 q4; have zG := oG.size; clear oF hb3 hk4 q4 hN4 hP; replace hB := hB.next hb5; replace hR := hR.next hb5; replace hQ := hQ.next hb5; replace hk := btz hk hb5; have k1 := oG.kind; have hsz := hb5.size; have hoG := ltN oG; clear hb5)
  | (with_reducible refine qaz (by kernel_rfl) _ _ rfl P _ rfl _ _ hP4 _ k1 ga2 ?_)
  | (with_reducible refine qez (by kernel_rfl) 50 _ rfl P rfl CF hP4 _ underlying50 (by kernel_rfl) (qhz zG) ?_)
  | (go_at_fn 153; (with_reducible refine (hma _ _ hk hoG).mono ?_); rintro e w6 ⟨rfl, hb6⟩; replace hB := hB.next hb6; replace hR := hR.next hb6; replace hQ := hQ.next hb6; replace hP4 := hP4.next hb6; replace hk := btz hk hb6; replace oG := newN oG hb6; have hsz := Nat.le_trans hsz hb6.size; clear hb6)
  | (go_at_call 166; (with_reducible refine (wmz _ _).mono ?_); rintro e w5 ⟨rfl, rfl⟩)
  | (go_at_call 166; (with_reducible refine (wLz _ _).mono ?_); rintro e w5 ⟨rfl, rfl⟩))
 exact ⟨rfl, Tel.threw HE.out (by decide) hk⟩
theorem as_v (h : Fw w F L X) (g0 : G[0]? = some (.int .u64 c)) (g1 : G[1]? = some (.int .u64 i)) (gz : G.size = 2) : Calls prog 152 #[.agg F, .agg G, .int .i64 kd, .func (.func 153) #[.agg F] #[]] w (Tel (allE X L c i kd (seeB L)) (fO X i) w) := by
 rcases kBz X L c i with hl | hl
 ·obtain ⟨hl, _, _, hf⟩ := hl
  by_cases hk0 : kd = 0
  ·subst hk0
   cases hm : seeB L (fO X i) with
   | true => exact as_c0 h g0 g1 gz hl hf hm (gzz hl (.inl rfl) hm)
   | false => exact as_c2 h g0 g1 gz hl hf hm (vMz hl (.inl rfl) hm)
  ·by_cases hk1 : kd = (fO X i).kind
   ·cases hm : seeB L (fO X i) with
    | true => exact as_d0 h g0 g1 gz hl hf hk0 hk1 hm (gzz hl (.inr hk1) hm)
    | false => exact as_d2 h g0 g1 gz hl hf hk0 hk1 hm (vMz hl (.inr hk1) hm)
   ·exact ykz h g0 g1 gz (.inr ⟨hl, hk0, hk1, (ylz hl (fun q => q.elim hk0 hk1))⟩)
 ·have hl' : lokE X L c i ≠ 0 := by rw [hl]; decide
  exact ykz h g0 g1 gz (.inl ⟨hl', (gAz hl')⟩)
end
section
open Go.RowKit Go.Shelf
attribute [local go_sem] Oper.semAt_some
theorem w6z (off : Nat) : ∀ (v : List Value) (k : Nat) (cs : Array Value), off + k + v.length ≤ cs.size →
  ((v.zipIdx k).foldl (fun (c : Array Value) (p : Value × Nat) => c.setIfInBounds (off + p.2) p.1) cs).size = cs.size ∧
  ∀ i, ((v.zipIdx k).foldl (fun (c : Array Value) (p : Value × Nat) => c.setIfInBounds (off + p.2) p.1) cs)[i]? = if off + k ≤ i ∧ i < off + k + v.length then v[i - (off + k)]? else cs[i]?
 | [], k, cs, _ => ⟨rfl, fun i => by rw [if_neg (by simp)]; rfl⟩
 | a :: r, k, cs, h => by
  simp only [List.length_cons] at h
  obtain ⟨h1, h2⟩ := w6z off r (k + 1) (cs.setIfInBounds (off + k) a) (by simp; omega)
  simp only [List.zipIdx_cons, List.foldl_cons]
  refine ⟨h1.trans (by simp), fun i => (h2 i).trans ?_⟩
  rw [qwz (by omega)]
  simp only [List.length_cons]
  by_cases e : off + k = i
  ·subst e
   rw [if_neg (by omega), if_pos rfl, if_pos (by omega)]
   simp
  ·rw [if_neg e]
   by_cases q : off + (k + 1) ≤ i ∧ i < off + (k + 1) + r.length
   ·rw [if_pos q, if_pos (by omega), show i - (off + k) = i - (off + (k + 1)) + 1 from by omega, List.getElem?_cons_succ]
   ·rw [if_neg q, if_neg (by omega)]
theorem wYz {place : Nat → Option (Nat × Nat)} {cs C : Array Value} {i o n : Nat} {rest : List (Nat × Value)} (hp : place i = some (o, n)) (h1 : C.size = n) (h2 : o + C.size ≤ cs.size) : Instr.fill place cs ((i, .agg C) :: rest) = Instr.fill place ((C.toList.zipIdx 0).foldl (fun (c : Array Value) (p : Value × Nat) => c.setIfInBounds (o + p.2) p.1) cs) rest := by
 rw [Instr.fill, hp]
 simp only [Value.cells]
 refine (if_neg ?_).trans ?_
 ·simp [h1]
  omega
 ·rw [← Array.foldl_toList, Array.toList_zipIdx]
def zF : Array Value := zC ++ #[.int .i64 0, .int .u64 0, .int .u64 0, .slice none 0 0]
theorem wwz : zF.size = 55 := by kernel_rfl
theorem yTz (parts : List (Nat × Value)) : prog.built 188 parts = Instr.fill (fun i => (#[(0, 51), (51, 4)] : Array (Nat × Nat))[i]?) zF parts := by kernel_rfl
theorem built_f {C G : Array Value} (hC : C.size = 51) (hG : G.size = 4) : ∃ F, prog.built 188 [(0, .agg C), (1, .agg G)] = some F ∧ F.size = 55 ∧ (∀ i, i < 51 → F[i]? = C[i]?) ∧ ∀ i, i < 4 → F[51 + i]? = G[i]? := by
 rw [yTz]
 obtain ⟨a1, a2⟩ := w6z 0 C.toList 0 zF (by rw [wwz]; simp [hC])
 obtain ⟨b1, b2⟩ := w6z 51 G.toList 0 ((C.toList.zipIdx 0).foldl (fun (c : Array Value) (p : Value × Nat) => c.setIfInBounds (0 + p.2) p.1) zF) (by rw [a1, wwz]; simp [hG])
 refine ⟨_, ?_, b1.trans (a1.trans wwz), fun i hi => ?_, fun i hi => ?_⟩
 ·rw [wYz (o := 0) (n := 51) rfl hC (by rw [wwz, hC]; decide), wYz (o := 51) (n := 4) rfl hG (by rw [a1, wwz, hG]; decide)]
  rfl
 ·rw [b2 i, if_neg (by omega), a2 i, if_pos (by simp [hC]; omega)]
  simp
 ·rw [b2 (51 + i), if_pos (by simp [hG]; omega)]
  simp
theorem fd_of {C G F : Array Value} {t ke ro : Int} {ao aL : Option Addr} {n cap nL cL : Nat} (hG : G = #[.int .i64 t, .int .u64 ke, .int .u64 ro, .slice ao n cap]) (h1 : F.size = 55) (h2 : ∀ i, i < 51 → F[i]? = C[i]?) (h3 : ∀ i, i < 4 → F[51 + i]? = G[i]?) (h4 : C[2]? = some (.slice aL nL cL)) (h5 : C.all (·.oneCell') = true) : Fd F t ke ro ao n cap aL nL cL := by
 subst hG
 refine ⟨h1, ?_, (h2 2 (by decide)).trans h4, ?_⟩
 ·apply Array.ext_getElem?
  intro i
  by_cases hi : i < 4
  ·rw [qSz (by omega) hi, h3 i hi]
  ·rw [Array.getElem?_eq_none (by simp; omega), Array.getElem?_eq_none (by simp; omega)]
 ·apply wyz
  intro j v e
  by_cases hj : j < 51
  ·rw [h2 j hj] at e
   exact q2z h5 e
  ·have hl : j < 55 := by rw [← h1]; exact (Array.getElem?_eq_some_iff.1 e).1
   obtain ⟨m, rfl⟩ : ∃ m, j = 51 + m := ⟨j - 51, by omega⟩
   rw [h3 m (by omega)] at e
   exact q2z (T := #[.int .i64 t, .int .u64 ke, .int .u64 ro, .slice ao n cap]) (by kernel_rfl) e
theorem ta_hit (k : Int) (t : Nat) (w : World) : (Instr.typeAssert (.iface 163 (.int .i64 k)) t 163 true).run prog w = .ok (.tuple #[.int .i64 k, .bool true]) w := by
 simp [Instr.typeAssert, run_underlying underlying163]
theorem ta_none (t : Nat) (w : World) : (Instr.typeAssert .nilIface t 163 true).run prog w = .ok (.tuple #[.int .i64 0, .bool false]) w := by
 have hz : (zeroValue 163).run prog w = .ok (.int .i64 0) w := by kernel_rfl
 simp [Instr.typeAssert, run_underlying underlying163, hz]
theorem kLz (p : Addr) (x k : Int) (older : List PanicEntry) (w : World) (hc : w.cell? p = some (.int .i64 x)) (hz : w.frozen? p = false) :
  CallsD prog 164 #[.pointer (some p)] (.panicking ({ v := .iface 163 (.int .i64 k), recovered := false } :: older)) w fun e u' w' =>
   e = .returned (.tuple #[]) ∧ u' = .panicking ({ v := .iface 163 (.int .i64 k), recovered := true } :: older) ∧ w' = w.setCell p (.int .i64 k) := by
 refine callsD_of_wpS func164 rfl fun c₀ cs hu => ?_
 apply wpS_seq
 apply wpS_region
 simp [wpOpsS, go_sem, recoverD, hu, ntmps164, Exit.thenS, ta_hit]
 apply wpS_seq
 apply wpS_region
 simp [wpOpsS, go_sem, Exit.thenS]
 refine wpS_cond (t := true) (by simp [Act.eval, Array.replicate]) ?_
 simp only [if_true]
 apply wpS_region
 simp [wpOpsS, go_sem, hc, hz, bodyPostS, results, results164]
theorem ySz (p : Addr) (w : World) :
  CallsD prog 164 #[.pointer (some p)] .returning w fun e u' w' => e = .returned (.tuple #[]) ∧ u' = .returning ∧ w' = w := by
 refine callsD_of_wpS func164 rfl fun c₀ cs hu => ?_
 apply wpS_seq
 apply wpS_region
 simp [wpOpsS, go_sem, recoverD, hu, ntmps164, Exit.thenS, ta_none]
 apply wpS_seq
 apply wpS_region
 simp [wpOpsS, go_sem, Exit.thenS]
 refine wpS_cond (t := false) (by simp [Act.eval, Array.replicate]) ?_
 simp only [Bool.false_eq_true, if_false]
 refine wpS_of_wp (wp_skip ?_)
 cases c₀
 simp_all [bodyPostS, results, results164]
variable {w : World}
theorem res40e {fn : Func} {p q : Tmp} (h : fn.results = #[.cell p 50, .cell q 163]) {tmps : Array Value} {O E : Nat} {C : Array Value} {k : Int} (hp : tmps.getD p undef = .pointer (some ⟨O, 0, none⟩)) (hq : tmps.getD q undef = .pointer (some ⟨E, 0, none⟩)) (hO : Blk w O C 50) (hs : C.size = 51) (hE : w.cell? ⟨E, 0, none⟩ = some (.int .i64 k)) : (results fn tmps).run prog w = .ok (.tuple #[.agg C, .int .i64 k]) w := by
 have h1 := run_loadVar_mid (P := prog) w O 0 50 C.toList _ hO.range0 underlying50 rfl (by simpa using qhz hs)
 rw [Array.toArray_toList] at h1
 have h2 : (loadVar 163 ⟨E, 0, none⟩).run prog w = .ok (.int .i64 k) w := by
  have := isAgg163
  simp [go_sem, hE]
 have hp' : tmps[p]?.getD undef = .pointer (some ⟨O, 0, none⟩) := by simpa using hp
 have hq' : tmps[q]?.getD undef = .pointer (some ⟨E, 0, none⟩) := by simpa using hq
 simp only [results, h]
 simp [Sem.run_bind, Result.andThen, hp', hq', asAddr, h1, h2]
theorem giz (w w1 : World) (hb : Below (w.alloc (.cells #[.int .i64 0] 163)).heap.size (w.alloc (.cells #[.int .i64 0] 163)) w1) : w1.cell? ⟨w.heap.size, 0, none⟩ = some (.int .i64 0) ∧ w1.frozen? ⟨w.heap.size, 0, none⟩ = false :=
 ⟨(hb.cell (p := ⟨w.heap.size, 0, none⟩) (by simp)).trans (by simp), (hb.frozen (p := ⟨w.heap.size, 0, none⟩) (by simp)).trans (by simp)⟩
theorem grz (f : Nat) (lb : Array Value) (ef : ∀ args w, (callFunc f args).run prog w = .ok (.enter f args) w) {x : Ob} (h : ∀ W, Below w.heap.size w W → Calls prog f lb W (Tel 0 x W)) :
  Calls prog 150 #[.func (.func f) #[] lb] w fun e w' => ∃ C, e = .returned (.tuple #[.agg C, .int .i64 0]) ∧ ObD (New w w') w' C x ∧ Below w.heap.size w w' := by
 have hmf : ∀ (fn : Fn) (first cap : Array Value) (w : World), (Instr.makeFunc fn first cap).run prog w = .ok (.func fn first cap) w := fun _ _ _ _ => rfl
 go_enter_defers func150, ntmps150
 go_wp2_with (first
  | ((with_reducible refine qcz rfl _ rfl zC qsz ?_); intro O W1 hN1 hO hk)
  | (go_at_fn f; refine (h _ (hk.alloc hk.size _)).mono ?_; rintro e w1 hT; obtain ⟨C, rfl, oC, hb⟩ := hT.got rfl; clear hT; obtain ⟨hc1, hz1⟩ := giz W1 w1 hb; have hO1 := (hO.next ((Below.refl _ W1).alloc (Nat.le_refl _) _)).next hb; have zC1 := oC.size)
  | ((with_reducible refine qbz rfl _ _ _ rfl O rfl C rfl zC hO1 (qhz zC1) (qmz.trans zC1.symm) oC.one ?_); intro V2 hO2 q2; have hne : W1.heap.size ≠ O := (by have := hN1.out; omega); have hc2 := (World.cell?_of_block (w := w1) (a := ⟨W1.heap.size, 0, none⟩) (q2.block _ hne)).trans hc1; have hz2 : V2.frozen? ⟨W1.heap.size, 0, none⟩ = false := (by have e := q2.block _ hne; unfold World.frozen? at hz1 ⊢; rw [e]; exact hz1)))
 refine leaves_cons (f := 164) (args := #[.pointer (some ⟨W1.heap.size, 0, none⟩)]) (by simp) (by simp [go_sem]) ?_
 refine (ySz ⟨W1.heap.size, 0, none⟩ _).mono ?_
 rintro e u' w'' ⟨rfl, rfl, rfl⟩
 have hcs : (V2.setCell ⟨W1.heap.size, 0, none⟩ (.int .i64 0)).cell? ⟨W1.heap.size, 0, none⟩ = some (.int .i64 0) := World.cell?_setCell_same' _ _ _ (by rw [hc2]; rfl)
 have oE := Oth.setCell V2 W1.heap.size 0 (.int .i64 0)
 have hsz : (W1.alloc (.cells #[.int .i64 0] 163)).heap.size = W1.heap.size + 1 := by simp
 have hn := hN1.out
 have e2 := q2.size
 have e3 := oE.size
 have hbz := hb.size
 refine ⟨_, res40e results150 rfl rfl (hO2.other oE (by omega)) zC1 hcs, C, rfl, (oC.laterK fun b hb => ?_).wide fun b hb => ⟨by have := hb.1; omega, by have := hb.2; omega⟩, ?_⟩
 ·have h1 := hb.1
  rw [oE.block b (by omega), q2.block b (by omega)]
 ·exact oE.below _ _ (by omega) (q2.below _ _ (by omega) ((hk.alloc hk.size _).trans (hb.mono (by omega))))
theorem yRz (f : Nat) (lb : Array Value) (ef : ∀ args w, (callFunc f args).run prog w = .ok (.enter f args) w) {k : Int} {x : Ob} (hk0 : k ≠ 0) (h : ∀ W, Below w.heap.size w W → Calls prog f lb W (Tel k x W)) :
  Calls prog 150 #[.func (.func f) #[] lb] w fun e w' => ∃ C, e = .returned (.tuple #[.agg C, .int .i64 k]) ∧ ObD (New w w') w' C zOb ∧ Below w.heap.size w w' := by
 have hmf : ∀ (fn : Fn) (first cap : Array Value) (w : World), (Instr.makeFunc fn first cap).run prog w = .ok (.func fn first cap) w := fun _ _ _ _ => rfl
 go_enter_defers func150, ntmps150
 go_wp2_with (first
  | ((with_reducible refine qcz rfl _ rfl zC qsz ?_); intro O W1 hN1 hO hk)
  | (go_at_fn f; refine (h _ (hk.alloc hk.size _)).mono ?_; rintro e w1 hT; obtain ⟨rfl, hb⟩ := hT.lost hk0; clear hT; dsimp only [jMz]))
 obtain ⟨hc1, hz1⟩ := giz W1 w1 hb
 have hO1 := (hO.next ((Below.refl _ W1).alloc (Nat.le_refl _) (.cells #[.int .i64 0] 163))).next hb
 refine leaves_cons (f := 164) (args := #[.pointer (some ⟨W1.heap.size, 0, none⟩)]) (by simp) (by simp [go_sem]) ?_
 refine (kLz ⟨W1.heap.size, 0, none⟩ 0 k [] _ hc1 hz1).mono ?_
 rintro e u' w'' ⟨rfl, rfl, rfl⟩
 have hcs : (w1.setCell ⟨W1.heap.size, 0, none⟩ (.int .i64 k)).cell? ⟨W1.heap.size, 0, none⟩ = some (.int .i64 k) := World.cell?_setCell_same' _ _ _ (by rw [hc1]; rfl)
 have oE := Oth.setCell w1 W1.heap.size 0 (.int .i64 k)
 have hsz : (W1.alloc (.cells #[.int .i64 0] 163)).heap.size = W1.heap.size + 1 := by simp
 have hn := hN1.out
 exact ⟨_, res40e results150 rfl rfl (hO1.other oE (by omega)) qmz hcs, zC, rfl, zC_d _ _, oE.below _ _ (by omega) ((hk.alloc hk.size _).trans (hb.mono (by omega)))⟩
theorem caught_v (f : Nat) (lb : Array Value) (ef : ∀ args w, (callFunc f args).run prog w = .ok (.enter f args) w) {k : Int} {x : Ob} (h : ∀ W, Below w.heap.size w W → Calls prog f lb W (Tel k x W)) :
  Calls prog 150 #[.func (.func f) #[] lb] w fun e w' => ∃ C, e = .returned (.tuple #[.agg C, .int .i64 k]) ∧ ObD (New w w') w' C (resO k x) ∧ Below w.heap.size w w' := by
 by_cases hk0 : k = 0
 ·subst hk0
  exact (grz f lb ef h).mono fun e w' ⟨C, e1, o, hb⟩ => ⟨C, e1, by unfold resO; rw [if_pos rfl]; exact o, hb⟩
 ·exact (yRz f lb ef hk0 h).mono fun e w' ⟨C, e1, o, hb⟩ => ⟨C, e1, by unfold resO; rw [if_neg hk0]; exact o, hb⟩
end
end Go.Proofs.YtdeddhojjolihaaGreat
