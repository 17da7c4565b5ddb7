/-
 PROVED HERE: what the document's has and Holders return when they are called (contracts over this translation); what slices. What is asked stands at each.
-/
import Derived.RangeFuncNested
import Derived.Defers
import Derived.Recover
import Derived.Laws.Pointers
import Derived.WalkSmall
import Derived.Test.YtiiaohejldchdaaGreatZ23
import Derived.Test.YtiiaohejldchdaaGreatZ24
import Derived.Test.YtiiaohejldchdaaGreatZ31
namespace Go.Proofs.YtiiaohejldchdaaGreat
set_option maxRecDepth 100000
set_option maxHeartbeats 8000000
open Go.RowKit Go.Shelf
set_option linter.unusedVariables false
attribute [local go_sem] Oper.semAt_some

theorem rhas_any {w : World} {al : Option Addr} {nl cl : Nat} {L : List Int} {i : Int} (h : CtD (LtN w) w al nl cl L) : Asks 93 #[.slice al nl cl, .int .u64 i] (i ∈ L) w := by
 have hn : Hid (L.length = nl) := h.1
 have hnc := h.2.1
 have hcm := h.2.2.1.1
 have ga1 := Tryz.isAgg22
 unfold Asks
 go_enter Tryz.func93, Tryz.ntmps93
 go_wp2
 go_loopw [5] (fun j wr => ∃ k : Nat, k ≤ nl ∧ j = .int .i64 k ∧ Hid (∀ q, q < k → L.getD q 0 ≠ i) ∧ wr = w) (fun j _ => nl - (intOf j).toNat)
 case atStart => exact ⟨0, Nat.zero_le _, rfl, fun q hq => absurd hq (by omega), rfl⟩
 case round =>
  obtain ⟨k, hk, rfl, hal, rfl⟩ := hrel
  by_cases hkn : k < nl
  ·obtain ⟨b, off, rfl, hb, hc⟩ := ct_at h hkn
   have hkn' : (k : Int) < nl := by omega
   go_wp2_with (first
    | (with_reducible refine wpList_loadc (by kernel_rfl) _ _ rfl b _ rfl _ hc ga1 ?_)
    | ((with_reducible refine wpList_test (by kernel_rfl) .eql _ _ _ _ rfl _ _ rfl rfl (eqg_int _ _ _ _ _ _) ?_ ?_) <;> intro hq))
   ·go_ret
    exact askP_yes (by rw [← hq.out]; exact getD_mem (by rw [hn.out]; exact hkn)) (Below.refl _ _)
   ·go_roundw
    case rel => exact ⟨k + 1, by omega, by go_num, fn_succ hal.out hq.out, trivial⟩
    case measure => simp [intOf]; omega
  ·obtain rfl : k = nl := by omega
   go_wp2
   go_ret
   have hq : Hid (¬ i ∈ L) := by
    refine (?_ : ¬ i ∈ L)
    intro e
    obtain ⟨j, hj, q⟩ := List.getElem_of_mem e
    have := hal.out j (by rw [← hn.out]; exact hj)
    rw [List.getD_eq_getElem?_getD, List.getElem?_eq_getElem hj] at this
    exact this q
   exact askP_no hq (Below.refl _ _) id
theorem holL_succ {X : List Ob} {i : Int} {k : Nat} (h : k < X.length) : holL (X.take (k + 1)) i = holL (X.take k) i ++ (if i ∈ (oat X k).links then [(oat X k).id] else []) := by
 unfold holL
 rw [List.take_add_one, List.getElem?_eq_getElem h, oat_get h, Option.toList_some, List.filter_append, List.map_append]
 congr 1
 by_cases q : i ∈ X[k].links
 ·rw [if_pos q, List.filter_cons_of_pos (by simpa using q)]; rfl
 ·rw [if_neg q, List.filter_cons_of_neg (by simpa using q)]; rfl
theorem run_bsw {v : Int} (w : World) : (Instr.buildSlice 28 1 #[(0, .int .u64 v)]).run Tryz.prog w = .ok (.slice (some ⟨w.heap.size, 0, none⟩) 1 1) (w.alloc (.cells #[.int .u64 v] 22)) := by
 obtain ⟨i0, hi, hz0, hz1, hz2⟩ := info_parts infoW
 refine run_buildSlice w _ _ 1 _ _ i0 _ Tryz.underlying28 hi hz0 (by rw [hz1]; omega) (by rw [hz1]; omega) ?_
 rw [hz1]
 have := Great.fill_whole (s := 1) (by omega) [.int .u64 v] ((Array.range (1 * 1)).map ((Value.int .u64 0).cells[· % (Value.int .u64 0).cells.size]!)) (by simp [Value.cells]) (by simp)
 simpa [Value.cells] using this
section
variable {ops : Array Oper} {rest : List Oper} {op : Oper} {a : Act} {Q : Exit → Act → World → Prop} {w : World}
theorem wpList_bsw (hgd : op.guard = none) (x : Operand) (ho : op.op = .buildSlice 28 1 #[(0, x)]) (v : Int) (hx : a.eval x = .int .u64 v)
  (h : ∀ B W, Hid (w.heap.size = B ∧ W.heap.size = B + 1) → Blk W B #[.int .u64 v] 22 → Below w.heap.size w W → wpList Tryz.prog ops Q rest (a.put op.dst (.slice (some ⟨B, 0, none⟩) 1 1)) W) : wpList Tryz.prog ops Q (op :: rest) a w :=
 wpList_plain hgd fun K hK => by
  have e : (#[(0, x)].map fun ((i : Nat), x) => (i, a.eval x)) = #[(0, Value.int .u64 v)] := by simp [hx]
  unfold Oper.wp execOp
  simp only [ho, e, Sem.run_bind, run_bsw, Result.andThen_ok]
  exact hK _ _ (h _ _ ⟨rfl, by simp⟩ (Blk.new w #[.int .u64 v] 22) ((Below.refl _ w).alloc (Nat.le_refl _) _))
end
theorem row_word {W : World} {B : Nat} {v : Int} (h : Blk W B #[.int .u64 v] 22) : RowC 1 (LtN W) W (some ⟨B, 0, none⟩) 1 1 [.int .u64 v] :=
 ⟨rfl, Nat.le_refl _, ⟨by omega, fun e => by cases e⟩, fun _ => ⟨B, 0, rfl, h.lt, h.range0⟩⟩
theorem rholders_any {w : World} {t ke ro : Int} {ao : Option Addr} {n cap : Nat} {X : List Ob} {i : Int} (h : Obs w ao n cap X) (hn16 : n ≤ 4096) : Calls Tryz.prog 66 #[.agg #[.int .i64 t, .int .u64 ke, .int .u64 ro, .slice ao n cap], .int .u64 i] w fun e w' => ∃ v, e = .returned v ∧ w'.ownsRow w.heap.size 22 1 v (holL X i).length (wordsC (holL X i)) ∧ Below w.heap.size w w' := by
 have hn : Hid (X.length = n) := h.1
 have hnc := h.2.1
 have hcm := h.2.2.1.1
 have ga1 := Tryz.isAgg22
 have ga3 := Tryz.isAgg23
 have ga4 := Tryz.isAgg28
 have c3 : (#[.int .i64 t, .int .u64 ke, .int .u64 ro, .slice ao n cap] : Array Value)[3]? = some (.slice ao n cap) := rfl
 obtain ⟨G, hG⟩ : ∃ G : Array Value, G = #[.int .i64 t, .int .u64 ke, .int .u64 ro, .slice ao n cap] := ⟨_, rfl⟩
 rw [← hG] at c3
 rw [← hG]
 clear hG
 go_enter Tryz.func66, Tryz.ntmps66
 go_wp2_with (first
  | (with_reducible refine wpList_box rfl _ _ rfl G rfl ?_; intro B W hB hb hk))
 have hBl : Hid (w.heap.size = B ∧ W.heap.size = B + 1) := hB
 clear hB
 go_loopw [5, 6] (fun v j wr => ∃ k : Nat, k ≤ n ∧ j = .int .i64 k ∧ wr.ownsRow W.heap.size 22 1 v (holL (X.take k) i).length (wordsC (holL (X.take k) i)) ∧ Below W.heap.size W wr) (fun _ j _ => n - (intOf j).toNat)
 case atStart => exact ⟨0, Nat.zero_le _, rfl, World.ownsRow_nil _ _ _ _, Below.refl _ _⟩
 case round =>
  obtain ⟨k, hkn1, rfl, hown, hb0⟩ := hrel
  have hbw := hk.trans (hb0.mono hk.size)
  replace hb := hb.next hb0
  have hb0s := hb0.size
  by_cases hkn : k < n
  ·obtain ⟨b, off, C, rfl, hbb, hC, hr⟩ := obs_at (obs_next h hbw) hkn
   obtain ⟨al, nl, cl, c5, hLk⟩ := hC.links
   have hkn' : (k : Int) < n := by omega
   have hid : wr.cell? ⟨b, off + k * 51, none⟩ = some (.int .u64 (oat X k).id) := by simpa using hr 0 _ (by simpa using hC.id)
   have hlk : wr.cell? ⟨b, off + k * 51 + 5, none⟩ = some (.slice al nl cl) := hr 5 _ (by simpa using c5)
   have hidW : ∀ W, Below wr.heap.size wr W → W.cell? ⟨b, off + k * 51, none⟩ = some (.int .u64 (oat X k).id) := fun W q => (World.cell?_of_block (w := wr) (a := ⟨b, off + k * 51, none⟩) (q.block b hbb)).trans hid
   have hsu := holL_succ (i := i) (show k < X.length by rw [hn.out]; exact hkn)
   have hl : (holL (X.take k) i).length ≤ k := by unfold holL; rw [List.length_map]; exact Nat.le_trans (List.length_filter_le ..) (by simp; omega)
   go_wp2_with (first
    | (with_reducible refine wpList_load1 (by kernel_rfl) _ _ rfl B _ rfl _ _ hb _ c3 ga3 ?_)
    | (with_reducible refine wpList_loadc (by kernel_rfl) _ _ rfl b _ rfl _ hlk ga4 ?_)
    | (go_at_call 93; (with_reducible refine (rhas_any hLk).on ?_ ?_) <;> (intro w1 hq hb1; replace hb := hb.next hb1; have hid1 := hidW _ hb1))
    | (with_reducible refine wpList_loadc (by kernel_rfl) _ _ rfl b _ rfl _ hid1 ga1 ?_)
    | ((with_reducible refine wpList_bsw rfl _ rfl (oat X k).id rfl ?_); intro Bq W8 hBq hbq hk8; have hown8 := own_next (own_next hown hb1) hk8)
    | (at_builtin; refine wpList_append_row infoW Tryz.underlying28 rfl (by omega) rfl _ _ rfl W.heap.size _ _ _ rfl hown8 _ _ _ _ [.int .u64 (oat X k).id] rfl (row_word hbq) (fun u hu => by rw [List.mem_singleton] at hu; rw [hu]; rfl) (by unfold maxLen; omega) (by omega) (Nat.le_trans hb0s (Nat.le_trans hb1.size hk8.size)) ?_; intro v' w2 hown' hgrow))
   ·go_roundw
    case rel =>
     rw [if_pos hq.out] at hsu
     have hb2 : Below W.heap.size W w2 := ((hb0.trans (hb1.mono hb0s)).trans (hk8.mono (Nat.le_trans hb0s hb1.size))).grown hgrow (Nat.le_trans hb0s (Nat.le_trans hb1.size hk8.size)) (own_ge hown8)
     refine ⟨k + 1, by omega, by go_num, ?_, hb2⟩
     rw [hsu, List.length_append]
     have e : wordsC (holL (X.take k) i ++ [(oat X k).id]) = wordsC (holL (X.take k) i) ++ [.int .u64 (oat X k).id] := by simp [wordsC]
     rw [e]
     exact hown'
    case measure => simp [intOf]; omega
   ·go_roundw
    case rel =>
     rw [if_neg hq.out, List.append_nil] at hsu
     exact ⟨k + 1, by omega, by go_num, by rw [hsu]; exact own_next hown hb1, hb0.trans (hb1.mono hb0s)⟩
    case measure => simp [intOf]; omega
  ·obtain rfl : k = n := by omega
   go_wp2_with (first
    | (with_reducible refine wpList_load1 (by kernel_rfl) _ _ rfl B _ rfl _ _ hb _ c3 ga3 ?_))
   go_ret
   have ht : X.take k = X := by rw [← hn.out]; exact List.take_length
   rw [ht] at hown
   refine ⟨_, rfl, ⟨hown.1, ?_⟩, hbw⟩
   rcases hown.2 with q | ⟨g, c, cur, q1, q2, q3⟩
   ·exact .inl q
   ·exact .inr ⟨g, c, cur, q1, Nat.le_trans hk.size q2, q3⟩
end Go.Proofs.YtiiaohejldchdaaGreat
namespace Go.Proofs.YtiiaohejldchdaaGreat
set_option maxRecDepth 100000
set_option maxHeartbeats 8000000
open Go.RowKit Go.Shelf
set_option linter.unusedVariables false
attribute [local go_sem] Oper.semAt_some

theorem indexW_any {w : World} {al : Option Addr} {nl cl : Nat} {L : List Int} {i : Int} (h : CtD (LtN w) w al nl cl L) : Calls Tryz.prog 130 #[.slice al nl cl, .int .u64 i] w fun e w' => ∃ r : Int, e = .returned (.int .i64 r) ∧ Hid ((0 ≤ r ↔ i ∈ L) ∧ -1 ≤ r ∧ r ≤ cl) ∧ Below w.heap.size w w' := by
 have hn : Hid (L.length = nl) := h.1
 have hnc := h.2.1
 have hcm := h.2.2.1.1
 have ga1 := Tryz.isAgg22
 go_enter Tryz.func130, Tryz.ntmps130
 go_wp2
 go_loopw [8] (fun j wr => ∃ k : Nat, k ≤ nl ∧ j = .int .i64 k ∧ Hid (∀ q, q < k → L.getD q 0 ≠ i) ∧ wr = w) (fun j _ => nl - (intOf j).toNat)
 case atStart => exact ⟨0, Nat.zero_le _, rfl, fun q hq => absurd hq (by omega), rfl⟩
 case round =>
  obtain ⟨k, hk, rfl, hal, rfl⟩ := hrel
  by_cases hkn : k < nl
  ·obtain ⟨b, off, rfl, hb, hc⟩ := ct_at h hkn
   have hkn' : (k : Int) < nl := by omega
   go_wp2_with (first
    | (with_reducible refine wpList_loadc (by kernel_rfl) _ _ rfl b _ rfl _ hc ga1 ?_)
    | ((with_reducible refine wpList_test (by kernel_rfl) .eql _ _ _ _ rfl _ _ rfl rfl (eqg_int _ _ _ _ _ _) ?_ ?_) <;> intro hq))
   ·go_ret
    refine ⟨(k : Int), rfl, ⟨⟨fun _ => ?_, fun _ => by omega⟩, by omega, by omega⟩, Below.refl _ _⟩
    rw [hq.out]
    exact getD_mem (by rw [hn.out]; exact hkn)
   ·go_roundw
    case rel => exact ⟨k + 1, by omega, by go_num, fn_succ hal.out (fun e => hq.out e.symm), trivial⟩
    case measure => simp [intOf]; omega
  ·obtain rfl : k = nl := by omega
   go_wp2
   go_ret
   have hq : ¬ i ∈ L := by
    intro e
    obtain ⟨j, hj, q⟩ := List.getElem_of_mem e
    have := hal.out j (by rw [← hn.out]; exact hj)
    rw [List.getD_eq_getElem?_getD, List.getElem?_eq_getElem hj] at this
    exact this q
   exact ⟨-1, rfl, ⟨⟨fun e => absurd e (by decide), fun e => absurd e hq⟩, by decide, by omega⟩, Below.refl _ _⟩
theorem contW_any {w : World} {al : Option Addr} {nl cl : Nat} {L : List Int} {i : Int} (h : CtD (LtN w) w al nl cl L) : Asks 122 #[.slice al nl cl, .int .u64 i] (i ∈ L) w := by
 unfold Asks
 go_enter Tryz.func122, Tryz.ntmps122
 go_wp2_with (first
  | (go_at_call 130; (with_reducible refine (indexW_any h).mono ?_); rintro e w1 ⟨r, rfl, hr, hb1⟩))
 go_ret
 exact ⟨_, rfl, (show (decide (0 ≤ r) = true) ↔ i ∈ L from decide_eq_true_iff.trans hr.out.1), hb1⟩
end Go.Proofs.YtiiaohejldchdaaGreat
namespace Go.Proofs.YtiiaohejldchdaaGreat
set_option maxRecDepth 100000
set_option maxHeartbeats 8000000
open Go.RowKit Go.Shelf
set_option linter.unusedVariables false
attribute [local go_sem] Oper.semAt_some

def thrown (k : Int) : List PanicEntry := [{ v := .iface 47 (.int .i64 k), recovered := false }]
theorem need_yes (k : Int) (w : World) : Calls Tryz.prog 101 #[.bool true, .int .i64 k] w fun e w' => e = .returned (.tuple #[]) ∧ w = w' := by
 go_enter Tryz.func101, Tryz.ntmps101
 go_wp2
 go_end0
 exact ⟨rfl, rfl⟩
theorem need_no (k : Int) (w : World) : Calls Tryz.prog 101 #[.bool false, .int .i64 k] w fun e w' => e = .panicked (thrown k) ∧ w = w' := by
 go_enter Tryz.func101, Tryz.ntmps101
 go_wp2
 exact ⟨rfl, rfl, rfl⟩
structure Tel (k : Int) (x : Ob) (w : World) (e : Ending) (w' : World) : Prop where
 yes : k = 0 → ∃ C, e = .returned (.agg C) ∧ ObD (New w w') w' C x
 no : k ≠ 0 → e = .panicked (thrown k)
 low : Below w.heap.size w w'
theorem Tel.told {k : Int} {x : Ob} {w w' : World} {C : Array Value} (hk : k = 0) (h : ObD (New w w') w' C x) (hb : Below w.heap.size w w') : Tel k x w (.returned (.agg C)) w' := ⟨fun _ => ⟨C, rfl, h⟩, fun q => absurd hk q, hb⟩
theorem Tel.threw {k j : Int} {x : Ob} {w w' : World} (hk : k = j) (hj : j ≠ 0) (hb : Below w.heap.size w w') : Tel k x w (.panicked (thrown j)) w' := by subst hk; exact ⟨fun q => absurd q hj, fun _ => rfl, hb⟩
structure Fd (F : Array Value) (t ke ro : Int) (ao : Option Addr) (n cap : Nat) (aL : Option Addr) (nL cL : Nat) : Prop where
 size : F.size = 55
 wld : F.extract 51 (51 + 4) = #[.int .i64 t, .int .u64 ke, .int .u64 ro, .slice ao n cap]
 lab : F[2]? = some (.slice aL nL cL)
 one : F.all (·.oneCell') = true
structure Fw (w : World) (F : Array Value) (L : Lb) (X : List Ob) : Prop where
 val : ∃ t ke ro ao n cap aL nL cL, Fd F t ke ro ao n cap aL nL cL ∧ Obs w ao n cap X ∧ Lab w.heap.size w aL nL cL L ∧ nL < 1048576 ∧ n ≤ 4096
 srt : Srt X
 sml : Smalls X
theorem Fw.next {w w' : World} {F : Array Value} {L : Lb} {X : List Ob} (h : Fw w F L X) (k : Below w.heap.size w w') : Fw w' F L X := by
 obtain ⟨⟨t, ke, ro, ao, n, cap, aL, nL, cL, h1, h2, h3, h4, h5⟩, hs, hm⟩ := h
 exact ⟨⟨t, ke, ro, ao, n, cap, aL, nL, cL, h1, obs_next h2 k, h3.next k, h4, h5⟩, hs, hm⟩
theorem sizeF {F : Array Value} (h : F.size = 55) : (Tryz.prog.info? 123).map (·.size) = some F.size := by rw [h]; kernel_rfl
theorem observe_c {w : World} {aT aO : Option Addr} {nT cT nO cO : Nat} {T O : List (Int × Int)} (hT : Lab w.heap.size w aT nT cT T) (hO : Lab w.heap.size w aO nO cO O) (kT : nT < 1048576) :
  Calls Tryz.prog 102 #[.slice aT nT cT, .slice aO nO cO] w fun e w' => e = .returned (.bool (leqB O (raiseL T))) ∧ Below w.heap.size w w' := by
 have hB := Below.refl w.heap.size w
 go_enter Tryz.func102, Tryz.ntmps102
 go_wp2_with (first | (go_at_call 125; refine (CkM.sees_any hT hO (by omega)).mono ?_; rintro e w1 ⟨q1, rfl, hq, kb⟩; replace hT := hT.next kb; replace hO := hO.next kb; replace hB := hB.trans (kb.mono hB.size); have hq1 := hq; clear hq kb; obtain ⟨g1, l1, rfl, _, _⟩ := id hq1) | (go_at_call 124; refine (CkM.holds1_any _ hq1).mono ?_; rintro e w1 ⟨rfl, kb⟩; replace hB := hB.trans (kb.mono hB.size)))
 go_ret
 exact ⟨rfl, hB⟩
theorem sees_v {w : World} {F C : Array Value} {L : Lb} {X : List Ob} {x : Ob} (h : Fw w F L X) (hC : ObD (LtN w) w C x) (hs : Small x) : Calls Tryz.prog 80 #[.agg F, .agg C] w fun e w' => e = .returned (.bool (seeB L x)) ∧ Below w.heap.size w w' := by
 have hmx : Tryz.prog.follows .mixedOrders = true := by kernel_rfl
 obtain ⟨⟨t, ke, ro, ao, n, cap, aL, nL, cL, hF, hX, hL, kL, hn⟩, _, _⟩ := h
 have hz := hC.size
 have hf := hF.size
 have hl := hF.lab
 go_enter Tryz.func80, Tryz.ntmps80
 go_wp2_with (first
  | (with_reducible refine wpList_box rfl 123 _ rfl F rfl ?_; intro B W1 hN1 hB hk)
  | (with_reducible refine wpList_box rfl 43 _ rfl C rfl ?_; intro O W2 hN2 hO hk2; replace hB := hB.next hk2; replace hk := hk.trans (hk2.mono hk.size); clear hk2))
 refine PgM.region_out (S := fun W => Below W2.heap.size W2 W) hmx ((Below.refl _ _).drew) (fun hS => ?_)
 generalize W2.drew = v5 at hS ⊢
 refine wpAnyH_sym (by kernel_rfl) (fun _ _ _ _ _ h => h) hS [(0, none), (1, none), (2, some (.slice aL nL cL)), (3, some (.agg C))] (l' := #[true, true, true, true, false, false, false]) (a' := { tmps := #[.agg F, .agg C, .pointer (some ⟨B, 0, none⟩), .pointer (some ⟨O, 0, none⟩), .bool false, .pointer (some ⟨B, 0, none⟩), .pointer (some ⟨B, 2, none⟩), .slice aL nL cL, .agg C, ud, undef], defers := [] }) (obs := [.load 27 B 2 (.slice aL nL cL), .load 43 O 0 (.agg C)]) (n := 3) (by kernel_rfl) (by kernel_rfl) ⟨ob_load1 (fun _ h => hB.next h) hl Tryz.isAgg27, ob_loadb (fun _ h => hO.next h) Tryz.underlying43 (by kernel_rfl) (size40C hz), trivial⟩ ?_
 refine wpAnyH_callL (i := 4) (fuel := 2) (f := 103) (vs := [.agg C]) (d := some 9) (by kernel_rfl) (by kernel_rfl) (by kernel_rfl) Tryz.call103 (shown_any (hC.next (hk.trans (hS.mono hk.size))) hs) ?_
 rintro e v6 ⟨aS, nS, cS, rfl, lS, hb6⟩
 have hS6 : Below W2.heap.size W2 v6 := hS.trans (hb6.mono hS.size)
 refine ⟨_, rfl, hS6, ?_⟩
 refine wpAnyH_callL (i := 5) (fuel := 1) (f := 102) (vs := [.slice aL nL cL, .slice aS nS cS]) (d := some 10) (by kernel_rfl) (by kernel_rfl) (by kernel_rfl) Tryz.call102 (observe_c (hL.next (hk.trans (hS6.mono hk.size))) (LabD.wide lS fun b hb => hb.2) kL) ?_
 rintro e v7 ⟨rfl, hb7⟩
 have hS7 : Below W2.heap.size W2 v7 := hS6.trans (hb7.mono hS6.size)
 refine ⟨_, rfl, hS7, ?_⟩
 refine wpAnyH_sym (by kernel_rfl) (fun _ _ _ _ _ h => h) hS7 [(6, none)] (l' := #[true, true, true, true, true, true, true]) (a' := { tmps := #[.agg F, .agg C, .pointer (some ⟨B, 0, none⟩), .pointer (some ⟨O, 0, none⟩), .bool (leqB (shoC x) (raiseL L)), .pointer (some ⟨B, 0, none⟩), .pointer (some ⟨B, 2, none⟩), .slice aL nL cL, .agg C, .slice aS nS cS, .bool (leqB (shoC x) (raiseL L))], defers := [] }) (obs := []) (n := 0) (by kernel_rfl) (by kernel_rfl) trivial ?_
 refine wpAnyH_done (by kernel_rfl) ?_ _
 go_wp2
 go_ret
 exact ⟨rfl, hk.trans (hS7.mono hk.size)⟩
theorem changes_yes {w : World} {F C : Array Value} {L : Lb} {X : List Ob} {x : Ob} (h : Fw w F L X) (hC : ObD (LtN w) w C x) (hs : Small x) (hv : seeB L x = true) : Calls Tryz.prog 129 #[.agg F, .agg C] w fun e w' => e = .returned (.bool (chgB L x)) ∧ Below w.heap.size w w' := by
 have hse := fun (W : World) (hk : Below w.heap.size w W) => sees_v (h.next hk) (hC.next hk) hs
 rw [hv] at hse
 have hr : Hid (chgB L x = leqB L x.label) := by show chgB L x = _; unfold chgB; rw [hv]; rfl
 obtain ⟨RV, hRV⟩ : ∃ RV, Hid (chgB L x = RV) := ⟨_, rfl⟩
 rw [hRV.out] at hr ⊢
 obtain ⟨⟨t, ke, ro, ao, n, cap, aL, nL, cL, hF, hX, hL, kL, hn⟩, _, _⟩ := h
 have hz := hC.size
 have hf := hF.size
 have hl := hF.lab
 obtain ⟨a2, n2, c2, e2, l2⟩ := hC.label
 have ga0 := Tryz.isAgg27
 go_enter Tryz.func129, Tryz.ntmps129
 go_wp2_with (first
  | go_skip
  | (with_reducible refine wpList_box rfl 123 _ rfl F rfl ?_; intro B W1 hN1 hB hk)
  | (with_reducible refine wpList_box rfl 43 _ rfl C rfl ?_; intro O W2 hN2 hO hk2; replace hB := hB.next hk2; replace hk := hk.trans (hk2.mono hk.size); clear hk2)
  | (with_reducible refine wpList_loadb (by kernel_rfl) 123 _ rfl B rfl F hB _ Tryz.underlying123 (by kernel_rfl) (sizeF hf) ?_)
  | (with_reducible refine wpList_loadb (by kernel_rfl) 43 _ rfl O rfl C hO _ Tryz.underlying43 (by kernel_rfl) (size40C hz) ?_)
  | (go_at_call 80; (with_reducible refine (hse _ hk).mono ?_); rintro e w3 ⟨rfl, hb3⟩; replace hB := hB.next hb3; replace hO := hO.next hb3; replace hk := hk.trans (hb3.mono hk.size); clear hb3)
  | (with_reducible refine wpList_load1 (by kernel_rfl) _ _ rfl B _ rfl _ _ hB _ hl ga0 ?_)
  | (with_reducible refine wpList_load1 (by kernel_rfl) _ _ rfl O _ rfl _ _ hO _ e2 ga0 ?_)
  | (go_at_call 58; (with_reducible refine (lleq_any (B := 0) (hL.next hk) (LabD.lab' l2 hk)).mono ?_); rintro e w4 ⟨rfl, hb4⟩; replace hk := hk.trans (hb4.mono hk.size); clear hb4))
 go_ret
 exact ⟨by rw [hr.out]; rfl, hk⟩
theorem changes_no {w : World} {F C : Array Value} {L : Lb} {X : List Ob} {x : Ob} (h : Fw w F L X) (hC : ObD (LtN w) w C x) (hs : Small x) (hv : seeB L x = false) : Calls Tryz.prog 129 #[.agg F, .agg C] w fun e w' => e = .returned (.bool (chgB L x)) ∧ Below w.heap.size w w' := by
 have hse := fun (W : World) (hk : Below w.heap.size w W) => sees_v (h.next hk) (hC.next hk) hs
 rw [hv] at hse
 have hr : Hid (chgB L x = false) := by show chgB L x = _; unfold chgB; rw [hv]; rfl
 obtain ⟨RV, hRV⟩ : ∃ RV, Hid (chgB L x = RV) := ⟨_, rfl⟩
 rw [hRV.out] at hr ⊢
 obtain ⟨⟨t, ke, ro, ao, n, cap, aL, nL, cL, hF, hX, hL, kL, hn⟩, _, _⟩ := h
 have hz := hC.size
 have hf := hF.size
 have hl := hF.lab
 obtain ⟨a2, n2, c2, e2, l2⟩ := hC.label
 have ga0 := Tryz.isAgg27
 go_enter Tryz.func129, Tryz.ntmps129
 go_wp2_with (first
  | go_skip
  | (with_reducible refine wpList_box rfl 123 _ rfl F rfl ?_; intro B W1 hN1 hB hk)
  | (with_reducible refine wpList_box rfl 43 _ rfl C rfl ?_; intro O W2 hN2 hO hk2; replace hB := hB.next hk2; replace hk := hk.trans (hk2.mono hk.size); clear hk2)
  | (with_reducible refine wpList_loadb (by kernel_rfl) 123 _ rfl B rfl F hB _ Tryz.underlying123 (by kernel_rfl) (sizeF hf) ?_)
  | (with_reducible refine wpList_loadb (by kernel_rfl) 43 _ rfl O rfl C hO _ Tryz.underlying43 (by kernel_rfl) (size40C hz) ?_)
  | (go_at_call 80; (with_reducible refine (hse _ hk).mono ?_); rintro e w3 ⟨rfl, hb3⟩; replace hB := hB.next hb3; replace hO := hO.next hb3; replace hk := hk.trans (hb3.mono hk.size); clear hb3))
 go_ret
 exact ⟨by rw [hr.out]; rfl, hk⟩
theorem changes_v {w : World} {F C : Array Value} {L : Lb} {X : List Ob} {x : Ob} (h : Fw w F L X) (hC : ObD (LtN w) w C x) (hs : Small x) : Calls Tryz.prog 129 #[.agg F, .agg C] w fun e w' => e = .returned (.bool (chgB L x)) ∧ Below w.heap.size w w' := by
 cases hv : seeB L x with
 | true => exact changes_yes h hC hs hv
 | false => exact changes_no h hC hs hv
theorem laid_v {W2 w3 W4 V4 : World} {P : Nat} {C : Array Value} {x : Ob} (hb3 : Below W2.heap.size W2 w3) (oF : ObD (New W2 w3) w3 C x) (hN4 : Hid (w3.heap.size = P ∧ W4.heap.size = P + 1)) (hk4 : Below w3.heap.size w3 W4) (q4 : Oth P W4 V4) : Below W2.heap.size W2 V4 ∧ ObD (New W2 V4) V4 C x := by
 have h1 := hN4.out
 have h2 := hb3.size
 have h3 := q4.size
 refine ⟨q4.below _ _ (by omega) (hb3.trans (hk4.mono h2)), (oF.laterK fun b hb => ?_).wide fun b hb => ⟨hb.1, by have := hb.2; omega⟩⟩
 have h5 := hb.2
 rw [q4.block b (by omega), hk4.block b h5]
theorem newN {W2 W V : World} {C : Array Value} {x : Ob} (h : ObD (New W2 W) W C x) (k : Below W.heap.size W V) : ObD (New W2 V) V C x := (h.laterK fun b hb => k.block b hb.2).wide fun b hb => ⟨hb.1, Nat.lt_of_lt_of_le hb.2 k.size⟩
theorem ret_v {w W2 W V : World} {R : Nat} {C : Array Value} {x : Ob} (hk : Below w.heap.size w W) (h2 : w.heap.size ≤ W2.heap.size) (o : ObD (New W2 W) W C x) (hR : w.heap.size ≤ R ∧ R < W2.heap.size) (q : Oth R W V) : ObD (New w V) V C x ∧ Below w.heap.size w V := by
 have e := q.size
 refine ⟨(o.laterK fun b hb => q.block b (by have := hb.1; omega)).wide fun b hb => ⟨Nat.le_trans h2 hb.1, by rw [e]; exact hb.2⟩, q.below _ _ hR.1 hk⟩
theorem ltN {W2 W : World} {C : Array Value} {x : Ob} (h : ObD (New W2 W) W C x) : ObD (LtN W) W C x := h.wide fun _ hb => hb.2
theorem ffind_yes {w : World} {F : Array Value} {L : Lb} {X : List Ob} {i : Int} (h : Fw w F L X) (hf : (fnd X i).isSome = true) : Calls Tryz.prog 123 #[.agg F, .int .u64 i] w (Tel 0 (fO X i) w) := by
 obtain ⟨⟨t, ke, ro, ao, n, cap, aL, nL, cL, hF, hX, hL, kL, hn⟩, hs, hsm⟩ := h
 have hfd := fun (W : World) (hk : Below w.heap.size w W) => find_n (t := t) (ke := ke) (ro := ro) (i := i) (obs_next hX hk) hs hn hsm
 rw [hf] at hfd
 have hz := hF.size
 have hw := hF.wld
 have hle : 51 + 4 ≤ F.size := by rw [hz]; decide
 go_enter Tryz.func123, Tryz.ntmps123
 go_wp2_with (first
  | (with_reducible refine wpList_box rfl 123 _ rfl F rfl ?_; intro B W1 hN1 hB hk)
  | ((with_reducible refine wpList_alloc rfl _ rfl zC zero40 ?_); have hx := oF; intro P W4 hN4 hP hk4; clear hx)
  | ((with_reducible refine wpList_alloc rfl _ rfl zC zero40 ?_); intro R W2 hN2 hR hk2; replace hB := hB.next hk2; replace hk := hk.trans (hk2.mono hk.size); clear hk2)
  | (with_reducible refine wpList_loadp (by kernel_rfl) 25 _ rfl B 51 rfl 4 F _ hB _ hw hle _ Tryz.underlying25 (by kernel_rfl) size43 ?_)
  | (go_at_call 113; (with_reducible refine (hfd _ hk).mono ?_); rintro e w3 ⟨CF, rfl, oF, hb3, _⟩)
  | ((with_reducible refine wpList_store_blk rfl _ _ _ rfl P rfl CF rfl zC hP (size40C oF.size) (zC_size.trans oF.size.symm) oF.one ?_); intro V4 hP4 q4; obtain ⟨hb5, oG⟩ := laid_v hb3 oF hN4 hk4 q4; have zG := oG.size; clear oF hb3 hk4 q4 hN4 hP; replace hR := hR.next hb5; have hsz := hb5.size; replace hk := hk.trans (hb5.mono hk.size))
  | (go_at_call 101; (with_reducible refine (need_yes _ _).mono ?_); rintro e w5 ⟨rfl, rfl⟩)
  | (with_reducible refine wpList_loadb (by kernel_rfl) 43 _ rfl P rfl CF hP4 _ Tryz.underlying43 (by kernel_rfl) (size40C zG) ?_)
  | ((with_reducible refine wpList_store_blk rfl _ _ _ rfl R rfl CF rfl zC hR (size40C zG) (zC_size.trans zG.symm) oG.one ?_); intro V5 hR5 q5))
 have hw2 : w.heap.size ≤ W2.heap.size := by have := hN1.out; have := hN2.out; omega
 obtain ⟨o9, b9⟩ := ret_v hk hw2 oG ⟨by have := hN1.out; have := hN2.out; omega, by have := hN2.out; omega⟩ q5
 exact bodyPost_ret (v := .agg CF) (res40 Tryz.results123 rfl hR5 zG) rfl (Tel.told rfl o9 b9)
theorem ffind_no {w : World} {F : Array Value} {L : Lb} {X : List Ob} {i : Int} (h : Fw w F L X) (hf : (fnd X i).isSome = false) : Calls Tryz.prog 123 #[.agg F, .int .u64 i] w (Tel 1 (fO X i) w) := by
 obtain ⟨⟨t, ke, ro, ao, n, cap, aL, nL, cL, hF, hX, hL, kL, hn⟩, hs, hsm⟩ := h
 have hfd := fun (W : World) (hk : Below w.heap.size w W) => find_n (t := t) (ke := ke) (ro := ro) (i := i) (obs_next hX hk) hs hn hsm
 rw [hf] at hfd
 have hz := hF.size
 have hw := hF.wld
 have hle : 51 + 4 ≤ F.size := by rw [hz]; decide
 go_enter Tryz.func123, Tryz.ntmps123
 go_wp2_with (first
  | (with_reducible refine wpList_box rfl 123 _ rfl F rfl ?_; intro B W1 hN1 hB hk)
  | ((with_reducible refine wpList_alloc rfl _ rfl zC zero40 ?_); have hx := oF; intro P W4 hN4 hP hk4; clear hx)
  | ((with_reducible refine wpList_alloc rfl _ rfl zC zero40 ?_); intro R W2 hN2 hR hk2; replace hB := hB.next hk2; replace hk := hk.trans (hk2.mono hk.size); clear hk2)
  | (with_reducible refine wpList_loadp (by kernel_rfl) 25 _ rfl B 51 rfl 4 F _ hB _ hw hle _ Tryz.underlying25 (by kernel_rfl) size43 ?_)
  | (go_at_call 113; (with_reducible refine (hfd _ hk).mono ?_); rintro e w3 ⟨CF, rfl, oF, hb3, _⟩)
  | ((with_reducible refine wpList_store_blk rfl _ _ _ rfl P rfl CF rfl zC hP (size40C oF.size) (zC_size.trans oF.size.symm) oF.one ?_); intro V4 hP4 q4; obtain ⟨hb5, oG⟩ := laid_v hb3 oF hN4 hk4 q4; have zG := oG.size; clear oF hb3 hk4 q4 hN4 hP; replace hR := hR.next hb5; have hsz := hb5.size; replace hk := hk.trans (hb5.mono hk.size))
  | (go_at_call 101; (with_reducible refine (need_no _ _).mono ?_); rintro e w5 ⟨rfl, rfl⟩))
 exact ⟨rfl, Tel.threw rfl (by decide) hk⟩
end Go.Proofs.YtiiaohejldchdaaGreat
namespace Go.Proofs.YtiiaohejldchdaaGreat
set_option maxRecDepth 100000
set_option maxHeartbeats 8000000
open Go.RowKit Go.Shelf
set_option linter.unusedVariables false
attribute [local go_sem] Oper.semAt_some

theorem Tel.got {x : Ob} {w w' : World} {e : Ending} {k : Int} (h : Tel k x w e w') (hk : k = 0) : ∃ C, e = .returned (.agg C) ∧ ObD (New w w') w' C x ∧ Below w.heap.size w w' := by obtain ⟨C, e, o⟩ := h.yes hk; exact ⟨C, e, o, h.low⟩
theorem Tel.lost {x : Ob} {w w' : World} {e : Ending} {k : Int} (h : Tel k x w e w') (hk : k ≠ 0) : e = .panicked (thrown k) ∧ Below w.heap.size w w' := ⟨h.no hk, h.low⟩
theorem dir_a {w : World} {F : Array Value} {L : Lb} {X : List Ob} {i : Int} (h : Fw w F L X) (hf : (fnd X i).isSome = false) {wr : Bool} (hE : dirE X L i wr = 1) : Calls Tryz.prog 121 #[.agg F, .int .u64 i, .bool wr] w (Tel (dirE X L i wr) (fO X i) w) := by
 rw [hE]
 clear hE
 have hz : F.size = 55 := by obtain ⟨⟨_, _, _, _, _, _, _, _, _, hF, _⟩, _, _⟩ := h; exact hF.size
 have hff := fun (W : World) (hk : Below w.heap.size w W) => ffind_no (h.next hk) hf
 have ga2 := Tryz.isAgg3
 clear hf
 go_enter Tryz.func121, Tryz.ntmps121
 go_wp2_with (first
  | go_skip
  | (with_reducible refine wpList_box rfl 123 _ rfl F rfl ?_; intro B W1 hN1 hB hk)
  | ((with_reducible refine wpList_alloc rfl _ rfl zC zero40 ?_); have hx := oF; intro P W4 hN4 hP hk4; clear hx)
  | ((with_reducible refine wpList_alloc rfl _ rfl zC zero40 ?_); intro R W2 hN2 hR hk2; replace hB := hB.next hk2; replace hk := hk.trans (hk2.mono hk.size); clear hk2)
  | (with_reducible refine wpList_loadb (by kernel_rfl) 123 _ rfl B rfl F hB _ Tryz.underlying123 (by kernel_rfl) (sizeF hz) ?_)
  | (go_at_call 123; (with_reducible refine (hff _ hk).mono ?_); rintro e w3 hT; obtain ⟨rfl, hb3⟩ := hT.lost (by decide)))
 exact ⟨rfl, Tel.threw rfl (by decide) (hk.trans (hb3.mono hk.size))⟩
theorem dir_b {w : World} {F : Array Value} {L : Lb} {X : List Ob} {i : Int} (h : Fw w F L X) (hf : (fnd X i).isSome = true) (hd : ¬ (fO X i).kind = 2) {wr : Bool} (hE : dirE X L i wr = 1) : Calls Tryz.prog 121 #[.agg F, .int .u64 i, .bool wr] w (Tel (dirE X L i wr) (fO X i) w) := by
 rw [hE]
 clear hE
 have hz : F.size = 55 := by obtain ⟨⟨_, _, _, _, _, _, _, _, _, hF, _⟩, _, _⟩ := h; exact hF.size
 have hff := fun (W : World) (hk : Below w.heap.size w W) => ffind_yes (h.next hk) hf
 have hsx : Small (fO X i) := h.sml _ (fO_mem hf).1
 have g1 : ((fO X i).kind == 2) = false := by rw [beq_eq_false_iff_ne]; exact hd
 have ga2 := Tryz.isAgg3
 clear hf hd
 go_enter Tryz.func121, Tryz.ntmps121
 go_wp2_with (first
  | go_skip
  | (with_reducible refine wpList_box rfl 123 _ rfl F rfl ?_; intro B W1 hN1 hB hk)
  | ((with_reducible refine wpList_alloc rfl _ rfl zC zero40 ?_); have hx := oF; intro P W4 hN4 hP hk4; clear hx)
  | ((with_reducible refine wpList_alloc rfl _ rfl zC zero40 ?_); intro R W2 hN2 hR hk2; replace hB := hB.next hk2; replace hk := hk.trans (hk2.mono hk.size); clear hk2)
  | (with_reducible refine wpList_loadb (by kernel_rfl) 123 _ rfl B rfl F hB _ Tryz.underlying123 (by kernel_rfl) (sizeF hz) ?_)
  | (go_at_call 123; (with_reducible refine (hff _ hk).mono ?_); rintro e w3 hT; obtain ⟨CF, rfl, oF, hb3⟩ := hT.got rfl; clear hT)
  | ((with_reducible refine wpList_store_blk rfl _ _ _ rfl P rfl CF rfl zC hP (size40C oF.size) (zC_size.trans oF.size.symm) oF.one ?_); intro V4 hP4 q4; obtain ⟨hb5, oG⟩ := laid_v hb3 oF hN4 hk4 q4; have zG := oG.size; clear oF hb3 hk4 q4 hN4 hP; replace hB := hB.next hb5; replace hR := hR.next hb5; replace hk := hk.trans (hb5.mono hk.size); have k1 := oG.kind; have hsz := hb5.size; have hoG := ltN oG; clear hb5)
  | (with_reducible refine wpList_load1 (by kernel_rfl) _ _ rfl P _ rfl _ _ hP4 _ k1 ga2 ?_)
  | (with_reducible refine wpList_loadb (by kernel_rfl) 43 _ rfl P rfl CF hP4 _ Tryz.underlying43 (by kernel_rfl) (size40C zG) ?_)
  | (go_at_call 101; (with_reducible refine (need_yes _ _).mono ?_); rintro e w5 ⟨rfl, rfl⟩)
  | (go_at_call 101; (with_reducible refine (need_no _ _).mono ?_); rintro e w5 ⟨rfl, rfl⟩))
 exact ⟨rfl, Tel.threw rfl (by decide) hk⟩
theorem dir_c {w : World} {F : Array Value} {L : Lb} {X : List Ob} {i : Int} (h : Fw w F L X) (hf : (fnd X i).isSome = true) (hd : (fO X i).kind = 2) (hs : seeB L (fO X i) = false) {wr : Bool} (hE : dirE X L i wr = 1) : Calls Tryz.prog 121 #[.agg F, .int .u64 i, .bool wr] w (Tel (dirE X L i wr) (fO X i) w) := by
 rw [hE]
 clear hE
 have hz : F.size = 55 := by obtain ⟨⟨_, _, _, _, _, _, _, _, _, hF, _⟩, _, _⟩ := h; exact hF.size
 have hff := fun (W : World) (hk : Below w.heap.size w W) => ffind_yes (h.next hk) hf
 have hsx : Small (fO X i) := h.sml _ (fO_mem hf).1
 have hse := fun (W : World) (C : Array Value) (hk : Below w.heap.size w W) (hC : ObD (LtN W) W C (fO X i)) => sees_v (h.next hk) hC hsx
 rw [hs] at hse
 have HD : Hid ((fO X i).kind = 2) := hd
 have ga2 := Tryz.isAgg3
 clear hf hd hs
 go_enter Tryz.func121, Tryz.ntmps121
 go_wp2_with (first
  | go_skip
  | (with_reducible refine wpList_box rfl 123 _ rfl F rfl ?_; intro B W1 hN1 hB hk)
  | ((with_reducible refine wpList_alloc rfl _ rfl zC zero40 ?_); have hx := oF; intro P W4 hN4 hP hk4; clear hx)
  | ((with_reducible refine wpList_alloc rfl _ rfl zC zero40 ?_); intro R W2 hN2 hR hk2; replace hB := hB.next hk2; replace hk := hk.trans (hk2.mono hk.size); clear hk2)
  | (with_reducible refine wpList_loadb (by kernel_rfl) 123 _ rfl B rfl F hB _ Tryz.underlying123 (by kernel_rfl) (sizeF hz) ?_)
  | (go_at_call 123; (with_reducible refine (hff _ hk).mono ?_); rintro e w3 hT; obtain ⟨CF, rfl, oF, hb3⟩ := hT.got rfl; clear hT)
  | ((with_reducible refine wpList_store_blk rfl _ _ _ rfl P rfl CF rfl zC hP (size40C oF.size) (zC_size.trans oF.size.symm) oF.one ?_); intro V4 hP4 q4; obtain ⟨hb5, oG⟩ := laid_v hb3 oF hN4 hk4 q4; have zG := oG.size; clear oF hb3 hk4 q4 hN4 hP; replace hB := hB.next hb5; replace hR := hR.next hb5; replace hk := hk.trans (hb5.mono hk.size); have k1 := oG.kind; rw [HD.out] at k1; have hsz := hb5.size; have hoG := ltN oG; clear hb5)
  | (with_reducible refine wpList_load1 (by kernel_rfl) _ _ rfl P _ rfl _ _ hP4 _ k1 ga2 ?_)
  | (with_reducible refine wpList_loadb (by kernel_rfl) 43 _ rfl P rfl CF hP4 _ Tryz.underlying43 (by kernel_rfl) (size40C zG) ?_)
  | (go_at_call 80; (with_reducible refine (hse _ _ hk hoG).mono ?_); rintro e w6 ⟨rfl, hb6⟩; replace hB := hB.next hb6; replace hR := hR.next hb6; replace hP4 := hP4.next hb6; replace hk := hk.trans (hb6.mono hk.size); replace oG := newN oG hb6; replace hoG := ltN oG; have hsz := Nat.le_trans hsz hb6.size; clear hb6)
  | (go_at_call 101; (with_reducible refine (need_yes _ _).mono ?_); rintro e w5 ⟨rfl, rfl⟩)
  | (go_at_call 101; (with_reducible refine (need_no _ _).mono ?_); rintro e w5 ⟨rfl, rfl⟩))
 exact ⟨rfl, Tel.threw rfl (by decide) hk⟩
theorem dir_d {w : World} {F : Array Value} {L : Lb} {X : List Ob} {i : Int} (h : Fw w F L X) (hf : (fnd X i).isSome = true) (hd : (fO X i).kind = 2) (hs : seeB L (fO X i) = true) (hE : dirE X L i false = 0) : Calls Tryz.prog 121 #[.agg F, .int .u64 i, .bool false] w (Tel (dirE X L i false) (fO X i) w) := by
 rw [hE]
 clear hE
 have hz : F.size = 55 := by obtain ⟨⟨_, _, _, _, _, _, _, _, _, hF, _⟩, _, _⟩ := h; exact hF.size
 have hff := fun (W : World) (hk : Below w.heap.size w W) => ffind_yes (h.next hk) hf
 have hsx : Small (fO X i) := h.sml _ (fO_mem hf).1
 have hse := fun (W : World) (C : Array Value) (hk : Below w.heap.size w W) (hC : ObD (LtN W) W C (fO X i)) => sees_v (h.next hk) hC hsx
 rw [hs] at hse
 have HD : Hid ((fO X i).kind = 2) := hd
 have ga2 := Tryz.isAgg3
 clear hf hd hs
 go_enter Tryz.func121, Tryz.ntmps121
 go_wp2_with (first
  | go_skip
  | (with_reducible refine wpList_box rfl 123 _ rfl F rfl ?_; intro B W1 hN1 hB hk)
  | ((with_reducible refine wpList_alloc rfl _ rfl zC zero40 ?_); have hx := oF; intro P W4 hN4 hP hk4; clear hx)
  | ((with_reducible refine wpList_alloc rfl _ rfl zC zero40 ?_); intro R W2 hN2 hR hk2; replace hB := hB.next hk2; replace hk := hk.trans (hk2.mono hk.size); clear hk2)
  | (with_reducible refine wpList_loadb (by kernel_rfl) 123 _ rfl B rfl F hB _ Tryz.underlying123 (by kernel_rfl) (sizeF hz) ?_)
  | (go_at_call 123; (with_reducible refine (hff _ hk).mono ?_); rintro e w3 hT; obtain ⟨CF, rfl, oF, hb3⟩ := hT.got rfl; clear hT)
  | ((with_reducible refine wpList_store_blk rfl _ _ _ rfl P rfl CF rfl zC hP (size40C oF.size) (zC_size.trans oF.size.symm) oF.one ?_); intro V4 hP4 q4; obtain ⟨hb5, oG⟩ := laid_v hb3 oF hN4 hk4 q4; have zG := oG.size; clear oF hb3 hk4 q4 hN4 hP; replace hB := hB.next hb5; replace hR := hR.next hb5; replace hk := hk.trans (hb5.mono hk.size); have k1 := oG.kind; rw [HD.out] at k1; have hsz := hb5.size; have hoG := ltN oG; clear hb5)
  | (with_reducible refine wpList_load1 (by kernel_rfl) _ _ rfl P _ rfl _ _ hP4 _ k1 ga2 ?_)
  | (with_reducible refine wpList_loadb (by kernel_rfl) 43 _ rfl P rfl CF hP4 _ Tryz.underlying43 (by kernel_rfl) (size40C zG) ?_)
  | (go_at_call 80; (with_reducible refine (hse _ _ hk hoG).mono ?_); rintro e w6 ⟨rfl, hb6⟩; replace hB := hB.next hb6; replace hR := hR.next hb6; replace hP4 := hP4.next hb6; replace hk := hk.trans (hb6.mono hk.size); replace oG := newN oG hb6; replace hoG := ltN oG; have hsz := Nat.le_trans hsz hb6.size; clear hb6)
  | (go_at_call 101; (with_reducible refine (need_yes _ _).mono ?_); rintro e w5 ⟨rfl, rfl⟩)
  | (go_at_call 101; (with_reducible refine (need_no _ _).mono ?_); rintro e w5 ⟨rfl, rfl⟩)
  | ((with_reducible refine wpList_store_blk rfl _ _ _ rfl R rfl CF rfl zC hR (size40C zG) (zC_size.trans zG.symm) oG.one ?_); intro V5 hR5 q5))
 obtain ⟨o9, b9⟩ := ret_v hk (by have := hN1.out; have := hN2.out; omega) oG ⟨by have := hN1.out; have := hN2.out; omega, by have := hN2.out; omega⟩ q5
 exact bodyPost_ret (v := .agg CF) (res40 Tryz.results121 rfl hR5 zG) rfl (Tel.told rfl o9 b9)
theorem dir_e {w : World} {F : Array Value} {L : Lb} {X : List Ob} {i : Int} (h : Fw w F L X) (hf : (fnd X i).isSome = true) (hd : (fO X i).kind = 2) (hs : seeB L (fO X i) = true) (hc : chgB L (fO X i) = true) (hE : dirE X L i true = 0) : Calls Tryz.prog 121 #[.agg F, .int .u64 i, .bool true] w (Tel (dirE X L i true) (fO X i) w) := by
 rw [hE]
 clear hE
 have hz : F.size = 55 := by obtain ⟨⟨_, _, _, _, _, _, _, _, _, hF, _⟩, _, _⟩ := h; exact hF.size
 have hff := fun (W : World) (hk : Below w.heap.size w W) => ffind_yes (h.next hk) hf
 have hsx : Small (fO X i) := h.sml _ (fO_mem hf).1
 have hse := fun (W : World) (C : Array Value) (hk : Below w.heap.size w W) (hC : ObD (LtN W) W C (fO X i)) => sees_v (h.next hk) hC hsx
 rw [hs] at hse
 have hch := fun (W : World) (C : Array Value) (hk : Below w.heap.size w W) (hC : ObD (LtN W) W C (fO X i)) => changes_v (h.next hk) hC hsx
 rw [hc] at hch
 have HD : Hid ((fO X i).kind = 2) := hd
 have ga2 := Tryz.isAgg3
 clear hf hd hs hc
 go_enter Tryz.func121, Tryz.ntmps121
 go_wp2_with (first
  | go_skip
  | (with_reducible refine wpList_box rfl 123 _ rfl F rfl ?_; intro B W1 hN1 hB hk)
  | ((with_reducible refine wpList_alloc rfl _ rfl zC zero40 ?_); have hx := oF; intro P W4 hN4 hP hk4; clear hx)
  | ((with_reducible refine wpList_alloc rfl _ rfl zC zero40 ?_); intro R W2 hN2 hR hk2; replace hB := hB.next hk2; replace hk := hk.trans (hk2.mono hk.size); clear hk2)
  | (with_reducible refine wpList_loadb (by kernel_rfl) 123 _ rfl B rfl F hB _ Tryz.underlying123 (by kernel_rfl) (sizeF hz) ?_)
  | (go_at_call 123; (with_reducible refine (hff _ hk).mono ?_); rintro e w3 hT; obtain ⟨CF, rfl, oF, hb3⟩ := hT.got rfl; clear hT)
  | ((with_reducible refine wpList_store_blk rfl _ _ _ rfl P rfl CF rfl zC hP (size40C oF.size) (zC_size.trans oF.size.symm) oF.one ?_); intro V4 hP4 q4; obtain ⟨hb5, oG⟩ := laid_v hb3 oF hN4 hk4 q4; have zG := oG.size; clear oF hb3 hk4 q4 hN4 hP; replace hB := hB.next hb5; replace hR := hR.next hb5; replace hk := hk.trans (hb5.mono hk.size); have k1 := oG.kind; rw [HD.out] at k1; have hsz := hb5.size; have hoG := ltN oG; clear hb5)
  | (with_reducible refine wpList_load1 (by kernel_rfl) _ _ rfl P _ rfl _ _ hP4 _ k1 ga2 ?_)
  | (with_reducible refine wpList_loadb (by kernel_rfl) 43 _ rfl P rfl CF hP4 _ Tryz.underlying43 (by kernel_rfl) (size40C zG) ?_)
  | (go_at_call 80; (with_reducible refine (hse _ _ hk hoG).mono ?_); rintro e w6 ⟨rfl, hb6⟩; replace hB := hB.next hb6; replace hR := hR.next hb6; replace hP4 := hP4.next hb6; replace hk := hk.trans (hb6.mono hk.size); replace oG := newN oG hb6; replace hoG := ltN oG; have hsz := Nat.le_trans hsz hb6.size; clear hb6)
  | (go_at_call 129; (with_reducible refine (hch _ _ hk hoG).mono ?_); rintro e w7 ⟨rfl, hb6⟩; replace hB := hB.next hb6; replace hR := hR.next hb6; replace hP4 := hP4.next hb6; replace hk := hk.trans (hb6.mono hk.size); replace oG := newN oG hb6; replace hoG := ltN oG; have hsz := Nat.le_trans hsz hb6.size; clear hb6)
  | (go_at_call 101; (with_reducible refine (need_yes _ _).mono ?_); rintro e w5 ⟨rfl, rfl⟩)
  | (go_at_call 101; (with_reducible refine (need_no _ _).mono ?_); rintro e w5 ⟨rfl, rfl⟩)
  | ((with_reducible refine wpList_store_blk rfl _ _ _ rfl R rfl CF rfl zC hR (size40C zG) (zC_size.trans zG.symm) oG.one ?_); intro V5 hR5 q5))
 obtain ⟨o9, b9⟩ := ret_v hk (by have := hN1.out; have := hN2.out; omega) oG ⟨by have := hN1.out; have := hN2.out; omega, by have := hN2.out; omega⟩ q5
 exact bodyPost_ret (v := .agg CF) (res40 Tryz.results121 rfl hR5 zG) rfl (Tel.told rfl o9 b9)
theorem dir_f {w : World} {F : Array Value} {L : Lb} {X : List Ob} {i : Int} (h : Fw w F L X) (hf : (fnd X i).isSome = true) (hd : (fO X i).kind = 2) (hs : seeB L (fO X i) = true) (hc : chgB L (fO X i) = false) (hE : dirE X L i true = 2) : Calls Tryz.prog 121 #[.agg F, .int .u64 i, .bool true] w (Tel (dirE X L i true) (fO X i) w) := by
 rw [hE]
 clear hE
 have hz : F.size = 55 := by obtain ⟨⟨_, _, _, _, _, _, _, _, _, hF, _⟩, _, _⟩ := h; exact hF.size
 have hff := fun (W : World) (hk : Below w.heap.size w W) => ffind_yes (h.next hk) hf
 have hsx : Small (fO X i) := h.sml _ (fO_mem hf).1
 have hse := fun (W : World) (C : Array Value) (hk : Below w.heap.size w W) (hC : ObD (LtN W) W C (fO X i)) => sees_v (h.next hk) hC hsx
 rw [hs] at hse
 have hch := fun (W : World) (C : Array Value) (hk : Below w.heap.size w W) (hC : ObD (LtN W) W C (fO X i)) => changes_v (h.next hk) hC hsx
 rw [hc] at hch
 have HD : Hid ((fO X i).kind = 2) := hd
 have ga2 := Tryz.isAgg3
 clear hf hd hs hc
 go_enter Tryz.func121, Tryz.ntmps121
 go_wp2_with (first
  | go_skip
  | (with_reducible refine wpList_box rfl 123 _ rfl F rfl ?_; intro B W1 hN1 hB hk)
  | ((with_reducible refine wpList_alloc rfl _ rfl zC zero40 ?_); have hx := oF; intro P W4 hN4 hP hk4; clear hx)
  | ((with_reducible refine wpList_alloc rfl _ rfl zC zero40 ?_); intro R W2 hN2 hR hk2; replace hB := hB.next hk2; replace hk := hk.trans (hk2.mono hk.size); clear hk2)
  | (with_reducible refine wpList_loadb (by kernel_rfl) 123 _ rfl B rfl F hB _ Tryz.underlying123 (by kernel_rfl) (sizeF hz) ?_)
  | (go_at_call 123; (with_reducible refine (hff _ hk).mono ?_); rintro e w3 hT; obtain ⟨CF, rfl, oF, hb3⟩ := hT.got rfl; clear hT)
  | ((with_reducible refine wpList_store_blk rfl _ _ _ rfl P rfl CF rfl zC hP (size40C oF.size) (zC_size.trans oF.size.symm) oF.one ?_); intro V4 hP4 q4; obtain ⟨hb5, oG⟩ := laid_v hb3 oF hN4 hk4 q4; have zG := oG.size; clear oF hb3 hk4 q4 hN4 hP; replace hB := hB.next hb5; replace hR := hR.next hb5; replace hk := hk.trans (hb5.mono hk.size); have k1 := oG.kind; rw [HD.out] at k1; have hsz := hb5.size; have hoG := ltN oG; clear hb5)
  | (with_reducible refine wpList_load1 (by kernel_rfl) _ _ rfl P _ rfl _ _ hP4 _ k1 ga2 ?_)
  | (with_reducible refine wpList_loadb (by kernel_rfl) 43 _ rfl P rfl CF hP4 _ Tryz.underlying43 (by kernel_rfl) (size40C zG) ?_)
  | (go_at_call 80; (with_reducible refine (hse _ _ hk hoG).mono ?_); rintro e w6 ⟨rfl, hb6⟩; replace hB := hB.next hb6; replace hR := hR.next hb6; replace hP4 := hP4.next hb6; replace hk := hk.trans (hb6.mono hk.size); replace oG := newN oG hb6; replace hoG := ltN oG; have hsz := Nat.le_trans hsz hb6.size; clear hb6)
  | (go_at_call 129; (with_reducible refine (hch _ _ hk hoG).mono ?_); rintro e w7 ⟨rfl, hb6⟩; replace hB := hB.next hb6; replace hR := hR.next hb6; replace hP4 := hP4.next hb6; replace hk := hk.trans (hb6.mono hk.size); replace oG := newN oG hb6; replace hoG := ltN oG; have hsz := Nat.le_trans hsz hb6.size; clear hb6)
  | (go_at_call 101; (with_reducible refine (need_yes _ _).mono ?_); rintro e w5 ⟨rfl, rfl⟩)
  | (go_at_call 101; (with_reducible refine (need_no _ _).mono ?_); rintro e w5 ⟨rfl, rfl⟩))
 exact ⟨rfl, Tel.threw rfl (by decide) hk⟩
theorem dir_v {w : World} {F : Array Value} {L : Lb} {X : List Ob} {i : Int} {wr : Bool} (h : Fw w F L X) : Calls Tryz.prog 121 #[.agg F, .int .u64 i, .bool wr] w (Tel (dirE X L i wr) (fO X i) w) := by
 cases hf : (fnd X i).isSome with
 | false => exact dir_a h hf (dir_hid (by rw [hf]; exact fun q => absurd q.1 (by decide)))
 | true =>
  by_cases hd : (fO X i).kind = 2
  ·cases hs : seeB L (fO X i) with
   | false => exact dir_c h hf hd hs (dir_hid (by rw [hs]; exact fun q => absurd q.2.2 (by decide)))
   | true =>
    cases wr with
    | false => exact dir_d h hf hd hs (dir_ok ⟨hf, hd, hs⟩ (fun q => absurd q.1 (by decide)))
    | true =>
     cases hc : chgB L (fO X i) with
     | true => exact dir_e h hf hd hs hc (dir_ok ⟨hf, hd, hs⟩ (by rw [hc]; exact fun q => absurd q.2 (by decide)))
     | false => exact dir_f h hf hd hs hc (dir_two ⟨hf, hd, hs⟩ ⟨rfl, hc⟩)
  ·exact dir_b h hf hd (dir_hid fun q => hd q.2.1)
theorem look_a {w : World} {F : Array Value} {L : Lb} {X : List Ob} {G : Array Value} {c i : Int} (h : Fw w F L X) (g0 : G[0]? = some (.int .u64 c)) (g1 : G[1]? = some (.int .u64 i)) (hd : dirE X L c false ≠ 0) (hE : lokE X L c i = dirE X L c false) : Calls Tryz.prog 100 #[.agg F, .agg G] w (Tel (lokE X L c i) (fO X i) w) := by
 have hz : F.size = 55 := by obtain ⟨⟨_, _, _, _, _, _, _, _, _, hF, _⟩, _, _⟩ := h; exact hF.size
 have hdi := fun (W : World) (hk : Below w.heap.size w W) => dir_v (i := c) (wr := false) (h.next hk)
 have HE : Hid (lokE X L c i = dirE X L c false) := hE
 clear hE
 have ga1 := Tryz.isAgg22
 go_enter Tryz.func100, Tryz.ntmps100
 go_wp2_with (first
  | go_skip
  | (with_reducible refine wpList_box rfl 123 _ rfl F rfl ?_; intro B W1 hN1 hB hk)
  | (with_reducible refine wpList_box rfl 32 _ rfl G rfl ?_; intro Q W8 hN8 hQ hk8; replace hB := hB.next hk8; replace hk := hk.trans (hk8.mono hk.size); clear hk8)
  | ((with_reducible refine wpList_alloc rfl _ rfl zC zero40 ?_); have hx := oF; intro P W4 hN4 hP hk4; clear hx)
  | ((with_reducible refine wpList_alloc rfl _ rfl zC zero40 ?_); intro R W2 hN2 hR hk2; replace hB := hB.next hk2; replace hQ := hQ.next hk2; replace hk := hk.trans (hk2.mono hk.size); clear hk2)
  | (with_reducible refine wpList_loadb (by kernel_rfl) 123 _ rfl B rfl F hB _ Tryz.underlying123 (by kernel_rfl) (sizeF hz) ?_)
  | (with_reducible refine wpList_load1 (by kernel_rfl) _ _ rfl Q _ rfl _ _ hQ _ g0 ga1 ?_)
  | (with_reducible refine wpList_load1 (by kernel_rfl) _ _ rfl Q _ rfl _ _ hQ _ g1 ga1 ?_)
  | (go_at_call 121; (with_reducible refine (hdi _ hk).mono ?_); rintro e w3 hT; obtain ⟨rfl, hb3⟩ := hT.lost hd))
 exact ⟨rfl, Tel.threw HE.out hd (hk.trans (hb3.mono hk.size))⟩
theorem look_b {w : World} {F : Array Value} {L : Lb} {X : List Ob} {G : Array Value} {c i : Int} (h : Fw w F L X) (g0 : G[0]? = some (.int .u64 c)) (g1 : G[1]? = some (.int .u64 i)) (hd : dirE X L c false = 0) (hi : ¬ i ∈ (fO X c).links) (hE : lokE X L c i = 1) : Calls Tryz.prog 100 #[.agg F, .agg G] w (Tel (lokE X L c i) (fO X i) w) := by
 have hz : F.size = 55 := by obtain ⟨⟨_, _, _, _, _, _, _, _, _, hF, _⟩, _, _⟩ := h; exact hF.size
 have hdi := fun (W : World) (hk : Below w.heap.size w W) => dir_v (i := c) (wr := false) (h.next hk)
 have HE : Hid (lokE X L c i = 1) := hE
 clear hE
 rw [hd] at hdi
 have ga4 := Tryz.isAgg28
 have hco := fun (W : World) (a : Option Addr) (m k : Nat) (hC : CtD (LtN W) W a m k (fO X c).links) => (contW_any (i := i) hC).no hi
 clear hi hd
 have ga1 := Tryz.isAgg22
 go_enter Tryz.func100, Tryz.ntmps100
 go_wp2_with (first
  | go_skip
  | (with_reducible refine wpList_box rfl 123 _ rfl F rfl ?_; intro B W1 hN1 hB hk)
  | (with_reducible refine wpList_box rfl 32 _ rfl G rfl ?_; intro Q W8 hN8 hQ hk8; replace hB := hB.next hk8; replace hk := hk.trans (hk8.mono hk.size); clear hk8)
  | ((with_reducible refine wpList_alloc rfl _ rfl zC zero40 ?_); have hx := oF; intro P W4 hN4 hP hk4; clear hx)
  | ((with_reducible refine wpList_alloc rfl _ rfl zC zero40 ?_); intro R W2 hN2 hR hk2; replace hB := hB.next hk2; replace hQ := hQ.next hk2; replace hk := hk.trans (hk2.mono hk.size); clear hk2)
  | (with_reducible refine wpList_loadb (by kernel_rfl) 123 _ rfl B rfl F hB _ Tryz.underlying123 (by kernel_rfl) (sizeF hz) ?_)
  | (with_reducible refine wpList_load1 (by kernel_rfl) _ _ rfl Q _ rfl _ _ hQ _ g0 ga1 ?_)
  | (with_reducible refine wpList_load1 (by kernel_rfl) _ _ rfl Q _ rfl _ _ hQ _ g1 ga1 ?_)
  | (go_at_call 121; (with_reducible refine (hdi _ hk).mono ?_); rintro e w3 hT; obtain ⟨CF, rfl, oF, hb3⟩ := hT.got rfl; clear hT)
  | ((with_reducible refine wpList_store_blk rfl _ _ _ rfl P rfl CF rfl zC hP (size40C oF.size) (zC_size.trans oF.size.symm) oF.one ?_); intro V4 hP4 q4; obtain ⟨hb5, oG⟩ := laid_v hb3 oF hN4 hk4 q4; have zG := oG.size; clear oF hb3 hk4 q4 hN4 hP; replace hB := hB.next hb5; replace hR := hR.next hb5; replace hQ := hQ.next hb5; replace hk := hk.trans (hb5.mono hk.size); obtain ⟨a5, n5, c5, e5, l5⟩ := (ltN oG).links; have hsz := hb5.size; clear hb5)
  | (with_reducible refine wpList_load1 (by kernel_rfl) _ _ rfl P _ rfl _ _ hP4 _ e5 ga4 ?_)
  | (go_at_call 122; (with_reducible refine (hco _ _ _ _ l5).mono ?_); rintro e w6 ⟨rfl, hb6⟩; replace hB := hB.next hb6; replace hR := hR.next hb6; replace hQ := hQ.next hb6; replace hk := hk.trans (hb6.mono hk.size); have hsz := Nat.le_trans hsz hb6.size; clear hb6)
  | (go_at_call 101; (with_reducible refine (need_yes _ _).mono ?_); rintro e w5 ⟨rfl, rfl⟩)
  | (go_at_call 101; (with_reducible refine (need_no _ _).mono ?_); rintro e w5 ⟨rfl, rfl⟩))
 exact ⟨rfl, Tel.threw HE.out (by decide) hk⟩
theorem look_c {w : World} {F : Array Value} {L : Lb} {X : List Ob} {G : Array Value} {c i : Int} (h : Fw w F L X) (g0 : G[0]? = some (.int .u64 c)) (g1 : G[1]? = some (.int .u64 i)) (hd : dirE X L c false = 0) (hi : i ∈ (fO X c).links) (hf : (fnd X i).isSome = false) (hE : lokE X L c i = 1) : Calls Tryz.prog 100 #[.agg F, .agg G] w (Tel (lokE X L c i) (fO X i) w) := by
 have hz : F.size = 55 := by obtain ⟨⟨_, _, _, _, _, _, _, _, _, hF, _⟩, _, _⟩ := h; exact hF.size
 have hdi := fun (W : World) (hk : Below w.heap.size w W) => dir_v (i := c) (wr := false) (h.next hk)
 have HE : Hid (lokE X L c i = 1) := hE
 clear hE
 have hff := fun (W : World) (hk : Below w.heap.size w W) => ffind_no (h.next hk) hf
 clear hf
 rw [hd] at hdi
 have ga4 := Tryz.isAgg28
 have hco := fun (W : World) (a : Option Addr) (m k : Nat) (hC : CtD (LtN W) W a m k (fO X c).links) => (contW_any (i := i) hC).yes hi
 clear hi hd
 have ga1 := Tryz.isAgg22
 go_enter Tryz.func100, Tryz.ntmps100
 go_wp2_with (first
  | go_skip
  | (with_reducible refine wpList_box rfl 123 _ rfl F rfl ?_; intro B W1 hN1 hB hk)
  | (with_reducible refine wpList_box rfl 32 _ rfl G rfl ?_; intro Q W8 hN8 hQ hk8; replace hB := hB.next hk8; replace hk := hk.trans (hk8.mono hk.size); clear hk8)
  | ((with_reducible refine wpList_alloc rfl _ rfl zC zero40 ?_); have hx := oF; intro P W4 hN4 hP hk4; clear hx)
  | ((with_reducible refine wpList_alloc rfl _ rfl zC zero40 ?_); intro R W2 hN2 hR hk2; replace hB := hB.next hk2; replace hQ := hQ.next hk2; replace hk := hk.trans (hk2.mono hk.size); clear hk2)
  | (with_reducible refine wpList_loadb (by kernel_rfl) 123 _ rfl B rfl F hB _ Tryz.underlying123 (by kernel_rfl) (sizeF hz) ?_)
  | (with_reducible refine wpList_load1 (by kernel_rfl) _ _ rfl Q _ rfl _ _ hQ _ g0 ga1 ?_)
  | (with_reducible refine wpList_load1 (by kernel_rfl) _ _ rfl Q _ rfl _ _ hQ _ g1 ga1 ?_)
  | (go_at_call 121; (with_reducible refine (hdi _ hk).mono ?_); rintro e w3 hT; obtain ⟨CF, rfl, oF, hb3⟩ := hT.got rfl; clear hT)
  | ((with_reducible refine wpList_store_blk rfl _ _ _ rfl P rfl CF rfl zC hP (size40C oF.size) (zC_size.trans oF.size.symm) oF.one ?_); intro V4 hP4 q4; obtain ⟨hb5, oG⟩ := laid_v hb3 oF hN4 hk4 q4; have zG := oG.size; clear oF hb3 hk4 q4 hN4 hP; replace hB := hB.next hb5; replace hR := hR.next hb5; replace hQ := hQ.next hb5; replace hk := hk.trans (hb5.mono hk.size); obtain ⟨a5, n5, c5, e5, l5⟩ := (ltN oG).links; have hsz := hb5.size; clear hb5)
  | (with_reducible refine wpList_load1 (by kernel_rfl) _ _ rfl P _ rfl _ _ hP4 _ e5 ga4 ?_)
  | (go_at_call 122; (with_reducible refine (hco _ _ _ _ l5).mono ?_); rintro e w6 ⟨rfl, hb6⟩; replace hB := hB.next hb6; replace hR := hR.next hb6; replace hQ := hQ.next hb6; replace hk := hk.trans (hb6.mono hk.size); have hsz := Nat.le_trans hsz hb6.size; clear hb6)
  | (go_at_call 101; (with_reducible refine (need_yes _ _).mono ?_); rintro e w5 ⟨rfl, rfl⟩)
  | (go_at_call 101; (with_reducible refine (need_no _ _).mono ?_); rintro e w5 ⟨rfl, rfl⟩)
  | (go_at_call 123; (with_reducible refine (hff _ hk).mono ?_); rintro e w7 hT; obtain ⟨rfl, hb7⟩ := hT.lost (by decide)))
 exact ⟨rfl, Tel.threw HE.out (by decide) (hk.trans (hb7.mono hk.size))⟩
theorem look_d {w : World} {F : Array Value} {L : Lb} {X : List Ob} {G : Array Value} {c i : Int} (h : Fw w F L X) (g0 : G[0]? = some (.int .u64 c)) (g1 : G[1]? = some (.int .u64 i)) (hd : dirE X L c false = 0) (hi : i ∈ (fO X c).links) (hf : (fnd X i).isSome = true) (hE : lokE X L c i = 0) : Calls Tryz.prog 100 #[.agg F, .agg G] w (Tel (lokE X L c i) (fO X i) w) := by
 have hz : F.size = 55 := by obtain ⟨⟨_, _, _, _, _, _, _, _, _, hF, _⟩, _, _⟩ := h; exact hF.size
 have hdi := fun (W : World) (hk : Below w.heap.size w W) => dir_v (i := c) (wr := false) (h.next hk)
 have HE : Hid (lokE X L c i = 0) := hE
 clear hE
 have hff := fun (W : World) (hk : Below w.heap.size w W) => ffind_yes (h.next hk) hf
 clear hf
 rw [hd] at hdi
 have ga4 := Tryz.isAgg28
 have hco := fun (W : World) (a : Option Addr) (m k : Nat) (hC : CtD (LtN W) W a m k (fO X c).links) => (contW_any (i := i) hC).yes hi
 clear hi hd
 have ga1 := Tryz.isAgg22
 go_enter Tryz.func100, Tryz.ntmps100
 go_wp2_with (first
  | go_skip
  | (with_reducible refine wpList_box rfl 123 _ rfl F rfl ?_; intro B W1 hN1 hB hk)
  | (with_reducible refine wpList_box rfl 32 _ rfl G rfl ?_; intro Q W8 hN8 hQ hk8; replace hB := hB.next hk8; replace hk := hk.trans (hk8.mono hk.size); clear hk8)
  | ((with_reducible refine wpList_alloc rfl _ rfl zC zero40 ?_); have hx := oF; intro P W4 hN4 hP hk4; clear hx)
  | ((with_reducible refine wpList_alloc rfl _ rfl zC zero40 ?_); intro R W2 hN2 hR hk2; replace hB := hB.next hk2; replace hQ := hQ.next hk2; replace hk := hk.trans (hk2.mono hk.size); clear hk2)
  | (with_reducible refine wpList_loadb (by kernel_rfl) 123 _ rfl B rfl F hB _ Tryz.underlying123 (by kernel_rfl) (sizeF hz) ?_)
  | (with_reducible refine wpList_load1 (by kernel_rfl) _ _ rfl Q _ rfl _ _ hQ _ g0 ga1 ?_)
  | (with_reducible refine wpList_load1 (by kernel_rfl) _ _ rfl Q _ rfl _ _ hQ _ g1 ga1 ?_)
  | (go_at_call 121; (with_reducible refine (hdi _ hk).mono ?_); rintro e w3 hT; obtain ⟨CF, rfl, oF, hb3⟩ := hT.got rfl; clear hT)
  | ((with_reducible refine wpList_store_blk rfl _ _ _ rfl P rfl CF rfl zC hP (size40C oF.size) (zC_size.trans oF.size.symm) oF.one ?_); intro V4 hP4 q4; obtain ⟨hb5, oG⟩ := laid_v hb3 oF hN4 hk4 q4; have zG := oG.size; clear oF hb3 hk4 q4 hN4 hP; replace hB := hB.next hb5; replace hR := hR.next hb5; replace hQ := hQ.next hb5; replace hk := hk.trans (hb5.mono hk.size); obtain ⟨a5, n5, c5, e5, l5⟩ := (ltN oG).links; have hsz := hb5.size; clear hb5)
  | (with_reducible refine wpList_load1 (by kernel_rfl) _ _ rfl P _ rfl _ _ hP4 _ e5 ga4 ?_)
  | (go_at_call 122; (with_reducible refine (hco _ _ _ _ l5).mono ?_); rintro e w6 ⟨rfl, hb6⟩; replace hB := hB.next hb6; replace hR := hR.next hb6; replace hQ := hQ.next hb6; replace hk := hk.trans (hb6.mono hk.size); have hsz := Nat.le_trans hsz hb6.size; clear hb6)
  | (go_at_call 101; (with_reducible refine (need_yes _ _).mono ?_); rintro e w5 ⟨rfl, rfl⟩)
  | (go_at_call 101; (with_reducible refine (need_no _ _).mono ?_); rintro e w5 ⟨rfl, rfl⟩)
  | (go_at_call 123; (with_reducible refine (hff _ hk).mono ?_); rintro e w7 hT; obtain ⟨CG, rfl, oH, hb7⟩ := hT.got rfl; clear hT; have zH := oH.size; replace hR := hR.next hb7; have hk9 := hk.trans (hb7.mono hk.size))
  | ((with_reducible refine wpList_store_blk rfl _ _ _ rfl R rfl CG rfl zC hR (size40C zH) (zC_size.trans zH.symm) oH.one ?_); intro V5 hR5 q5))
 obtain ⟨o9, b9⟩ := ret_v hk9 hk.size oH ⟨by have := hN1.out; have := hN8.out; have := hN2.out; omega, by have := hN2.out; omega⟩ q5
 exact bodyPost_ret (v := .agg CG) (res40 Tryz.results100 rfl hR5 zH) rfl (Tel.told HE.out o9 b9)
theorem look_v {w : World} {F : Array Value} {L : Lb} {X : List Ob} {G : Array Value} {c i : Int} (h : Fw w F L X) (g0 : G[0]? = some (.int .u64 c)) (g1 : G[1]? = some (.int .u64 i)) : Calls Tryz.prog 100 #[.agg F, .agg G] w (Tel (lokE X L c i) (fO X i) w) := by
 by_cases hd : dirE X L c false = 0
 ·by_cases hi : i ∈ (fO X c).links
  ·cases hf : (fnd X i).isSome with
   | false => exact look_c h g0 g1 hd hi hf (lok_no hd (by rw [hf]; exact fun q => absurd q.2 (by decide)))
   | true => exact look_d h g0 g1 hd hi hf (lok_ok hd ⟨hi, hf⟩)
  ·exact look_b h g0 g1 hd hi (lok_no hd fun q => hi q.1)
 ·exact look_a h g0 g1 hd (lok_err hd)
end Go.Proofs.YtiiaohejldchdaaGreat
