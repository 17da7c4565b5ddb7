/-
 PROVED HERE: what the document's has and Holders return when they are called (contracts over this translation); what slices. What is asked stands at each.
-/
import Derived.Test.YtklnneiblmakmaaGreatZ22
import Derived.Test.YtklnneiblmakmaaGreatZ24
namespace Go.Proofs.YtklnneiblmakmaaGreat
set_option maxRecDepth 100000
set_option maxHeartbeats 8000000
set_option linter.unusedVariables false
open Go.Proofs.Tryz
section
open Go.RowKit Go.Shelf
attribute [local go_sem] Oper.semAt_some
theorem rhas_any {w : World} {al : Option Addr} {nl cl : Nat} {L : List Int} {i : Int} (h : CtD (LtN w) w al nl cl L) : Asks 45 #[.slice al nl cl, .int .u64 i] (i ∈ L) w := by
 have hn : Hid (L.length = nl) := h.1
 have hnc := h.2.1
 have hcm := h.2.2.1.1
 have ga1 := isAgg22
 unfold Asks
 go_enter func45, ntmps45
 go_wp2
 go_loopw [5] (fun j wr => ∃ k : Nat, k ≤ nl ∧ j = .int .i64 k ∧ Hid (∀ q, q < k → L.getD q 0 ≠ i) ∧ wr = w) (fun j _ => nl - (intOf j).toNat)
 case atStart => exact ⟨0, Nat.zero_le _, rfl, fun q hq => absurd hq (by omega), rfl⟩
 case round =>
  obtain ⟨k, hk, rfl, hal, rfl⟩ := hrel
  by_cases hkn : k < nl
  ·obtain ⟨b, off, rfl, hb, hc⟩ := jpz h hkn
   have hkn' : (k : Int) < nl := by omega
   go_wp2_with (first
    | (with_reducible refine qOz (by kernel_rfl) _ _ rfl b _ rfl _ hc ga1 ?_)
    | ((with_reducible refine qgz (by kernel_rfl) .eql _ _ _ _ rfl _ _ rfl rfl (qvz _ _ _ _ _ _) ?_ ?_) <;> intro hq))
   ·go_ret
    exact qsz (by rw [← hq.out]; exact jiz (by rw [hn.out]; exact hkn)) (Below.refl _ _)
   ·go_roundw
    case rel => exact ⟨k + 1, by omega, by go_num, wqz hal.out hq.out, trivial⟩
    case measure => simp [intOf]; omega
  ·obtain rfl : k = nl := by omega
   go_wp2
   go_ret
   have hq : Hid (¬ i ∈ L) := by
    refine (?_ : ¬ i ∈ L)
    intro e
    obtain ⟨j, hj, q⟩ := List.getElem_of_mem e
    have := hal.out j (by rw [← hn.out]; exact hj)
    rw [List.getD_eq_getElem?_getD, List.getElem?_eq_getElem hj] at this
    exact this q
   exact qkz hq (Below.refl _ _) id
theorem j2z {X : List Ob} {i : Int} {k : Nat} (h : k < X.length) : holL (X.take (k + 1)) i = holL (X.take k) i ++ (if i ∈ (oat X k).links then [(oat X k).id] else []) := by
 unfold holL
 rw [List.take_add_one, List.getElem?_eq_getElem h, qGz h, Option.toList_some, List.filter_append, List.map_append]
 congr 1
 by_cases q : i ∈ X[k].links
 ·rw [if_pos q, List.filter_cons_of_pos (by simpa using q)]; rfl
 ·rw [if_neg q, List.filter_cons_of_neg (by simpa using q)]; rfl
theorem upz {v : Int} (w : World) : (Instr.buildSlice 28 1 #[(0, .int .u64 v)]).run prog w = .ok (.slice (some ⟨w.heap.size, 0, none⟩) 1 1) (w.alloc (.cells #[.int .u64 v] 22)) := by
 obtain ⟨i0, hi, hz0, hz1, hz2⟩ := info_parts vDz
 refine run_buildSlice w _ _ 1 _ _ i0 _ underlying28 hi hz0 (by rw [hz1]; omega) (by rw [hz1]; omega) ?_
 rw [hz1]
 have := Great.fill_whole (s := 1) (by omega) [.int .u64 v] ((Array.range (1 * 1)).map ((Value.int .u64 0).cells[· % (Value.int .u64 0).cells.size]!)) (by simp [Value.cells]) (by simp)
 simpa [Value.cells] using this
section
variable {ops : Array Oper} {rest : List Oper} {op : Oper} {a : Act} {Q : Exit → Act → World → Prop} {w : World}
theorem xvz (hgd : op.guard = none) (x : Operand) (ho : op.op = .buildSlice 28 1 #[(0, x)]) (v : Int) (hx : a.eval x = .int .u64 v)
  (h : ∀ B W, Hid (w.heap.size = B ∧ W.heap.size = B + 1) → Blk W B #[.int .u64 v] 22 → Below w.heap.size w W → wpList prog ops Q rest (a.put op.dst (.slice (some ⟨B, 0, none⟩) 1 1)) W) : wpList prog ops Q (op :: rest) a w :=
 wpList_plain hgd fun K hK => by
  have e : (#[(0, x)].map fun ((i : Nat), x) => (i, a.eval x)) = #[(0, Value.int .u64 v)] := by simp [hx]
  unfold Oper.wp execOp
  simp only [ho, e, Sem.run_bind, upz, Result.andThen_ok]
  exact hK _ _ (h _ _ ⟨rfl, by simp⟩ (Blk.new w #[.int .u64 v] 22) ((Below.refl _ w).alloc (Nat.le_refl _) _))
end
theorem xVz {W : World} {B : Nat} {v : Int} (h : Blk W B #[.int .u64 v] 22) : RowC 1 (LtN W) W (some ⟨B, 0, none⟩) 1 1 [.int .u64 v] :=
 ⟨rfl, Nat.le_refl _, ⟨by omega, fun e => by cases e⟩, fun _ => ⟨B, 0, rfl, h.lt, h.range0⟩⟩
theorem xOz {w : World} {t ke ro : Int} {ao : Option Addr} {n cap : Nat} {X : List Ob} {i : Int} (h : Obs w ao n cap X) (hn16 : n ≤ 4096) : Calls prog 56 #[.agg #[.int .i64 t, .int .u64 ke, .int .u64 ro, .slice ao n cap], .int .u64 i] w fun e w' => ∃ v, e = .returned v ∧ w'.ownsRow w.heap.size 22 1 v (holL X i).length (qIz (holL X i)) ∧ Below w.heap.size w w' := by
 have hn : Hid (X.length = n) := h.1
 have hnc := h.2.1
 have hcm := h.2.2.1.1
 have ga1 := isAgg22
 have ga3 := isAgg23
 have ga4 := isAgg28
 have c3 : (#[.int .i64 t, .int .u64 ke, .int .u64 ro, .slice ao n cap] : Array Value)[3]? = some (.slice ao n cap) := rfl
 obtain ⟨G, hG⟩ : ∃ G : Array Value, G = #[.int .i64 t, .int .u64 ke, .int .u64 ro, .slice ao n cap] := ⟨_, rfl⟩
 rw [← hG] at c3
 rw [← hG]
 clear hG
 go_enter func56, ntmps56
 go_wp2_with (first
  | (with_reducible refine qdz rfl _ _ rfl G rfl ?_; intro B W hB hb hk))
 have hBl : Hid (w.heap.size = B ∧ W.heap.size = B + 1) := hB
 clear hB
 go_loopw [5, 6] (fun v j wr => ∃ k : Nat, k ≤ n ∧ j = .int .i64 k ∧ wr.ownsRow W.heap.size 22 1 v (holL (X.take k) i).length (qIz (holL (X.take k) i)) ∧ Below W.heap.size W wr) (fun _ j _ => n - (intOf j).toNat)
 case atStart => exact ⟨0, Nat.zero_le _, rfl, World.ownsRow_nil _ _ _ _, Below.refl _ _⟩
 case round =>
  obtain ⟨k, hkn1, rfl, hown, hb0⟩ := hrel
  have hbw := btz hk hb0
  replace hb := hb.next hb0
  have hb0s := hb0.size
  by_cases hkn : k < n
  ·obtain ⟨b, off, C, rfl, hbb, hC, hr⟩ := wrz (qzz h hbw) hkn
   obtain ⟨al, nl, cl, c5, hLk⟩ := hC.links
   have hkn' : (k : Int) < n := by omega
   have hid : wr.cell? ⟨b, off + k * 51, none⟩ = some (.int .u64 (oat X k).id) := by simpa using hr 0 _ (by simpa using hC.id)
   have hlk : wr.cell? ⟨b, off + k * 51 + 5, none⟩ = some (.slice al nl cl) := hr 5 _ (by simpa using c5)
   have hidW : ∀ W, Below wr.heap.size wr W → W.cell? ⟨b, off + k * 51, none⟩ = some (.int .u64 (oat X k).id) := fun W q => (World.cell?_of_block (w := wr) (a := ⟨b, off + k * 51, none⟩) (q.block b hbb)).trans hid
   have hsu := j2z (i := i) (show k < X.length by rw [hn.out]; exact hkn)
   have hl : (holL (X.take k) i).length ≤ k := by unfold holL; rw [List.length_map]; exact Nat.le_trans (List.length_filter_le ..) (by simp; omega)
   go_wp2_with (first
    | (with_reducible refine qbz (by kernel_rfl) _ _ rfl B _ rfl _ _ hb _ c3 ga3 ?_)
    | (with_reducible refine qOz (by kernel_rfl) _ _ rfl b _ rfl _ hlk ga4 ?_)
    | (go_at_call 45; (with_reducible refine (rhas_any hLk).on ?_ ?_) <;> (intro w1 hq hb1; replace hb := hb.next hb1; have hid1 := hidW _ hb1))
    | (with_reducible refine qOz (by kernel_rfl) _ _ rfl b _ rfl _ hid1 ga1 ?_)
    | ((with_reducible refine xvz rfl _ rfl (oat X k).id rfl ?_); intro Bq W8 hBq hbq hk8; have hown8 := wuz (wuz hown hb1) hk8)
    | (at_builtin; refine qHz vDz underlying28 rfl (by omega) rfl _ _ rfl W.heap.size _ _ _ rfl hown8 _ _ _ _ [.int .u64 (oat X k).id] rfl (xVz hbq) (fun u hu => by rw [List.mem_singleton] at hu; rw [hu]; rfl) (by unfold maxLen; omega) (by omega) (Nat.le_trans hb0s (Nat.le_trans hb1.size hk8.size)) ?_; intro v' w2 hown' hgrow))
   ·go_roundw
    case rel =>
     rw [if_pos hq.out] at hsu
     have hb2 : Below W.heap.size W w2 := ((hb0.trans (hb1.mono hb0s)).trans (hk8.mono (Nat.le_trans hb0s hb1.size))).grown hgrow (Nat.le_trans hb0s (Nat.le_trans hb1.size hk8.size)) (jNz hown8)
     refine ⟨k + 1, by omega, by go_num, ?_, hb2⟩
     rw [hsu, List.length_append]
     have e : qIz (holL (X.take k) i ++ [(oat X k).id]) = qIz (holL (X.take k) i) ++ [.int .u64 (oat X k).id] := by simp [qIz]
     rw [e]
     exact hown'
    case measure => simp [intOf]; omega
   ·go_roundw
    case rel =>
     rw [if_neg hq.out, List.append_nil] at hsu
     exact ⟨k + 1, by omega, by go_num, by rw [hsu]; exact wuz hown hb1, hb0.trans (hb1.mono hb0s)⟩
    case measure => simp [intOf]; omega
  ·obtain rfl : k = n := by omega
   go_wp2_with (first
    | (with_reducible refine qbz (by kernel_rfl) _ _ rfl B _ rfl _ _ hb _ c3 ga3 ?_))
   go_ret
   have ht : X.take k = X := by rw [← hn.out]; exact List.take_length
   rw [ht] at hown
   refine ⟨_, rfl, ⟨hown.1, ?_⟩, hbw⟩
   rcases hown.2 with q | ⟨g, c, cur, q1, q2, q3⟩
   ·exact .inl q
   ·exact .inr ⟨g, c, cur, q1, Nat.le_trans hk.size q2, q3⟩
end
section
open Go.RowKit Go.Shelf
attribute [local go_sem] Oper.semAt_some
theorem gfz {w : World} {N : Nat} (hN : N < 4294967296) : Calls prog 134 #[.slice none 0 0, .int .i64 (N : Int)] w fun e w' => ∃ v, e = .returned v ∧ w'.ownsRow w.heap.size 22 1 v 0 [] ∧ Below w.heap.size w w' := by
 have h1 : ¬ ((N : Int) < 0) := by omega
 rcases Nat.eq_zero_or_pos N with h0 | h0
 ·subst h0
  go_enter func134, ntmps134
  go_wp2
  go_ret
  exact ⟨_, rfl, World.ownsRow_nil _ _ _ _, Below.refl _ _⟩
 ·obtain ⟨i0, hi, hz0, hz1, hz2⟩ := info_parts vDz
  have hG := grownCap_ge w (0 + N) 0 22
  have hG63 := grownCap_le_maxLen w (0 + N) 0 22 (by unfold maxLen; omega)
  have hrz : ∀ ty, (Builtin.append_ #[28, 3] ty #[.slice none 0 0, .int .i64 (N : Int)]).run prog w = .ok (.slice (some ⟨w.heap.size, 0, none⟩) (0 + N) (grownCap w (0 + N) 0 22)) (w.drew.alloc (.cells (([] : List Value).toArray ++ Builtin.zeroCells (Value.int .u64 0).cells N ++ Builtin.zeroCells (Value.int .u64 0).cells (grownCap w (0 + N) 0 22 - (0 + N))) 22)) := fun ty =>
   Lib.run_append_grow_zeros w 28 3 ty 22 i0 (.int .u64 0) .i64 .i64 underlying28 underlying3 hi hz0 none 0 0 [] (run_firstCells_none w.drew i0.size 0 0 0) N h0 (by omega) (by omega) (by omega) (by rw [hz2]; omega) (by rw [hz2]; exact growslice_fits (by omega) (by omega))
  obtain ⟨G, hGe⟩ : ∃ G, G = grownCap w (0 + N) 0 22 := ⟨_, rfl⟩
  rw [← hGe] at hrz hG hG63
  obtain ⟨cur, hcur⟩ : ∃ cur, cur = (([] : List Value).toArray ++ Builtin.zeroCells (Value.int .u64 0).cells N ++ Builtin.zeroCells (Value.int .u64 0).cells (G - (0 + N))) := ⟨_, rfl⟩
  have hcs : cur.size = G * 1 := by
   rw [hcur]
   have hzz : (Value.int .u64 0).cells.size = 1 := rfl
   simp [Builtin.zeroCells, hzz]
   omega
  rw [← hcur] at hrz
  have hbl : (w.drew.alloc (.cells cur 22)).heap[w.heap.size]? = some (.cells cur 22 (0, 0)) := heap_alloc_new w.drew _
  have hbe : Below w.heap.size w (w.drew.alloc (.cells cur 22)) := ((Below.refl w.heap.size w).drew).alloc (Nat.le_refl _) _
  have hG63' : G ≤ 9223372036854775807 := by unfold maxLen at hG63; omega
  clear hGe hcur
  generalize w.drew.alloc (.cells cur 22) = W1 at hrz hbl hbe
  go_enter func134, ntmps134
  go_wp2_with (at_builtin; refine Lib.wpList_append_run _ rfl _ _ _ _ rfl _ _ rfl rfl _ _ (hrz _) ?_)
  go_ret
  refine ⟨_, rfl, ⟨rfl, .inr ⟨w.heap.size, G, cur, rfl, Nat.le_refl _, hbl, Nat.zero_le _, hG63, hcs, ?_⟩⟩, hbe⟩
  simp
theorem vHz {w : World} {Bq m : Nat} {Cq : Array Value} {af : Nat → Option Addr} {nf cf : Nat → Nat} {sf : Nat → List Value} (hb : Blk w Bq Cq 28) (hc : ∀ i, i < m → Cq[i]? = some (.slice (af i) (nf i) (cf i))) (hr : ∀ i, i < m → RowC 1 (LtN w) w (af i) (nf i) (cf i) (sf i)) (h1 : ∀ i, i < m → ∀ u ∈ sf i, u.oneCell' = true) (hm : m < 4294967296) (hN : psum nf m < 4294967296) :
  Calls prog 106 #[.slice (some ⟨Bq, 0, none⟩) m m] w fun e w' => ∃ v, e = .returned v ∧ w'.ownsRow w.heap.size 22 1 v (psum nf m) (pcat sf m) ∧ Below w.heap.size w w' := by
 have ga3 := isAgg28
 go_enter func106, ntmps106
 go_wp2
 go_loopw [3, 11] (fun s i wr => ∃ k : Nat, k ≤ m ∧ i = .int .i64 k ∧ s = .int .i64 (psum nf k : Nat) ∧ Blk wr Bq Cq 28 ∧ Below w.heap.size w wr) (fun _ i _ => m - (intOf i).toNat)
 case atStart => exact ⟨0, Nat.zero_le _, rfl, rfl, hb, Below.refl _ _⟩
 case round =>
  obtain ⟨k, hk, rfl, rfl, hbk, hbw⟩ := hrel
  by_cases hkm : k < m
  ·have hkm' : (k : Int) < m := by omega
   have hcell := (hbk.cell k).trans (hc k hkm)
   have hps : psum nf k + nf k < 4294967296 := Nat.lt_of_le_of_lt (xqz nf (show k + 1 ≤ m from hkm)) hN
   have hns : ¬ ((psum nf k + nf k : Nat) : Int) < 0 := by omega
   go_wp2
   go_roundw
   case rel => exact ⟨k + 1, hkm, by go_num, by rw [show psum nf (k + 1) = psum nf k + nf k from rfl]; go_num, hbk, hbw⟩
   case measure => simp [intOf]; omega
  ·obtain rfl : k = m := by omega
   go_wp2_with (first
    | (go_at_call 134; (with_reducible refine (gfz hN).mono ?_); rintro e w1 ⟨v0, rfl, hown0, hb1⟩))
   have hbk1 := hbk.next hb1
   have hbw1 := btz hbw hb1
   have hown1 : w1.ownsRow w.heap.size 22 1 v0 0 [] := by
    refine ⟨hown0.1, ?_⟩
    rcases hown0.2 with q | ⟨g, c, cur, q1, q2, q3⟩
    ·exact .inl q
    ·exact .inr ⟨g, c, cur, q1, Nat.le_trans hbw.size q2, q3⟩
   clear hown0
   go_loopw [6, 27] (fun v i wr => ∃ j : Nat, j ≤ k ∧ i = .int .i64 j ∧ wr.ownsRow w.heap.size 22 1 v (psum nf j) (pcat sf j) ∧ Blk wr Bq Cq 28 ∧ Below w.heap.size w wr) (fun _ i _ => k - (intOf i).toNat)
   case atStart => exact ⟨0, Nat.zero_le _, rfl, hown1, hbk1, hbw1⟩
   case round =>
    obtain ⟨j, hj, rfl, hown, hbk2, hbw2⟩ := hrel
    by_cases hjm : j < k
    ·have hjm' : (j : Int) < k := by omega
     have hcell := (hbk2.cell j).trans (hc j hjm)
     have hps : psum nf j + nf j < 4294967296 := Nat.lt_of_le_of_lt (xqz nf (show j + 1 ≤ k from hjm)) hN
     have hrj := (hr j hjm).next hbw2
     have h1j := h1 j hjm
     go_wp2_with (at_builtin; refine qHz vDz underlying28 rfl (by omega) rfl _ _ rfl w.heap.size _ (psum nf j) (pcat sf j) rfl hown _ _ _ _ (sf j) rfl hrj h1j (by unfold maxLen; omega) (by omega) hbw2.size ?_; intro v' w2 hown' hgrow)
     go_roundw
     case rel =>
      have hbw3 : Below w.heap.size w w2 := hbw2.grown hgrow hbw2.size (jNz hown)
      have hbk3 : Blk w2 Bq Cq 28 := (hbw3.block Bq hb.lt).trans hb
      exact ⟨j + 1, hjm, by go_num, hown', hbk3, hbw3⟩
     case measure => simp [intOf]; omega
    ·obtain rfl : j = k := by omega
     go_wp2
     go_ret
     exact ⟨_, rfl, hown, hbw2⟩
end
section
open Go.RowKit Go.Shelf
attribute [local go_sem] Oper.semAt_some
def ahW (L : List Int) (i : Int) : Nat := (L.filter fun x => decide (x < i)).length
theorem gEz (L : List Int) (i : Int) : ahW L i ≤ L.length := List.length_filter_le ..
theorem ahW_of {i : Int} : ∀ {L : List Int} {k : Nat}, k ≤ L.length → (∀ j, j < k → L.getD j 0 < i) → (∀ j, k ≤ j → j < L.length → i ≤ L.getD j 0) → ahW L i = k
 | [], k, hk, _, _ => by simp at hk; subst hk; rfl
 | a :: r, 0, _, _, h2 => by
  unfold ahW
  have : (a :: r).filter (fun x => decide (x < i)) = [] := by
   rw [List.filter_eq_nil_iff]
   intro x hx
   obtain ⟨j, hj, e⟩ := List.getElem_of_mem hx
   have := h2 j (Nat.zero_le _) hj
   rw [List.getD_eq_getElem?_getD, List.getElem?_eq_getElem hj, Option.getD_some, e] at this
   simp; omega
  rw [this]; rfl
 | a :: r, k + 1, hk, h1, h2 => by
  have h0 := h1 0 (by omega)
  simp only [List.getD_cons_zero] at h0
  have ih := ahW_of (L := r) (k := k) (by simpa using hk) (fun j hj => by simpa using h1 (j + 1) (by omega)) (fun j q1 q2 => by simpa using h2 (j + 1) (by omega) (by simpa using q2))
  unfold ahW at ih ⊢
  rw [List.filter_cons_of_pos (by simpa using h0), List.length_cons, ih]
theorem vSz {w : World} {a : Int} : Calls prog 133 #[.int .u64 a] w fun e w' => e = .returned (.bool false) ∧ w' = w := by
 go_enter func133, ntmps133
 go_wp2
 go_ret
 exact ⟨rfl, rfl⟩
theorem less_any {w : World} {a b : Int} : Calls prog 132 #[.int .u64 a, .int .u64 b] w fun e w' => e = .returned (.bool (decide (a < b))) ∧ w' = w := by
 by_cases h : a < b
 ·rw [decide_eq_true h]
  go_enter func132, ntmps132
  go_wp2_with (go_at_call 125; refine w0z.mono ?_; rintro e w1 ⟨rfl, rfl⟩)
  go_ret
  exact ⟨by first | rfl | simp [h], rfl⟩
 ·rw [decide_eq_false h]
  go_enter func132, ntmps132
  go_wp2_with (go_at_call 125; refine w0z.mono ?_; rintro e w1 ⟨rfl, rfl⟩)
  go_ret
  exact ⟨by first | rfl | simp [h], rfl⟩
theorem bsw_any {w : World} {al : Option Addr} {nl cl : Nat} {L : List Int} {i : Int} (h : CtD (LtN w) w al nl cl L) (hs : L.Pairwise (· < ·)) (hn16 : nl ≤ 4096) : Calls prog 105 #[.slice al nl cl, .int .u64 i] w fun e w' => ∃ b, e = .returned (.tuple #[.int .i64 (ahW L i : Nat), .bool b]) ∧ w' = w := by
 have hn : Hid (L.length = nl) := h.1
 have hnc := h.2.1
 have hcm := h.2.2.1.1
 have hsH : Hid (∀ j k, j < k → k < nl → L.getD j 0 < L.getD k 0) := by
  refine (?_ : ∀ j k, j < k → k < nl → L.getD j 0 < L.getD k 0)
  intro j k q1 q2
  have hl := hn.out
  have := List.pairwise_iff_getElem.1 hs j k (by omega) (by omega) q1
  rwa [List.getD_eq_getElem?_getD, List.getElem?_eq_getElem (by omega), List.getD_eq_getElem?_getD, List.getElem?_eq_getElem (by omega)]
 have ga1 := isAgg22
 clear hs
 go_enter func105, ntmps105
 go_wp2
 go_loopw [7, 8] (fun vl vh wr => ∃ lo hi : Nat, lo ≤ hi ∧ hi ≤ nl ∧ vl = .int .i64 lo ∧ vh = .int .i64 hi ∧ Hid (∀ j, j < lo → L.getD j 0 < i) ∧ Hid (∀ j, hi ≤ j → j < nl → i ≤ L.getD j 0) ∧ wr = w) (fun vl vh _ => (intOf vh).toNat - (intOf vl).toNat)
 case atStart => exact ⟨0, nl, Nat.zero_le _, Nat.le_refl _, rfl, rfl, fun j hj => absurd hj (by omega), fun j h1 h2 => absurd h2 (by omega), rfl⟩
 case round =>
  obtain ⟨lo, hi, hlh, hhn, rfl, rfl, hlo, hhi, rfl⟩ := hrel
  by_cases hlt : lo < hi
  ·obtain ⟨m, hm⟩ : ∃ m : Nat, m = (lo + hi) / 2 := ⟨_, rfl⟩
   have hmi : ((lo : Int) + hi) / 2 = m := by omega
   have hmn : m < nl := by omega
   have hm1 : lo ≤ m := by omega
   have hm2 : m < hi := by omega
   have hmn' : (m : Int) < nl := by omega
   have hm96 : m ≤ 4096 := by omega
   obtain ⟨b, off, rfl, hbb, hc⟩ := jpz h hmn
   clear hm
   have hls := less_any (w := wr) (a := L.getD m 0) (b := i)
   by_cases hxi : L.getD m 0 < i
   ·rw [decide_eq_true hxi] at hls
    have hlo2 : Hid (∀ j, j < m + 1 → L.getD j 0 < i) := by
     refine (?_ : ∀ j, j < m + 1 → L.getD j 0 < i)
     intro j hj
     rcases Nat.lt_or_ge j m with q | q
     ·have := hsH.out j m q hmn; omega
     ·obtain rfl : j = m := by omega
      exact hxi
    generalize L.getD m 0 = z at hc hls
    go_wp2_with (first
     | (with_reducible refine xwz (by kernel_rfl) .shr _ _ _ _ rfl _ _ rfl rfl (vrz _ _ _ _ hmi) ?_)
     | (with_reducible refine xhz (by kernel_rfl) 129 3 _ rfl (.int .u64 (m : Int)) rfl (vGz _ hm96) ?_)
     | (with_reducible refine qOz (by kernel_rfl) _ _ rfl b _ rfl _ hc ga1 ?_)
     | (go_at_call 132; (with_reducible refine hls.mono ?_); rintro e w1 ⟨rfl, rfl⟩))
    go_roundw
    case rel => exact ⟨m + 1, hi, by omega, hhn, by go_num, rfl, hlo2, hhi, trivial⟩
    case measure => simp [intOf]; omega
   ·rw [decide_eq_false hxi] at hls
    have hhi2 : Hid (∀ j, m ≤ j → j < nl → i ≤ L.getD j 0) := by
     refine (?_ : ∀ j, m ≤ j → j < nl → i ≤ L.getD j 0)
     intro j hj hjn
     rcases Nat.lt_or_ge m j with q | q
     ·have := hsH.out m j q hjn; omega
     ·obtain rfl : j = m := by omega
      omega
    generalize L.getD m 0 = z at hc hls
    go_wp2_with (first
     | (with_reducible refine xwz (by kernel_rfl) .shr _ _ _ _ rfl _ _ rfl rfl (vrz _ _ _ _ hmi) ?_)
     | (with_reducible refine xhz (by kernel_rfl) 129 3 _ rfl (.int .u64 (m : Int)) rfl (vGz _ hm96) ?_)
     | (with_reducible refine qOz (by kernel_rfl) _ _ rfl b _ rfl _ hc ga1 ?_)
     | (go_at_call 132; (with_reducible refine hls.mono ?_); rintro e w1 ⟨rfl, rfl⟩))
    go_roundw
    case rel => exact ⟨lo, m, by omega, by omega, rfl, rfl, hlo, hhi2, trivial⟩
    case measure => simp [intOf]; omega
  ·obtain rfl : lo = hi := by omega
   have hke : Hid (ahW L i = lo) := ahW_of (by rw [hn.out]; exact hhn) hlo.out (fun j h1 h2 => hhi.out j h1 (by rw [← hn.out]; exact h2))
   by_cases hln : lo < nl
   ·obtain ⟨b, off, rfl, hbb, hc⟩ := jpz h hln
    have hln' : (lo : Int) < nl := by omega
    generalize L.getD lo 0 = z at hc
    by_cases hxi : z = i
    ·subst hxi
     go_wp2_with (first
      | (with_reducible refine qOz (by with_unfolding_all rfl) _ _ rfl b _ rfl _ hc ga1 ?_)
      | (go_at_call 133; refine vSz.mono ?_; rintro e w1 ⟨rfl, rfl⟩))
     go_ret2
     rw [hke.out]
     exact ⟨_, rfl, rfl⟩
    ·have hxb : (z == i) = false := by simpa using hxi
     go_wp2_with (first
      | (with_reducible refine qOz (by with_unfolding_all rfl) _ _ rfl b _ rfl _ hc ga1 ?_)
      | (go_at_call 133; refine vSz.mono ?_; rintro e w1 ⟨rfl, rfl⟩))
     go_ret2
     rw [hke.out]
     exact ⟨_, rfl, rfl⟩
   ·have hln' : ¬ (lo : Int) < nl := by omega
    go_wp2
    go_ret2
    exact ⟨.inl (by rw [hke.out]; rfl), rfl⟩
end
end Go.Proofs.YtklnneiblmakmaaGreat
