/-
 PROVED HERE: what the document's has and Holders return when they are called (contracts over this translation); steps of a . What is asked stands at each.
-/
import Derived.Test.YtobcdaaghdljbaaY2
import Derived.Test.YtobcdaaghdljbaaY13
import Derived.Test.YtobcdaaghdljbaaY18
namespace Go.Proofs.Ytobcdaaghdljbaa
set_option maxRecDepth 100000
set_option maxHeartbeats 8000000
open Go.RowKit Go.Shelf
set_option linter.unusedVariables false
attribute [local go_sem] Oper.semAt_some

theorem rhas_any {w : World} {al : Option Addr} {nl cl : Nat} {L : List Int} {i : Int} (h : CtD (LtN w) w al nl cl L) : Asks 39 #[.slice al nl cl, .int .u64 i] (i ∈ L) w := by
 have hn : Hid (L.length = nl) := h.1
 have hnc := h.2.1
 have hcm := h.2.2.1.1
 have ga1 := Try.isAgg22
 unfold Asks
 go_enter Try.func39, Try.ntmps39
 go_wp2
 go_loopw [5] (fun j wr => ∃ k : Nat, k ≤ nl ∧ j = .int .i64 k ∧ Hid (∀ q, q < k → L.getD q 0 ≠ i) ∧ wr = w) (fun j _ => nl - (intOf j).toNat)
 case atStart => exact ⟨0, Nat.zero_le _, rfl, fun q hq => absurd hq (by omega), rfl⟩
 case round =>
  obtain ⟨k, hk, rfl, hal, rfl⟩ := hrel
  by_cases hkn : k < nl
  ·obtain ⟨b, off, rfl, hb, hc⟩ := ct_at h hkn
   have hkn' : (k : Int) < nl := by omega
   go_wp2_with (first
    | (with_reducible refine wpList_loadc (by kernel_rfl) _ _ rfl b _ rfl _ hc ga1 ?_)
    | ((with_reducible refine wpList_test (by kernel_rfl) .eql _ _ _ _ rfl _ _ rfl rfl (eqg_int _ _ _ _ _ _) ?_ ?_) <;> intro hq))
   ·go_ret
    exact askP_yes (by rw [← hq.out]; exact getD_mem (by rw [hn.out]; exact hkn)) (Below.refl _ _)
   ·go_roundw
    case rel => exact ⟨k + 1, by omega, by go_num, fn_succ hal.out hq.out, trivial⟩
    case measure => simp [intOf]; omega
  ·obtain rfl : k = nl := by omega
   go_wp2
   go_ret
   have hq : Hid (¬ i ∈ L) := by
    refine (?_ : ¬ i ∈ L)
    intro e
    obtain ⟨j, hj, q⟩ := List.getElem_of_mem e
    have := hal.out j (by rw [← hn.out]; exact hj)
    rw [List.getD_eq_getElem?_getD, List.getElem?_eq_getElem hj] at this
    exact this q
   exact askP_no hq (Below.refl _ _) id
theorem holL_succ {X : List Ob} {i : Int} {k : Nat} (h : k < X.length) : holL (X.take (k + 1)) i = holL (X.take k) i ++ (if i ∈ (oat X k).links then [(oat X k).id] else []) := by
 unfold holL
 rw [List.take_add_one, List.getElem?_eq_getElem h, oat_get h, Option.toList_some, List.filter_append, List.map_append]
 congr 1
 by_cases q : i ∈ X[k].links
 ·rw [if_pos q, List.filter_cons_of_pos (by simpa using q)]; rfl
 ·rw [if_neg q, List.filter_cons_of_neg (by simpa using q)]; rfl
theorem run_bsw {v : Int} (w : World) : (Instr.buildSlice 28 1 #[(0, .int .u64 v)]).run Try.prog w = .ok (.slice (some ⟨w.heap.size, 0, none⟩) 1 1) (w.alloc (.cells #[.int .u64 v] 22)) := by
 obtain ⟨i0, hi, hz0, hz1, hz2⟩ := info_parts infoW
 refine run_buildSlice w _ _ 1 _ _ i0 _ Try.underlying28 hi hz0 (by rw [hz1]; omega) (by rw [hz1]; omega) ?_
 rw [hz1]
 have := Great.fill_whole (s := 1) (by omega) [.int .u64 v] ((Array.range (1 * 1)).map ((Value.int .u64 0).cells[· % (Value.int .u64 0).cells.size]!)) (by simp [Value.cells]) (by simp)
 simpa [Value.cells] using this
section
variable {ops : Array Oper} {rest : List Oper} {op : Oper} {a : Act} {Q : Exit → Act → World → Prop} {w : World}
theorem wpList_bsw (hgd : op.guard = none) (x : Operand) (ho : op.op = .buildSlice 28 1 #[(0, x)]) (v : Int) (hx : a.eval x = .int .u64 v)
  (h : ∀ B W, Hid (w.heap.size = B ∧ W.heap.size = B + 1) → Blk W B #[.int .u64 v] 22 → Below w.heap.size w W → wpList Try.prog ops Q rest (a.put op.dst (.slice (some ⟨B, 0, none⟩) 1 1)) W) : wpList Try.prog ops Q (op :: rest) a w :=
 wpList_plain hgd fun K hK => by
  have e : (#[(0, x)].map fun ((i : Nat), x) => (i, a.eval x)) = #[(0, Value.int .u64 v)] := by simp [hx]
  unfold Oper.wp execOp
  simp only [ho, e, Sem.run_bind, run_bsw, Result.andThen_ok]
  exact hK _ _ (h _ _ ⟨rfl, by simp⟩ (Blk.new w #[.int .u64 v] 22) ((Below.refl _ w).alloc (Nat.le_refl _) _))
end
theorem row_word {W : World} {B : Nat} {v : Int} (h : Blk W B #[.int .u64 v] 22) : RowC 1 (LtN W) W (some ⟨B, 0, none⟩) 1 1 [.int .u64 v] :=
 ⟨rfl, Nat.le_refl _, ⟨by omega, fun e => by cases e⟩, fun _ => ⟨B, 0, rfl, h.lt, h.range0⟩⟩
theorem rholders_any {w : World} {t ke ro : Int} {ao : Option Addr} {n cap : Nat} {X : List Ob} {i : Int} (h : Obs w ao n cap X) (hn16 : n ≤ 4096) : Calls Try.prog 17 #[.agg #[.int .i64 t, .int .u64 ke, .int .u64 ro, .slice ao n cap], .int .u64 i] w fun e w' => ∃ v, e = .returned v ∧ w'.ownsRow w.heap.size 22 1 v (holL X i).length (wordsC (holL X i)) ∧ Below w.heap.size w w' := by
 have hn : Hid (X.length = n) := h.1
 have hnc := h.2.1
 have hcm := h.2.2.1.1
 have ga1 := Try.isAgg22
 have ga3 := Try.isAgg23
 have ga4 := Try.isAgg28
 have c3 : (#[.int .i64 t, .int .u64 ke, .int .u64 ro, .slice ao n cap] : Array Value)[3]? = some (.slice ao n cap) := rfl
 obtain ⟨G, hG⟩ : ∃ G : Array Value, G = #[.int .i64 t, .int .u64 ke, .int .u64 ro, .slice ao n cap] := ⟨_, rfl⟩
 rw [← hG] at c3
 rw [← hG]
 clear hG
 go_enter Try.func17, Try.ntmps17
 go_wp2_with (first
  | (with_reducible refine wpList_box rfl _ _ rfl G rfl ?_; intro B W hB hb hk))
 have hBl : Hid (w.heap.size = B ∧ W.heap.size = B + 1) := hB
 clear hB
 go_loopw [5, 6] (fun v j wr => ∃ k : Nat, k ≤ n ∧ j = .int .i64 k ∧ wr.ownsRow W.heap.size 22 1 v (holL (X.take k) i).length (wordsC (holL (X.take k) i)) ∧ Below W.heap.size W wr) (fun _ j _ => n - (intOf j).toNat)
 case atStart => exact ⟨0, Nat.zero_le _, rfl, World.ownsRow_nil _ _ _ _, Below.refl _ _⟩
 case round =>
  obtain ⟨k, hkn1, rfl, hown, hb0⟩ := hrel
  have hbw := hk.trans (hb0.mono hk.size)
  replace hb := hb.next hb0
  have hb0s := hb0.size
  by_cases hkn : k < n
  ·obtain ⟨b, off, C, rfl, hbb, hC, hr⟩ := obs_at (obs_next h hbw) hkn
   obtain ⟨al, nl, cl, c5, hLk⟩ := hC.links
   have hkn' : (k : Int) < n := by omega
   have hid : wr.cell? ⟨b, off + k * 51, none⟩ = some (.int .u64 (oat X k).id) := by simpa using hr 0 _ (by simpa using hC.id)
   have hlk : wr.cell? ⟨b, off + k * 51 + 5, none⟩ = some (.slice al nl cl) := hr 5 _ (by simpa using c5)
   have hidW : ∀ W, Below wr.heap.size wr W → W.cell? ⟨b, off + k * 51, none⟩ = some (.int .u64 (oat X k).id) := fun W q => (World.cell?_of_block (w := wr) (a := ⟨b, off + k * 51, none⟩) (q.block b hbb)).trans hid
   have hsu := holL_succ (i := i) (show k < X.length by rw [hn.out]; exact hkn)
   have hl : (holL (X.take k) i).length ≤ k := by unfold holL; rw [List.length_map]; exact Nat.le_trans (List.length_filter_le ..) (by simp; omega)
   go_wp2_with (first
    | (with_reducible refine wpList_load1 (by kernel_rfl) _ _ rfl B _ rfl _ _ hb _ c3 ga3 ?_)
    | (with_reducible refine wpList_loadc (by kernel_rfl) _ _ rfl b _ rfl _ hlk ga4 ?_)
    | (go_at_call 39; (with_reducible refine (rhas_any hLk).on ?_ ?_) <;> (intro w1 hq hb1; replace hb := hb.next hb1; have hid1 := hidW _ hb1))
    | (with_reducible refine wpList_loadc (by kernel_rfl) _ _ rfl b _ rfl _ hid1 ga1 ?_)
    | ((with_reducible refine wpList_bsw rfl _ rfl (oat X k).id rfl ?_); intro Bq W8 hBq hbq hk8; have hown8 := own_next (own_next hown hb1) hk8)
    | (at_builtin; refine wpList_append_row infoW Try.underlying28 rfl (by omega) rfl _ _ rfl W.heap.size _ _ _ rfl hown8 _ _ _ _ [.int .u64 (oat X k).id] rfl (row_word hbq) (fun u hu => by rw [List.mem_singleton] at hu; rw [hu]; rfl) (by unfold maxLen; omega) (by omega) (Nat.le_trans hb0s (Nat.le_trans hb1.size hk8.size)) ?_; intro v' w2 hown' hgrow))
   ·go_roundw
    case rel =>
     rw [if_pos hq.out] at hsu
     have hb2 : Below W.heap.size W w2 := ((hb0.trans (hb1.mono hb0s)).trans (hk8.mono (Nat.le_trans hb0s hb1.size))).grown hgrow (Nat.le_trans hb0s (Nat.le_trans hb1.size hk8.size)) (own_ge hown8)
     refine ⟨k + 1, by omega, by go_num, ?_, hb2⟩
     rw [hsu, List.length_append]
     have e : wordsC (holL (X.take k) i ++ [(oat X k).id]) = wordsC (holL (X.take k) i) ++ [.int .u64 (oat X k).id] := by simp [wordsC]
     rw [e]
     exact hown'
    case measure => simp [intOf]; omega
   ·go_roundw
    case rel =>
     rw [if_neg hq.out, List.append_nil] at hsu
     exact ⟨k + 1, by omega, by go_num, by rw [hsu]; exact own_next hown hb1, hb0.trans (hb1.mono hb0s)⟩
    case measure => simp [intOf]; omega
  ·obtain rfl : k = n := by omega
   go_wp2_with (first
    | (with_reducible refine wpList_load1 (by kernel_rfl) _ _ rfl B _ rfl _ _ hb _ c3 ga3 ?_))
   go_ret
   have ht : X.take k = X := by rw [← hn.out]; exact List.take_length
   rw [ht] at hown
   refine ⟨_, rfl, ⟨hown.1, ?_⟩, hbw⟩
   rcases hown.2 with q | ⟨g, c, cur, q1, q2, q3⟩
   ·exact .inl q
   ·exact .inr ⟨g, c, cur, q1, Nat.le_trans hk.size q2, q3⟩
end Go.Proofs.Ytobcdaaghdljbaa
namespace Go.Proofs.Ytobcdaaghdljbaa
set_option maxRecDepth 100000
set_option maxHeartbeats 8000000
open Go.RowKit Go.Shelf
set_option linter.unusedVariables false
attribute [local go_sem] Oper.semAt_some

theorem iaw_at {S : World → Prop} {b off i n cap : Nat} (hi : i < n) : Obl.holds Try.prog S (.ia 28 (.slice (some ⟨b, off, none⟩) n cap) (.int .i64 i) (.pointer (some ⟨b, off + i, none⟩))) := fun w hS => by
 have hi' : (i : Int) < n := by omega
 go_simp
theorem ob_word {S : World → Prop} {P : Program} {ty : TypeId} {b o : Nat} {v : Value} (hc : ∀ w, S w → w.cell? ⟨b, o, none⟩ = some v) (hg : ∀ w, (isAgg ty).run P w = .ok false w) : Obl.holds P S (.load ty b o v) := fun w hS => by
 simp [loadVar, hg, hc w hS]
theorem ob_lt {w W W' : World} {C : Array Value} {x : Ob} (h : ObD (LtN w) W C x) (k : Below w.heap.size w W) (q : Below W.heap.size W W') : ObD (LtN w) W' C x :=
 h.laterK fun b hb => q.block b (Nat.lt_of_lt_of_le hb k.size)
theorem ob_oth {w W W' : World} {P : Nat} {C : Array Value} {x : Ob} (h : ObD (LtN w) W C x) (hP : w.heap.size ≤ P) (q : Oth P W W') : ObD (LtN w) W' C x :=
 h.laterK fun b hb => q.block b (by have : b < w.heap.size := hb; omega)
theorem rfind_at {w W : World} {t ke ro : Int} {ao : Option Addr} {n cap : Nat} {X : List Ob} {i : Int} (h : Obs w ao n cap X) (k : Below w.heap.size w W) : Calls Try.prog 16 #[.agg #[.int .i64 t, .int .u64 ke, .int .u64 ro, .slice ao n cap], .int .u64 i] W fun e w' => ∃ C', e = .returned (.tuple #[.agg C', .bool (fnd X i).isSome]) ∧ ObD (LtN w) w' C' (fO X i) ∧ Below W.heap.size W w' :=
 rfind_d (D0 := LtN w) (fun _ hb => Nat.lt_of_lt_of_le hb k.size) (obsD_next h (fun _ hb => hb) k)
end Go.Proofs.Ytobcdaaghdljbaa
namespace Go.Proofs.Ytobcdaaghdljbaa
set_option maxRecDepth 100000
set_option maxHeartbeats 8000000
open Go.RowKit Go.Shelf
set_option linter.unusedVariables false
attribute [local go_sem] Oper.semAt_some

theorem fO_quota (X : List Ob) (i : Int) : (fO X i).quota = qOf X i := by
 unfold fO qOf
 cases fnd X i <;> rfl
theorem pagN_le {o : Ob} (h : Small o) : 0 ≤ pagN o ∧ pagN o ≤ 4294967296 := by
 have := h.c6
 unfold pagN
 omega
theorem ruse_le {X : List Ob} {o : Ob} (hq : ∀ x ∈ X, 0 ≤ x.quota ∧ x.quota ≤ 4096) (hsm : Small o) (l : List Int) (hl : l.length < 4294967296) : 0 ≤ pagN o + (l.map (qOf X)).sum ∧ pagN o + (l.map (qOf X)).sum ≤ 17596481011712 := by
 have h1 := sum_le (l := l) (f := qOf X) (k := 4096) fun i _ => qO_le hq i
 have h2 := pagN_le hsm
 omega
theorem sum_take {l : List Int} {f : Int → Int} {k : Nat} (h : k < l.length) : ((l.take (k + 1)).map f).sum = ((l.take k).map f).sum + f (l.getD k 0) := by
 rw [List.take_add_one, List.getElem?_eq_getElem h, Option.toList_some, List.map_append, List.sum_append, List.getD_eq_getElem?_getD, List.getElem?_eq_getElem h]
 simp
theorem ruses_w {w : World} {t ke ro : Int} {ao : Option Addr} {n cap : Nat} {X : List Ob} {C : Array Value} {o : Ob} (h : Obs w ao n cap X) (hq : ∀ x ∈ X, 0 ≤ x.quota ∧ x.quota ≤ 4096) (ho : ObD (LtN w) w C o) (hsm : Small o) : Calls Try.prog 40 #[.agg #[.int .i64 t, .int .u64 ke, .int .u64 ro, .slice ao n cap], .agg C] w fun e w' => e = .returned (.int .i64 (usesN X o)) ∧ Below w.heap.size w w' := by
 have hmx : Try.prog.follows .mixedOrders = true := by kernel_rfl
 have hz := ho.size
 obtain ⟨al, nl, cl, c5, hLk⟩ := ho.links
 have hln : Hid (o.links.length = nl) := hLk.1
 have hlc := hLk.2.1
 have hlm := hLk.2.2.1.1
 have hl32 : nl < 4294967296 := by rw [← hln.out]; exact hsm.c5
 have hzw : (Try.prog.info? 25).map (·.size) = some (#[.int .i64 t, .int .u64 ke, .int .u64 ro, .slice ao n cap] : Array Value).size := by kernel_rfl
 have hpg := fun (W : World) (hk : Below w.heap.size w W) => rpages_any (ho.next hk) hsm
 have hfd := fun {W : World} {i : Int} (hk : Below w.heap.size w W) => rfind_at (t := t) (ke := ke) (ro := ro) (i := i) h hk
 have hul := fun k => ruse_le hq hsm (o.links.take k) (by rw [List.length_take, hln.out]; omega)
 have hst := fun k (hk : k < nl) => sum_take (f := qOf X) (show k < o.links.length by rw [hln.out]; exact hk)
 have hfin : Hid (usesN X o = pagN o + ((o.links.take nl).map (qOf X)).sum) := by show usesN X o = _; rw [← hln.out, List.take_length]; rfl
 rw [hfin.out]
 obtain ⟨G, hG⟩ : ∃ G : Array Value, G = #[.int .i64 t, .int .u64 ke, .int .u64 ro, .slice ao n cap] := ⟨_, rfl⟩
 rw [← hG] at hzw hfd
 rw [← hG]
 clear hG
 generalize pagN o = pg at hpg hul hst ⊢
 go_enter Try.func40, Try.ntmps40
 go_wp2_with (first
  | (with_reducible refine wpList_box rfl 25 _ rfl G rfl ?_; intro B2 W2 hN2 hB2 hk)
  | (with_reducible refine wpList_box rfl 54 _ rfl C rfl ?_; intro B3 W3 hN3 hB3 hk3; replace hB2 := hB2.next hk3; replace hk := hk.trans (hk3.mono hk.size))
  | (with_reducible refine wpList_loadb (by kernel_rfl) _ _ rfl B3 rfl C hB3 _ Try.underlying54 (by kernel_rfl) (size40C hz) ?_)
  | (go_at_call 61; (with_reducible refine (hpg _ hk).mono ?_); rintro e w1 ⟨rfl, hb1⟩; replace hB2 := hB2.next hb1; replace hB3 := hB3.next hb1; replace hk := hk.trans (hb1.mono hk.size)))
 clear hN2 hN3 hk3
 go_loopw [5, 6] (fun v j wr => ∃ k : Nat, k ≤ nl ∧ j = .int .i64 k ∧ v = .int .i64 (pg + ((o.links.take k).map (qOf X)).sum) ∧ Blk wr B2 G 25 ∧ Blk wr B3 C 54 ∧ Below w.heap.size w wr) (fun _ j _ => nl - (intOf j).toNat)
 case atStart => exact ⟨0, Nat.zero_le _, rfl, by simp, hB2, hB3, hk⟩
 case round =>
  clear hB2 hB3 hk
  obtain ⟨k, hkn1, rfl, rfl, hB2, hB3, hk⟩ := hrel
  by_cases hkn : k < nl
  ·obtain ⟨b, off, rfl, hbb, hc⟩ := ct_at hLk hkn
   have hkn' : (k : Int) < nl := by omega
   have hw5 := hul (k + 1)
   rw [hst k hkn] at hw5
   have hst1 := hst k hkn
   have hq0 := fO_quota X (o.links.getD k 0)
   generalize ((o.links.take k).map (qOf X)).sum = s0 at hst1 hw5 ⊢
   generalize o.links.getD k 0 = i at hc hst1 hq0 hw5
   go_wp2_with (first
    | (with_reducible refine wpList_load1 (by kernel_rfl) _ _ rfl B3 _ rfl _ _ hB3 _ c5 Try.isAgg28 ?_))
   refine PgM.region_out (S := fun W => Blk W B2 G 25 ∧ Blk W B3 C 54 ∧ Below w.heap.size w W) hmx ⟨hB2.next (Below.refl _ _).drew, hB3.next (Below.refl _ _).drew, hk.trans ((Below.refl _ _).drew.mono hk.size)⟩ (fun hS => ?_)
   generalize wr.drew = v6 at hS ⊢
   clear hk hB2 hB3 
   refine wpAnyH_sym (by kernel_rfl) (fun _ _ _ _ _ h => h) hS [(0, some (.agg G)), (1, none), (2, some (.slice (some ⟨b, off, none⟩) nl cl)), (3, none), (4, some (.pointer (some ⟨b, off + k, none⟩))), (5, some (.int .u64 i))] (l' := #[true, true, true, true, true, true, false, false, false, false, false, false, false]) (a' := { tmps := #[.agg G, .agg C, .pointer (some ⟨B2, 0, none⟩), .pointer (some ⟨B3, 0, none⟩), .int .i64 0, .int .i64 (pg + s0), .int .i64 k, u7, u8, .agg C, .int .i64 pg, .int .i64 k, .pointer (some ⟨B3, 5, none⟩), .slice (some ⟨b, off, none⟩) nl cl, .int .i64 nl, .bool true, u16, u17, u18, .agg G, .pointer (some ⟨B3, 5, none⟩), .slice (some ⟨b, off, none⟩) nl cl, .int .i64 k, .pointer (some ⟨b, off + k, none⟩), .int .u64 i, u25, u26, u27, u28, u29, u30, u31, undef], defers := [] }) (obs := [.load 25 B2 0 (.agg G), .load 28 B3 5 (.slice (some ⟨b, off, none⟩) nl cl), .ia 28 (.slice (some ⟨b, off, none⟩) nl cl) (.int .i64 k) (.pointer (some ⟨b, off + k, none⟩)), .load 22 b (off + k) (.int .u64 i)]) (n := 7) (by kernel_rfl) (by kernel_rfl) ⟨ob_loadb (fun _ h => h.1) Try.underlying25 (by kernel_rfl) hzw, ob_load1 (fun _ h => h.2.1) c5 Try.isAgg28, iaw_at hkn, ob_word (fun W h => (World.cell?_of_block (w := w) (a := ⟨b, off + k, none⟩) (h.2.2.block b hbb)).trans hc) Try.isAgg22, trivial⟩ ?_
   refine share 2 #[true, true, true, true, true, true, true, true, true, true, true, false, false] (fun A W => ∃ (P6 : Nat) (C6 : Array Value), A = { tmps := #[.agg G, .agg C, .pointer (some ⟨B2, 0, none⟩), .pointer (some ⟨B3, 0, none⟩), .int .i64 0, .int .i64 (pg + s0), .int .i64 k, .pointer (some ⟨P6, 0, none⟩), u8, .agg C, .int .i64 pg, .int .i64 k, .pointer (some ⟨B3, 5, none⟩), .slice (some ⟨b, off, none⟩) nl cl, .int .i64 nl, .bool true, u16, u17, .tuple #[.agg C6, .bool (fnd X i).isSome], .agg G, .pointer (some ⟨B3, 5, none⟩), .slice (some ⟨b, off, none⟩) nl cl, .int .i64 k, .pointer (some ⟨b, off + k, none⟩), .int .u64 i, .tuple #[.agg C6, .bool (fnd X i).isSome], .agg C6, .bool (fnd X i).isSome, u28, u29, u30, u31, undef], defers := [] } ∧ (Blk W B2 G 25 ∧ Blk W B3 C 54 ∧ Below w.heap.size w W) ∧ Blk W P6 zC 54 ∧ v6.heap.size ≤ P6 ∧ ObD (LtN w) W C6 (fO X i) ∧ Below v6.heap.size v6 W) ?_ (fun rest => ?_)
   ·rintro A W ⟨P6, C6, rfl, hS1, hP0, hgP, o6, kv⟩
    obtain ⟨W6, hr6, hP6, q6⟩ := run_store_blk hP0 (size40C o6.size) (zC_size.trans o6.size.symm) o6.one
    refine wpAnyH_single (i := 11) (n := 1) rfl (by kernel_rfl) ?_
    refine wpOp_storeL (ty := 54) (B := P6) (off := 0) (v := .agg C6) (d := none) (by kernel_rfl) hr6 ?_
    have hwP : w.heap.size ≤ P6 := Nat.le_trans hS.2.2.size hgP
    have hS6 : Blk W6 B2 G 25 ∧ Blk W6 B3 C 54 ∧ Below w.heap.size w W6 := ⟨hS1.1.other q6 (by have := hS.1.lt; omega), hS1.2.1.other q6 (by have := hS.2.1.lt; omega), q6.below _ _ hwP hS1.2.2⟩
    replace o6 := ob_oth o6 hwP q6
    refine ⟨hS6, ?_⟩
    refine wpAnyH_sym (by kernel_rfl) (fun _ _ _ _ _ h => h) hS6 [(12, none)] (l' := #[true, true, true, true, true, true, true, true, true, true, true, true, true]) (a' := { tmps := #[.agg G, .agg C, .pointer (some ⟨B2, 0, none⟩), .pointer (some ⟨B3, 0, none⟩), .int .i64 0, .int .i64 (pg + s0), .int .i64 k, .pointer (some ⟨P6, 0, none⟩), .bool (fnd X i).isSome, .agg C, .int .i64 pg, .int .i64 k, .pointer (some ⟨B3, 5, none⟩), .slice (some ⟨b, off, none⟩) nl cl, .int .i64 nl, .bool true, u16, u17, .tuple #[.agg C6, .bool (fnd X i).isSome], .agg G, .pointer (some ⟨B3, 5, none⟩), .slice (some ⟨b, off, none⟩) nl cl, .int .i64 k, .pointer (some ⟨b, off + k, none⟩), .int .u64 i, .tuple #[.agg C6, .bool (fnd X i).isSome], .agg C6, .bool (fnd X i).isSome, u28, u29, u30, u31, undef], defers := [] }) (obs := []) (n := 0) (by kernel_rfl) (by kernel_rfl) trivial ?_
    refine wpAnyH_done (by kernel_rfl) ?_ _
    obtain ⟨hB2, hB3, hk⟩ := hS6
    clear hS hS1 hP0 hgP hr6 q6 kv
    have c3 := o6.quota
    rw [hq0] at c3
    have hwr : IntKind.i64.wrap (pg + s0 + qOf X i) = pg + s0 + qOf X i := by rw [IntKind.wrap_i64]; omega
    generalize qOf X i = qi at c3 hst1 hwr hw5
    clear hq0 o6
    go_wp2_with (first
     | (with_reducible refine wpList_load1 (by kernel_rfl) _ _ rfl P6 _ rfl _ _ hP6 _ c3 Try.isAgg3 ?_))
    go_roundw
    case rel => exact ⟨k + 1, by omega, by go_num, by rw [hst1]; first | rfl | (congr 1; omega), hB2, hB3, hk⟩
    case measure => simp [intOf]; omega
   ·refine wpAnyH_two (i := 6) (j := 10) (n := 6) rfl (by kernel_rfl) ?_ ?_
    ·refine wpOp_callL (f := 16) (vs := [.agg G, .int .u64 i]) (d := some 25) (by kernel_rfl) Try.call16 (hfd hS.2.2) ?_
     rintro e z1 ⟨C6, rfl, o6, hb101⟩
     have k1 := (Below.refl v6.heap.size v6).trans (hb101.mono (Below.refl v6.heap.size v6).size)
     have hS1 : Blk z1 B2 G 25 ∧ Blk z1 B3 C 54 ∧ Below w.heap.size w z1 := ⟨hS.1.next hb101, hS.2.1.next hb101, hS.2.2.trans (hb101.mono hS.2.2.size)⟩
     refine ⟨_, rfl, hS1, ?_⟩
     refine wpAnyH_pure (by kernel_rfl) (fun _ _ _ _ _ h => h) hS1 [7, 8, 9] (l' := #[true, true, true, true, true, true, true, true, true, true, false, false, false]) (a' := { tmps := #[.agg G, .agg C, .pointer (some ⟨B2, 0, none⟩), .pointer (some ⟨B3, 0, none⟩), .int .i64 0, .int .i64 (pg + s0), .int .i64 k, u7, u8, .agg C, .int .i64 pg, .int .i64 k, .pointer (some ⟨B3, 5, none⟩), .slice (some ⟨b, off, none⟩) nl cl, .int .i64 nl, .bool true, u16, u17, .tuple #[.agg C6, .bool (fnd X i).isSome], .agg G, .pointer (some ⟨B3, 5, none⟩), .slice (some ⟨b, off, none⟩) nl cl, .int .i64 k, .pointer (some ⟨b, off + k, none⟩), .int .u64 i, .tuple #[.agg C6, .bool (fnd X i).isSome], .agg C6, .bool (fnd X i).isSome, u28, u29, u30, u31, undef], defers := [] }) (n := 3) (by kernel_rfl) (by kernel_rfl) ?_
     refine wpAnyH_single (i := 10) (n := 2) rfl (by kernel_rfl) ?_
     refine wpOp_allocL (ty := 54) (z := zC) (d := some 7) (by kernel_rfl) zero40 ?_
     intro P6 z2 hN hP6 hb102
     have hgP : v6.heap.size ≤ P6 := by have := hN.out; have := k1.size; omega
     replace o6 := ob_lt o6 hS1.2.2 hb102
     have k2 := k1.trans (hb102.mono k1.size)
     have hS2 : Blk z2 B2 G 25 ∧ Blk z2 B3 C 54 ∧ Below w.heap.size w z2 := ⟨hS1.1.next hb102, hS1.2.1.next hb102, hS1.2.2.trans (hb102.mono hS1.2.2.size)⟩
     refine ⟨hS2, ?_⟩
     exact rest _ _ ⟨P6, C6, rfl, hS2, hP6, hgP, o6, k2⟩
    ·refine wpOp_allocL (ty := 54) (z := zC) (d := some 7) (by kernel_rfl) zero40 ?_
     intro P6 z3 hN hP6 hb103
     have hgP : v6.heap.size ≤ P6 := by have := hN.out; have := (Below.refl v6.heap.size v6).size; omega
     have k3 := (Below.refl v6.heap.size v6).trans (hb103.mono (Below.refl v6.heap.size v6).size)
     have hS3 : Blk z3 B2 G 25 ∧ Blk z3 B3 C 54 ∧ Below w.heap.size w z3 := ⟨hS.1.next hb103, hS.2.1.next hb103, hS.2.2.trans (hb103.mono hS.2.2.size)⟩
     refine ⟨hS3, ?_⟩
     refine wpAnyH_single (i := 6) (n := 5) rfl (by kernel_rfl) ?_
     refine wpOp_callL (f := 16) (vs := [.agg G, .int .u64 i]) (d := some 25) (by kernel_rfl) Try.call16 (hfd hS3.2.2) ?_
     rintro e z4 ⟨C6, rfl, o6, hb104⟩
     replace hP6 := hP6.next hb104
     have k4 := k3.trans (hb104.mono k3.size)
     have hS4 : Blk z4 B2 G 25 ∧ Blk z4 B3 C 54 ∧ Below w.heap.size w z4 := ⟨hS3.1.next hb104, hS3.2.1.next hb104, hS3.2.2.trans (hb104.mono hS3.2.2.size)⟩
     refine ⟨_, rfl, hS4, ?_⟩
     refine wpAnyH_pure (by kernel_rfl) (fun _ _ _ _ _ h => h) hS4 [7, 8, 9] (l' := #[true, true, true, true, true, true, true, true, true, true, true, false, false]) (a' := { tmps := #[.agg G, .agg C, .pointer (some ⟨B2, 0, none⟩), .pointer (some ⟨B3, 0, none⟩), .int .i64 0, .int .i64 (pg + s0), .int .i64 k, .pointer (some ⟨P6, 0, none⟩), u8, .agg C, .int .i64 pg, .int .i64 k, .pointer (some ⟨B3, 5, none⟩), .slice (some ⟨b, off, none⟩) nl cl, .int .i64 nl, .bool true, u16, u17, .tuple #[.agg C6, .bool (fnd X i).isSome], .agg G, .pointer (some ⟨B3, 5, none⟩), .slice (some ⟨b, off, none⟩) nl cl, .int .i64 k, .pointer (some ⟨b, off + k, none⟩), .int .u64 i, .tuple #[.agg C6, .bool (fnd X i).isSome], .agg C6, .bool (fnd X i).isSome, u28, u29, u30, u31, undef], defers := [] }) (n := 2) (by kernel_rfl) (by kernel_rfl) ?_
     exact rest _ _ ⟨P6, C6, rfl, hS4, hP6, hgP, o6, k4⟩
  ·obtain rfl : k = nl := by omega
   generalize hsF : ((o.links.take k).map (qOf X)).sum = sF
   go_wp2_with (first
    | (with_reducible refine wpList_load1 (by kernel_rfl) _ _ rfl B3 _ rfl _ _ hB3 _ c5 Try.isAgg28 ?_))
   go_ret
   exact ⟨by rw [hsF]; rfl, hk⟩
end Go.Proofs.Ytobcdaaghdljbaa
namespace Go.Proofs.Ytobcdaaghdljbaa
set_option maxRecDepth 100000
set_option maxHeartbeats 8000000
open Go.ChangeShapes Go.WideShapes Go.ChangeAt Go.RowKit
set_option linter.unusedVariables false

theorem rleq_f {w : World} {ao ao' : Option Addr} {n n' cap cap' : Nat} {L L' : List (Int × Int)} (hL : Lab w.heap.size w ao n cap L) (hL' : Lab w.heap.size w ao' n' cap' L') (f : Fit L) (f' : Fit L') :
  Calls Try.prog 74 #[.slice ao n cap, .slice ao' n' cap'] w fun e w' => e = .returned (.bool (leqB L L')) ∧ Below w.heap.size w w' := by
 have h := rlleq_any hL hL'
 rw [rleq_eq f f'] at h
 exact h
theorem rraise_f {w : World} {ao : Option Addr} {n cap : Nat} {L : List (Int × Int)} (hL : Lab w.heap.size w ao n cap L) (hk : n < 68719476736) (f : Fit L) :
  Calls Try.prog 76 #[.slice ao n cap] w fun e w' => ∃ ao1 n1 cap1, e = .returned (.slice ao1 n1 cap1) ∧ Lab w'.heap.size w' ao1 n1 cap1 (raiseL L) ∧ n1 ≤ n ∧ Below w.heap.size w w' := by
 have h := rlraise_any hL hk
 rw [rraise_eq f] at h
 exact h
theorem rjoin_f {w : World} {ao ao' : Option Addr} {n n' cap cap' : Nat} {L L' : List (Int × Int)} (hL : Lab w.heap.size w ao n cap L) (hL' : Lab w.heap.size w ao' n' cap' L') (hk : n < 68719476736) (hk' : n' < 68719476736) (f : Fit L) (f' : Fit L') :
  Calls Try.prog 75 #[.slice ao n cap, .slice ao' n' cap'] w fun e w' => ∃ ao1 n1 cap1, e = .returned (.slice ao1 n1 cap1) ∧ Lab w'.heap.size w' ao1 n1 cap1 (joinL L L') ∧ n1 ≤ 2 * n + n' ∧ Below w.heap.size w w' := by
 have h := rljoin_any hL hL' hk hk'
 rw [rjoin_eq f f'] at h
 exact h
theorem rplace_any {w : World} {aD aO : Option Addr} {nD cD nO cO : Nat} {D O : List (Int × Int)} (hD : Lab w.heap.size w aD nD cD D) (hO : Lab w.heap.size w aO nO cO O) (kD : nD < 1048576) (kO : nO < 1048576) (fD : Fit D) (fO : Fit O) :
  Calls Try.prog 57 #[.slice aD nD cD, .slice aO nO cO] w fun e w' => e = .returned (.bool (leqB D (joinL (raiseL O) []))) ∧ Below w.heap.size w w' := by
 have hB := Below.refl w.heap.size w
 have H := ((((Labs.nil w).push (Lab.nil _ _)).push hD).push hO)
 clear hD hO
 have fnil := Fit.nil
 have fR : Fit (raiseL O) := raiseL_fit fO
 have fJ : Fit (joinL (raiseL O) []) := joinL_fit fR Fit.nil
 go_enter Try.func57, Try.ntmps57
 go_wp2_with (first | (go_at_call 76; refine (rraise_f (H.get (by repeat (first | exact List.Mem.head _ | apply List.Mem.tail))) (by omega) (by assumption)).mono ?_; rintro e w1 ⟨ao1, m1, cap1, rfl, hl, kn, kb⟩; replace H := (H.next kb).push hl; replace hB := hB.trans (kb.mono hB.size); clear kb hl) | (go_at_call 75; refine (rjoin_f (H.get (by repeat (first | exact List.Mem.head _ | apply List.Mem.tail))) (H.get (by repeat (first | exact List.Mem.head _ | apply List.Mem.tail))) (by omega) (by omega) (by assumption) (by assumption)).mono ?_; rintro e w1 ⟨ao1, m1, cap1, rfl, hl, kn, kb⟩; replace H := (H.next kb).push hl; replace hB := hB.trans (kb.mono hB.size); clear kb hl) | (go_at_call 74; refine (rleq_f (H.get (by repeat (first | exact List.Mem.head _ | apply List.Mem.tail))) (H.get (by repeat (first | exact List.Mem.head _ | apply List.Mem.tail))) (by assumption) (by assumption)).mono ?_; rintro e w1 ⟨rfl, kb⟩; replace H := H.next kb; replace hB := hB.trans (kb.mono hB.size); clear kb))
 go_ret
 exact ⟨rfl, hB⟩
end Go.Proofs.Ytobcdaaghdljbaa
namespace Go.Proofs.Ytobcdaaghdljbaa
set_option maxRecDepth 100000
set_option maxHeartbeats 8000000
open Go.RowKit Go.Shelf
set_option linter.unusedVariables false
attribute [local go_sem] Oper.semAt_some

theorem alw_no {l : List Int} {p : Int → Bool} {k : Nat} (hk : k < l.length) (h : p (l.getD k 0) = false) : l.all p = false := by
 rw [List.all_eq_false]
 exact ⟨_, getD_mem hk, by rw [h]; decide⟩
theorem alw_take {l : List Int} {p : Int → Bool} {k : Nat} (hk : k < l.length) (h : (l.take k).all p = true) (h1 : p (l.getD k 0) = true) : (l.take (k + 1)).all p = true := by
 rw [List.take_add_one, List.getElem?_eq_getElem hk, Option.toList_some, List.all_append, h]
 rw [List.getD_eq_getElem?_getD, List.getElem?_eq_getElem hk, Option.getD_some] at h1
 simp [h1]
def LbF (L : Lb) : Prop := Fit L ∧ L.length < 1048576
theorem fO_lab {X : List Ob} (h : ∀ x ∈ X, LbF x.label) (i : Int) : LbF (fO X i).label := by
 unfold fO
 cases hf : fnd X i with
 | none => exact ⟨Fit.nil, by decide⟩
 | some x => exact h x (fnd_id hf).2
theorem rlinks_w {w : World} {t ke ro : Int} {ao : Option Addr} {n cap : Nat} {X : List Ob} {C : Array Value} {o : Ob} (h : Obs w ao n cap X) (hq : ∀ x ∈ X, 0 ≤ x.quota ∧ x.quota ≤ 4096) (hlb : ∀ x ∈ X, LbF x.label) (ho : ObD (LtN w) w C o) (hsm : Small o) (hol : LbF o.label) : Calls Try.prog 36 #[.agg #[.int .i64 t, .int .u64 ke, .int .u64 ro, .slice ao n cap], .agg C] w fun e w' => e = .returned (.bool (lnkB X o)) ∧ Below w.heap.size w w' := by
 have hmx : Try.prog.follows .mixedOrders = true := by kernel_rfl
 have hz := ho.size
 obtain ⟨al, nl, cl, c5, hLk⟩ := ho.links
 obtain ⟨aD, nD, cD, c2, hLD⟩ := ho.label
 have hnD : nD < 1048576 := by rw [← hLD.1]; exact hol.2
 have c1 := ho.kind
 have c3 := ho.quota
 have hln : Hid (o.links.length = nl) := hLk.1
 have hlc := hLk.2.1
 have hlm := hLk.2.2.1.1
 have hzw : (Try.prog.info? 25).map (·.size) = some (#[.int .i64 t, .int .u64 ke, .int .u64 ro, .slice ao n cap] : Array Value).size := by kernel_rfl
 have hus := fun (W : World) (hk : Below w.heap.size w W) => ruses_w (t := t) (ke := ke) (ro := ro) (obs_next h hk) hq (ho.next hk) hsm
 have hfd := fun {W : World} {i : Int} (hk : Below w.heap.size w W) => rfind_at (t := t) (ke := ke) (ro := ro) (i := i) h hk
 have hL0 : Lab w.heap.size w aD nD cD o.label := hLD
 obtain ⟨p, hp⟩ : ∃ p : Int → Bool, Hid (p = fun i => (fnd X i).isSome && plcB o.label (fO X i).label) := ⟨_, rfl⟩
 have hR : Hid (lnkB X o = (o.links.all p && (!decide (o.kind = 2) || decide (usesN X o ≤ o.quota)))) := by show lnkB X o = _; unfold lnkB; rw [hp.out]
 have hno := fun (k : Nat) (hk : k < nl) (e : p (o.links.getD k 0) = false) => alw_no (p := p) (show k < o.links.length by rw [hln.out]; exact hk) e
 have hyes := fun (k : Nat) (hk : k < nl) => alw_take (p := p) (show k < o.links.length by rw [hln.out]; exact hk)
 have hfull : o.links.take nl = o.links := by rw [← hln.out]; exact List.take_length
 rw [hR.out]
 generalize usesN X o = us at hus ⊢
 obtain ⟨G, hG⟩ : ∃ G : Array Value, G = #[.int .i64 t, .int .u64 ke, .int .u64 ro, .slice ao n cap] := ⟨_, rfl⟩
 rw [← hG] at hzw hfd hus
 rw [← hG]
 clear hG
 go_enter Try.func36, Try.ntmps36
 go_wp2_with (first
  | (with_reducible refine wpList_box rfl 25 _ rfl G rfl ?_; intro B2 W2 hN2 hB2 hk)
  | (with_reducible refine wpList_box rfl 54 _ rfl C rfl ?_; intro B3 W3 hN3 hB3 hk3; replace hB2 := hB2.next hk3; replace hk := hk.trans (hk3.mono hk.size)))
 clear hN2 hN3 hk3
 go_loopw [5] (fun j wr => ∃ k : Nat, k ≤ nl ∧ j = .int .i64 k ∧ Hid ((o.links.take k).all p = true) ∧ Blk wr B2 G 25 ∧ Blk wr B3 C 54 ∧ Below w.heap.size w wr) (fun j _ => nl - (intOf j).toNat)
 case atStart => exact ⟨0, Nat.zero_le _, rfl, rfl, hB2, hB3, hk⟩
 case round =>
  clear hB2 hB3 hk
  obtain ⟨k, hkn1, rfl, hall, hB2, hB3, hk⟩ := hrel
  by_cases hkn : k < nl
  ·obtain ⟨b, off, rfl, hbb, hc⟩ := ct_at hLk hkn
   have hkn' : (k : Int) < nl := by omega
   replace hno := hno k hkn
   replace hyes := hyes k hkn hall.out
   generalize o.links.getD k 0 = i at hc hno hyes
   go_wp2_with (first
    | (with_reducible refine wpList_load1 (by kernel_rfl) _ _ rfl B3 _ rfl _ _ hB3 _ c5 Try.isAgg28 ?_))
   refine PgM.region_out (S := fun W => Blk W B2 G 25 ∧ Blk W B3 C 54 ∧ Below w.heap.size w W) hmx ⟨hB2.next (Below.refl _ _).drew, hB3.next (Below.refl _ _).drew, hk.trans ((Below.refl _ _).drew.mono hk.size)⟩ (fun hS => ?_)
   generalize wr.drew = v6 at hS ⊢
   clear hk hB2 hB3 
   refine wpAnyH_sym (by kernel_rfl) (fun _ _ _ _ _ h => h) hS [(0, some (.agg G)), (1, none), (2, some (.slice (some ⟨b, off, none⟩) nl cl)), (3, none), (4, some (.pointer (some ⟨b, off + k, none⟩))), (5, some (.int .u64 i))] (l' := #[true, true, true, true, true, true, false, false, false, false, false, false, false]) (a' := { tmps := #[.agg G, .agg C, .pointer (some ⟨B2, 0, none⟩), .pointer (some ⟨B3, 0, none⟩), u4, .int .i64 k, u6, u7, .int .i64 k, .pointer (some ⟨B3, 5, none⟩), .slice (some ⟨b, off, none⟩) nl cl, .int .i64 nl, .bool true, u13, u14, u15, .agg G, .pointer (some ⟨B3, 5, none⟩), .slice (some ⟨b, off, none⟩) nl cl, .int .i64 k, .pointer (some ⟨b, off + k, none⟩), .int .u64 i, u22, u23, u24, u25, u26, u27, u28, u29, u30, u31, u32, u33, u34, undef, undef, undef, undef, undef, undef, undef, undef, undef, undef, undef], defers := [] }) (obs := [.load 25 B2 0 (.agg G), .load 28 B3 5 (.slice (some ⟨b, off, none⟩) nl cl), .ia 28 (.slice (some ⟨b, off, none⟩) nl cl) (.int .i64 k) (.pointer (some ⟨b, off + k, none⟩)), .load 22 b (off + k) (.int .u64 i)]) (n := 7) (by kernel_rfl) (by kernel_rfl) ⟨ob_loadb (fun _ h => h.1) Try.underlying25 (by kernel_rfl) hzw, ob_load1 (fun _ h => h.2.1) c5 Try.isAgg28, iaw_at hkn, ob_word (fun W h => (World.cell?_of_block (w := w) (a := ⟨b, off + k, none⟩) (h.2.2.block b hbb)).trans hc) Try.isAgg22, trivial⟩ ?_
   refine share 2 #[true, true, true, true, true, true, true, true, true, true, true, false, false] (fun A W => ∃ (P6 : Nat) (C6 : Array Value), A = { tmps := #[.agg G, .agg C, .pointer (some ⟨B2, 0, none⟩), .pointer (some ⟨B3, 0, none⟩), u4, .int .i64 k, .pointer (some ⟨P6, 0, none⟩), u7, .int .i64 k, .pointer (some ⟨B3, 5, none⟩), .slice (some ⟨b, off, none⟩) nl cl, .int .i64 nl, .bool true, u13, u14, .tuple #[.agg C6, .bool (fnd X i).isSome], .agg G, .pointer (some ⟨B3, 5, none⟩), .slice (some ⟨b, off, none⟩) nl cl, .int .i64 k, .pointer (some ⟨b, off + k, none⟩), .int .u64 i, .tuple #[.agg C6, .bool (fnd X i).isSome], .agg C6, .bool (fnd X i).isSome, u25, u26, u27, u28, u29, u30, u31, u32, u33, u34, undef, undef, undef, undef, undef, undef, undef, undef, undef, undef, undef], defers := [] } ∧ (Blk W B2 G 25 ∧ Blk W B3 C 54 ∧ Below w.heap.size w W) ∧ Blk W P6 zC 54 ∧ v6.heap.size ≤ P6 ∧ ObD (LtN w) W C6 (fO X i) ∧ Below v6.heap.size v6 W) ?_ (fun rest => ?_)
   ·rintro A W ⟨P6, C6, rfl, hS1, hP0, hgP, o6, kv⟩
    obtain ⟨W6, hr6, hP6, q6⟩ := run_store_blk hP0 (size40C o6.size) (zC_size.trans o6.size.symm) o6.one
    refine wpAnyH_single (i := 11) (n := 1) rfl (by kernel_rfl) ?_
    refine wpOp_storeL (ty := 54) (B := P6) (off := 0) (v := .agg C6) (d := none) (by kernel_rfl) hr6 ?_
    have hwP : w.heap.size ≤ P6 := Nat.le_trans hS.2.2.size hgP
    have hS6 : Blk W6 B2 G 25 ∧ Blk W6 B3 C 54 ∧ Below w.heap.size w W6 := ⟨hS1.1.other q6 (by have := hS.1.lt; omega), hS1.2.1.other q6 (by have := hS.2.1.lt; omega), q6.below _ _ hwP hS1.2.2⟩
    replace o6 := ob_oth o6 hwP q6
    refine ⟨hS6, ?_⟩
    refine wpAnyH_sym (by kernel_rfl) (fun _ _ _ _ _ h => h) hS6 [(12, none)] (l' := #[true, true, true, true, true, true, true, true, true, true, true, true, true]) (a' := { tmps := #[.agg G, .agg C, .pointer (some ⟨B2, 0, none⟩), .pointer (some ⟨B3, 0, none⟩), u4, .int .i64 k, .pointer (some ⟨P6, 0, none⟩), .bool (fnd X i).isSome, .int .i64 k, .pointer (some ⟨B3, 5, none⟩), .slice (some ⟨b, off, none⟩) nl cl, .int .i64 nl, .bool true, u13, u14, .tuple #[.agg C6, .bool (fnd X i).isSome], .agg G, .pointer (some ⟨B3, 5, none⟩), .slice (some ⟨b, off, none⟩) nl cl, .int .i64 k, .pointer (some ⟨b, off + k, none⟩), .int .u64 i, .tuple #[.agg C6, .bool (fnd X i).isSome], .agg C6, .bool (fnd X i).isSome, u25, u26, u27, u28, u29, u30, u31, u32, u33, u34, undef, undef, undef, undef, undef, undef, undef, undef, undef, undef, undef], defers := [] }) (obs := []) (n := 0) (by kernel_rfl) (by kernel_rfl) trivial ?_
    refine wpAnyH_done (by kernel_rfl) ?_ _
    obtain ⟨hB2, hB3, hk⟩ := hS6
    clear hS hS1 hP0 hgP hr6 q6 kv
    have hpi : Hid (p i = ((fnd X i).isSome && plcB o.label (fO X i).label)) := by show p i = _; rw [hp.out]
    have hlo := fO_lab hlb i
    obtain ⟨aO, nO, cO, cx2, hLO⟩ := o6.label
    have hnO : nO < 1048576 := by rw [← hLO.1]; exact hlo.2
    have hL6 : Lab W6.heap.size W6 aO nO cO (fO X i).label := hLO.lab fun b hb => Nat.lt_of_lt_of_le hb hk.size
    have hpl := rplace_any (Lab.next hL0 hk) hL6 hnD hnO hol.1 hlo.1
    change Calls Try.prog _ _ W6 fun e w' => e = .returned (.bool (plcB o.label (fO X i).label)) ∧ _ at hpl
    generalize (fnd X i).isSome = bf at hpi ⊢
    generalize plcB o.label (fO X i).label = bp at hpi hpl
    clear hL6 hLO hlo o6
    cases bf with
    | false =>
     have hz0 := hno (by rw [hpi.out]; rfl)
     go_wp2
     go_ret
     exact ⟨by rw [hz0]; rfl, hk⟩
    | true =>
     cases bp with
     | false =>
      have hz0 := hno (by rw [hpi.out]; rfl)
      go_wp2_with (first
       | (with_reducible refine wpList_load1 (by kernel_rfl) _ _ rfl B3 _ rfl _ _ hB3 _ c2 Try.isAgg39 ?_)
       | (with_reducible refine wpList_load1 (by kernel_rfl) _ _ rfl P6 _ rfl _ _ hP6 _ cx2 Try.isAgg39 ?_)
       | (go_at_call 57; (with_reducible refine hpl.mono ?_); rintro e w7 ⟨rfl, hb7⟩; replace hk := hk.trans (hb7.mono hk.size)))
      go_ret
      exact ⟨by rw [hz0]; rfl, hk⟩
     | true =>
      have hy1 := hyes (by rw [hpi.out]; rfl)
      go_wp2_with (first
       | (with_reducible refine wpList_load1 (by kernel_rfl) _ _ rfl B3 _ rfl _ _ hB3 _ c2 Try.isAgg39 ?_)
       | (with_reducible refine wpList_load1 (by kernel_rfl) _ _ rfl P6 _ rfl _ _ hP6 _ cx2 Try.isAgg39 ?_)
       | (go_at_call 57; (with_reducible refine hpl.mono ?_); rintro e w7 ⟨rfl, hb7⟩; replace hB2 := hB2.next hb7; replace hB3 := hB3.next hb7; replace hk := hk.trans (hb7.mono hk.size)))
      go_roundw
      case rel => exact ⟨k + 1, by omega, by go_num, hy1, hB2, hB3, hk⟩
      case measure => simp [intOf]; omega
   ·refine wpAnyH_two (i := 6) (j := 10) (n := 6) rfl (by kernel_rfl) ?_ ?_
    ·refine wpOp_callL (f := 16) (vs := [.agg G, .int .u64 i]) (d := some 22) (by kernel_rfl) Try.call16 (hfd hS.2.2) ?_
     rintro e z1 ⟨C6, rfl, o6, hb101⟩
     have k1 := (Below.refl v6.heap.size v6).trans (hb101.mono (Below.refl v6.heap.size v6).size)
     have hS1 : Blk z1 B2 G 25 ∧ Blk z1 B3 C 54 ∧ Below w.heap.size w z1 := ⟨hS.1.next hb101, hS.2.1.next hb101, hS.2.2.trans (hb101.mono hS.2.2.size)⟩
     refine ⟨_, rfl, hS1, ?_⟩
     refine wpAnyH_pure (by kernel_rfl) (fun _ _ _ _ _ h => h) hS1 [7, 8, 9] (l' := #[true, true, true, true, true, true, true, true, true, true, false, false, false]) (a' := { tmps := #[.agg G, .agg C, .pointer (some ⟨B2, 0, none⟩), .pointer (some ⟨B3, 0, none⟩), u4, .int .i64 k, u6, u7, .int .i64 k, .pointer (some ⟨B3, 5, none⟩), .slice (some ⟨b, off, none⟩) nl cl, .int .i64 nl, .bool true, u13, u14, .tuple #[.agg C6, .bool (fnd X i).isSome], .agg G, .pointer (some ⟨B3, 5, none⟩), .slice (some ⟨b, off, none⟩) nl cl, .int .i64 k, .pointer (some ⟨b, off + k, none⟩), .int .u64 i, .tuple #[.agg C6, .bool (fnd X i).isSome], .agg C6, .bool (fnd X i).isSome, u25, u26, u27, u28, u29, u30, u31, u32, u33, u34, undef, undef, undef, undef, undef, undef, undef, undef, undef, undef, undef], defers := [] }) (n := 3) (by kernel_rfl) (by kernel_rfl) ?_
     refine wpAnyH_single (i := 10) (n := 2) rfl (by kernel_rfl) ?_
     refine wpOp_allocL (ty := 54) (z := zC) (d := some 6) (by kernel_rfl) zero40 ?_
     intro P6 z2 hN hP6 hb102
     have hgP : v6.heap.size ≤ P6 := by have := hN.out; have := k1.size; omega
     replace o6 := ob_lt o6 hS1.2.2 hb102
     have k2 := k1.trans (hb102.mono k1.size)
     have hS2 : Blk z2 B2 G 25 ∧ Blk z2 B3 C 54 ∧ Below w.heap.size w z2 := ⟨hS1.1.next hb102, hS1.2.1.next hb102, hS1.2.2.trans (hb102.mono hS1.2.2.size)⟩
     refine ⟨hS2, ?_⟩
     exact rest _ _ ⟨P6, C6, rfl, hS2, hP6, hgP, o6, k2⟩
    ·refine wpOp_allocL (ty := 54) (z := zC) (d := some 6) (by kernel_rfl) zero40 ?_
     intro P6 z3 hN hP6 hb103
     have hgP : v6.heap.size ≤ P6 := by have := hN.out; have := (Below.refl v6.heap.size v6).size; omega
     have k3 := (Below.refl v6.heap.size v6).trans (hb103.mono (Below.refl v6.heap.size v6).size)
     have hS3 : Blk z3 B2 G 25 ∧ Blk z3 B3 C 54 ∧ Below w.heap.size w z3 := ⟨hS.1.next hb103, hS.2.1.next hb103, hS.2.2.trans (hb103.mono hS.2.2.size)⟩
     refine ⟨hS3, ?_⟩
     refine wpAnyH_single (i := 6) (n := 5) rfl (by kernel_rfl) ?_
     refine wpOp_callL (f := 16) (vs := [.agg G, .int .u64 i]) (d := some 22) (by kernel_rfl) Try.call16 (hfd hS3.2.2) ?_
     rintro e z4 ⟨C6, rfl, o6, hb104⟩
     replace hP6 := hP6.next hb104
     have k4 := k3.trans (hb104.mono k3.size)
     have hS4 : Blk z4 B2 G 25 ∧ Blk z4 B3 C 54 ∧ Below w.heap.size w z4 := ⟨hS3.1.next hb104, hS3.2.1.next hb104, hS3.2.2.trans (hb104.mono hS3.2.2.size)⟩
     refine ⟨_, rfl, hS4, ?_⟩
     refine wpAnyH_pure (by kernel_rfl) (fun _ _ _ _ _ h => h) hS4 [7, 8, 9] (l' := #[true, true, true, true, true, true, true, true, true, true, true, false, false]) (a' := { tmps := #[.agg G, .agg C, .pointer (some ⟨B2, 0, none⟩), .pointer (some ⟨B3, 0, none⟩), u4, .int .i64 k, .pointer (some ⟨P6, 0, none⟩), u7, .int .i64 k, .pointer (some ⟨B3, 5, none⟩), .slice (some ⟨b, off, none⟩) nl cl, .int .i64 nl, .bool true, u13, u14, .tuple #[.agg C6, .bool (fnd X i).isSome], .agg G, .pointer (some ⟨B3, 5, none⟩), .slice (some ⟨b, off, none⟩) nl cl, .int .i64 k, .pointer (some ⟨b, off + k, none⟩), .int .u64 i, .tuple #[.agg C6, .bool (fnd X i).isSome], .agg C6, .bool (fnd X i).isSome, u25, u26, u27, u28, u29, u30, u31, u32, u33, u34, undef, undef, undef, undef, undef, undef, undef, undef, undef, undef, undef], defers := [] }) (n := 2) (by kernel_rfl) (by kernel_rfl) ?_
     exact rest _ _ ⟨P6, C6, rfl, hS4, hP6, hgP, o6, k4⟩
  ·obtain rfl : k = nl := by omega
   rw [hfull] at hall
   go_wp2_with (first
    | (with_reducible refine wpList_load1 (by kernel_rfl) _ _ rfl B3 _ rfl _ _ hB3 _ c5 Try.isAgg28 ?_))
   refine PgM.region_out (S := fun W => Blk W B2 G 25 ∧ Blk W B3 C 54 ∧ Below w.heap.size w W) hmx ⟨hB2.next (Below.refl _ _).drew, hB3.next (Below.refl _ _).drew, hk.trans ((Below.refl _ _).drew.mono hk.size)⟩ (fun hS => ?_)
   generalize wr.drew = v6 at hS ⊢
   clear hB2 hB3 hk
   by_cases k2 : o.kind = 2
   ·have q1 : Hid (¬ ¬ o.kind = 2) := fun q => q k2
    refine wpAnyH_sym (by kernel_rfl) (fun _ _ _ _ _ h => h) hS [(0, none), (1, some (.int .i64 o.kind)), (2, some (.bool false)), (3, none), (4, some (.agg G)), (5, some (.agg C)), (7, none), (8, some (.int .i64 o.quota))] (l' := #[true, true, true, true, true, true, false, true, true, false, false, false]) (a' := { tmps := #[.agg G, .agg C, .pointer (some ⟨B2, 0, none⟩), .pointer (some ⟨B3, 0, none⟩), u4, .int .i64 k, u6, u7, .int .i64 k, .pointer (some ⟨B3, 5, none⟩), .slice al k cl, .int .i64 k, .bool false, u13, u14, u15, u16, u17, u18, u19, u20, u21, u22, u23, u24, u25, u26, u27, u28, u29, u30, u31, u32, u33, u34, .pointer (some ⟨B3, 1, none⟩), .int .i64 o.kind, .bool false, .bool false, .agg G, .agg C, undef, .pointer (some ⟨B3, 3, none⟩), .int .i64 o.quota, undef, undef], defers := [] }) (obs := [.load 3 B3 1 (.int .i64 o.kind), .test .neq 3 (.tmp 36) (.const (.int .i64 2)) (.int .i64 o.kind) (.int .i64 2) (.bool false), .load 25 B2 0 (.agg G), .load 54 B3 0 (.agg C), .load 3 B3 3 (.int .i64 o.quota)]) (n := 4) (by kernel_rfl) (by kernel_rfl) ⟨ob_load1 (fun _ h => h.2.1) c1 Try.isAgg3, ob_no (fun _ => neg_int _ _ _ _ _ _) q1, ob_loadb (fun _ h => h.1) Try.underlying25 (by kernel_rfl) hzw, ob_loadb (fun _ h => h.2.1) Try.underlying54 (by kernel_rfl) (size40C hz), ob_load1 (fun _ h => h.2.1) c3 Try.isAgg3, trivial⟩ ?_
    refine wpAnyH_callL (i := 6) (fuel := 3) (f := 40) (vs := [.agg G, .agg C]) (d := some 41) (by kernel_rfl) (by kernel_rfl) (by kernel_rfl) Try.call40 (hus _ hS.2.2) ?_
    rintro e v7 ⟨rfl, hb7⟩
    have hS2 : Blk v7 B2 G 25 ∧ Blk v7 B3 C 54 ∧ Below w.heap.size w v7 := ⟨hS.1.next hb7, hS.2.1.next hb7, hS.2.2.trans (hb7.mono hS.2.2.size)⟩
    refine ⟨_, rfl, hS2, ?_⟩
    by_cases q3 : us ≤ o.quota
    ·replace q3 : Hid (us ≤ o.quota) := q3
     refine wpAnyH_sym (by kernel_rfl) (fun _ _ _ _ _ h => h) hS2 [(9, some (.bool true)), (10, none), (11, none)] (l' := #[true, true, true, true, true, true, true, true, true, true, true, true]) (a' := { tmps := #[.agg G, .agg C, .pointer (some ⟨B2, 0, none⟩), .pointer (some ⟨B3, 0, none⟩), .bool true, .int .i64 k, u6, u7, .int .i64 k, .pointer (some ⟨B3, 5, none⟩), .slice al k cl, .int .i64 k, .bool false, u13, u14, u15, u16, u17, u18, u19, u20, u21, u22, u23, u24, u25, u26, u27, u28, u29, u30, u31, u32, u33, u34, .pointer (some ⟨B3, 1, none⟩), .int .i64 o.kind, .bool false, .bool false, .agg G, .agg C, .int .i64 us, .pointer (some ⟨B3, 3, none⟩), .int .i64 o.quota, .bool true, .bool true], defers := [] }) (obs := [.test .leq 3 (.tmp 41) (.tmp 43) (.int .i64 us) (.int .i64 o.quota) (.bool true)]) (n := 0) (by kernel_rfl) (by kernel_rfl) ⟨ob_yes (fun _ => tle_int _ _ _ _ _ _) q3, trivial⟩ ?_
     refine wpAnyH_done (by kernel_rfl) ?_ _
     go_wp2
     go_ret
     exact ⟨by rw [hall.out]; simp [q3.out], hS2.2.2⟩
    ·replace q3 : Hid (¬ us ≤ o.quota) := q3
     refine wpAnyH_sym (by kernel_rfl) (fun _ _ _ _ _ h => h) hS2 [(9, some (.bool false)), (10, none), (11, none)] (l' := #[true, true, true, true, true, true, true, true, true, true, true, true]) (a' := { tmps := #[.agg G, .agg C, .pointer (some ⟨B2, 0, none⟩), .pointer (some ⟨B3, 0, none⟩), .bool false, .int .i64 k, u6, u7, .int .i64 k, .pointer (some ⟨B3, 5, none⟩), .slice al k cl, .int .i64 k, .bool false, u13, u14, u15, u16, u17, u18, u19, u20, u21, u22, u23, u24, u25, u26, u27, u28, u29, u30, u31, u32, u33, u34, .pointer (some ⟨B3, 1, none⟩), .int .i64 o.kind, .bool false, .bool false, .agg G, .agg C, .int .i64 us, .pointer (some ⟨B3, 3, none⟩), .int .i64 o.quota, .bool false, .bool false], defers := [] }) (obs := [.test .leq 3 (.tmp 41) (.tmp 43) (.int .i64 us) (.int .i64 o.quota) (.bool false)]) (n := 0) (by kernel_rfl) (by kernel_rfl) ⟨ob_no (fun _ => tle_int _ _ _ _ _ _) q3, trivial⟩ ?_
     refine wpAnyH_done (by kernel_rfl) ?_ _
     go_wp2
     go_ret
     exact ⟨by rw [hall.out]; simp [q3.out], hS2.2.2⟩
   ·have q1 : Hid (¬ o.kind = 2) := k2
    refine wpAnyH_sym (by kernel_rfl) (fun _ _ _ _ _ h => h) hS [(0, none), (1, some (.int .i64 o.kind)), (2, some (.bool true)), (3, none), (4, none), (5, none), (6, none), (7, none), (8, none), (9, none), (10, none), (11, none)] (l' := #[true, true, true, true, true, true, true, true, true, true, true, true]) (a' := { tmps := #[.agg G, .agg C, .pointer (some ⟨B2, 0, none⟩), .pointer (some ⟨B3, 0, none⟩), .bool true, .int .i64 k, u6, u7, .int .i64 k, .pointer (some ⟨B3, 5, none⟩), .slice al k cl, .int .i64 k, .bool false, u13, u14, u15, u16, u17, u18, u19, u20, u21, u22, u23, u24, u25, u26, u27, u28, u29, u30, u31, u32, u33, u34, .pointer (some ⟨B3, 1, none⟩), .int .i64 o.kind, .bool true, .bool true, undef, undef, undef, undef, undef, undef, .bool true], defers := [] }) (obs := [.load 3 B3 1 (.int .i64 o.kind), .test .neq 3 (.tmp 36) (.const (.int .i64 2)) (.int .i64 o.kind) (.int .i64 2) (.bool true)]) (n := 0) (by kernel_rfl) (by kernel_rfl) ⟨ob_load1 (fun _ h => h.2.1) c1 Try.isAgg3, ob_yes (fun _ => neg_int _ _ _ _ _ _) q1, trivial⟩ ?_
    refine wpAnyH_done (by kernel_rfl) ?_ _
    go_wp2
    go_ret
    exact ⟨by rw [hall.out]; simp [k2], hS.2.2⟩
end Go.Proofs.Ytobcdaaghdljbaa
