/-
 PROVED HERE: what slices.Index of words, and package sweep's place, return when they are called (contracts over this transl. What is asked stands at each.
-/
import Derived.RangeFuncBox
import Derived.Test.YtobcdaaghdljbaaY12
import Derived.Test.YtobcdaaghdljbaaY13
import Derived.Test.YtobcdaaghdljbaaY19
import Derived.Test.YtobcdaaghdljbaaY23
import Derived.Test.YtobcdaaghdljbaaY25
namespace Go.Proofs.Ytobcdaaghdljbaa
set_option maxRecDepth 100000
set_option maxHeartbeats 8000000
open Go.RowKit Go.Shelf
set_option linter.unusedVariables false
attribute [local go_sem] Oper.semAt_some

def AtP (L : List Int) (i r : Int) : Prop := (0 ≤ r ↔ i ∈ L) ∧ -1 ≤ r ∧ (0 ≤ r → r.toNat < L.length ∧ L.getD r.toNat 0 = i)
theorem indexP_any {w : World} {al : Option Addr} {nl cl : Nat} {L : List Int} {i : Int} (h : CtD (LtN w) w al nl cl L) : Calls Try.prog 47 #[.slice al nl cl, .int .u64 i] w fun e w' => ∃ r : Int, e = .returned (.int .i64 r) ∧ Hid (AtP L i r) ∧ w' = w := by
 have hn : Hid (L.length = nl) := h.1
 have hnc := h.2.1
 have hcm := h.2.2.1.1
 have ga1 := Try.isAgg22
 go_enter Try.func47, Try.ntmps47
 go_wp2
 go_loopw [8] (fun j wr => ∃ k : Nat, k ≤ nl ∧ j = .int .i64 k ∧ Hid (∀ q, q < k → L.getD q 0 ≠ i) ∧ wr = w) (fun j _ => nl - (intOf j).toNat)
 case atStart => exact ⟨0, Nat.zero_le _, rfl, fun q hq => absurd hq (by omega), rfl⟩
 case round =>
  obtain ⟨k, hk, rfl, hal, rfl⟩ := hrel
  by_cases hkn : k < nl
  ·obtain ⟨b, off, rfl, hb, hc⟩ := ct_at h hkn
   have hkn' : (k : Int) < nl := by omega
   go_wp2_with (first
    | (with_reducible refine wpList_loadc (by kernel_rfl) _ _ rfl b _ rfl _ hc ga1 ?_)
    | ((with_reducible refine wpList_test (by kernel_rfl) .eql _ _ _ _ rfl _ _ rfl rfl (eqg_int _ _ _ _ _ _) ?_ ?_) <;> intro hq))
   ·go_ret
    refine ⟨(k : Int), rfl, ⟨⟨fun _ => ?_, fun _ => by omega⟩, by omega, fun _ => ⟨by have := hn.out; omega, hq.out.symm⟩⟩, rfl⟩
    rw [hq.out]
    exact getD_mem (by rw [hn.out]; exact hkn)
   ·go_roundw
    case rel => exact ⟨k + 1, by omega, by go_num, fn_succ hal.out (fun e => hq.out e.symm), trivial⟩
    case measure => simp [intOf]; omega
  ·obtain rfl : k = nl := by omega
   go_wp2
   go_ret
   have hq : ¬ i ∈ L := by
    intro e
    obtain ⟨j, hj, q⟩ := List.getElem_of_mem e
    have := hal.out j (by rw [← hn.out]; exact hj)
    rw [List.getD_eq_getElem?_getD, List.getElem?_eq_getElem hj] at this
    exact this q
   exact ⟨-1, rfl, ⟨⟨fun e => absurd e (by decide), fun e => absurd e hq⟩, by decide, fun e => absurd e (by decide)⟩, rfl⟩
theorem place_v {w : World} {t ke ro : Int} {ao : Option Addr} {n cap : Nat} {X : List Ob} {d i : Int} (h : Obs w ao n cap X) (hs : Srt X) (hn16 : n ≤ 4096) (hsm : Smalls X) : Calls Try.prog 20 #[.agg #[.int .i64 t, .int .u64 ke, .int .u64 ro, .slice ao n cap], .int .u64 d, .int .u64 i] w fun e w' => ∃ C' r, e = .returned (.tuple #[.agg C', .int .i64 r]) ∧ ObD (New w w') w' C' (fO X d) ∧ Hid (AtP (fO X d).links i r) ∧ Below w.heap.size w w' ∧ ∃ M, LbV (fun b => New w w' b ∧ b < M) w' C'[2]? (fO X d).label ∧ (∃ ao n cap, C'[5]? = some (.slice ao n cap) ∧ w'.ownsRow M 22 1 (.slice ao n cap) n (wordsC (fO X d).links)) ∧ w.heap.size ≤ M := by
 have hmx : Try.prog.follows .mixedOrders = true := by kernel_rfl
 have ga4 := Try.isAgg28
 have hfd := fun (W : World) (hk : Below w.heap.size w W) => find_l (t := t) (ke := ke) (ro := ro) (i := d) (obs_next h hk) hs hn16 hsm
 have hzG : (Try.prog.info? 25).map (·.size) = some (#[.int .i64 t, .int .u64 ke, .int .u64 ro, .slice ao n cap] : Array Value).size := by kernel_rfl
 have hx : (fnd X d).getD zOb = fO X d := by unfold fO; cases fnd X d <;> rfl
 rw [hx] at hfd
 clear hx
 generalize fO X d = x at hfd ⊢
 obtain ⟨G, hG⟩ : ∃ G : Array Value, G = #[.int .i64 t, .int .u64 ke, .int .u64 ro, .slice ao n cap] := ⟨_, rfl⟩
 rw [← hG] at hzG hfd
 rw [← hG]
 clear hG
 have tk1 : True := trivial
 go_enter Try.func20, Try.ntmps20
 go_upto_region 2 with (first
  | go_skip
  | (with_reducible refine wpList_box rfl _ _ rfl G rfl ?_; intro B W0 hN0 hB hk)
  | ((with_reducible refine wpList_alloc rfl _ rfl zC zero40 ?_); have hx := tk1; clear hx tk1; intro R W1 hN1 hR hk1; have hRw : Hid (w.heap.size ≤ R) := (by have := hN1.out; have := hk.size; show _ ≤ _; omega); replace hB := hB.next hk1; replace hk := hk.trans (hk1.mono hk.size))
  | (with_reducible refine wpList_load_blk rfl _ _ rfl B rfl _ hB _ Try.underlying25 rfl hzG ?_)
  | (go_at_call 46; (with_reducible refine (hfd _ hk).mono ?_); rintro e w3 ⟨C, rfl, hC, hb3, M, hM2, ⟨am, nm, cm, e5, hM5⟩, hMw⟩; have hMk := hk.size; replace hR := hR.next hb3)
  | ((with_reducible refine wpList_alloc rfl _ rfl zC zero40 ?_); intro P W4 hN4 hP hk4)
  | ((with_reducible refine wpList_store_blk rfl _ _ _ rfl P rfl C rfl zC hP (size40C hC.size) (zC_size.trans hC.size.symm) hC.one ?_); intro W5 hP5 o5))
 have hRP : Hid (R < W1.heap.size ∧ W1.heap.size ≤ P ∧ w3.heap.size = P) := ⟨by have := hN1.out; omega, by have := hN4.out; have := hb3.size; omega, hN4.out.1⟩
 have k5 : Below w.heap.size w W5 := o5.below _ _ (by have := hRP.out; have := hMk; omega) (hk.trans ((hb3.trans (hk4.mono hb3.size)).mono hk.size))
 have hP := hP5
 have hR5 := ((hR.next hk4).other o5 (by have := hRP.out; omega)).next (Below.refl W5.heap.size W5).drew
 have hdr := (Below.refl W5.heap.size W5).drew
 have old : ∀ b, b < P → W5.drew.heap[b]? = w3.heap[b]? := fun b hb => (hdr.block b (by have := hP5.lt; omega)).trans ((o5.block b (by omega)).trans (hk4.block b (by have := hRP.out; omega)))
 have hsz5 : Hid (P < W5.drew.heap.size) := Nat.lt_of_lt_of_le hP5.lt hdr.size
 refine PgM.region_out (S := fun W => Blk W P C 54 ∧ Below w.heap.size w W) hmx (⟨hP.next (Below.refl _ _).drew, k5.trans ((Below.refl _ _).drew.mono k5.size)⟩) (fun hS2 => ?_)
 clear hdr
 generalize W5.drew = v2 at hS2 hR5 old hsz5 ⊢
 have hL2 : CtD (LtN v2) v2 am nm cm x.links := ((ct_owns hM5).laterK fun b hb => old b (by have := hb.2; have := hRP.out; omega)).wide fun b hb => by have := hb.2; have := hRP.out; have := hsz5.out; show b < _; omega
 refine wpAnyH_sym (by kernel_rfl) (fun _ _ _ _ _ h => h) hS2 [(0, some (.agg C)), (1, none), (2, some (.slice am nm cm)), (3, none)] (l' := #[true, true, true, true, false, false, false]) (a' := { tmps := #[.agg G, .int .u64 d, .int .u64 i, .pointer (some ⟨B, 0, none⟩), ud, undef, .pointer (some ⟨R, 0, none⟩), .int .i64 0, .pointer (some ⟨P, 0, none⟩), .bool (fnd X d).isSome, .tuple #[.agg C, .bool (fnd X d).isSome], .agg G, .int .u64 d, .tuple #[.agg C, .bool (fnd X d).isSome], .agg C, .bool (fnd X d).isSome, .agg C, .pointer (some ⟨P, 5, none⟩), .slice am nm cm, .int .u64 i, undef], defers := [] }) (obs := [.load 54 P 0 (.agg C), .load 28 P 5 (.slice am nm cm)]) (n := 3) (by kernel_rfl) (by kernel_rfl) ⟨ob_loadb (fun W hS => hS.1) Try.underlying54 (by kernel_rfl) (size40C hC.size), ob_load1 (fun W hS => hS.1) e5 ga4, trivial⟩ ?_
 refine wpAnyH_single (i := 4) (n := 2) rfl (by kernel_rfl) ?_
 refine wpOp_callL (f := 47) (vs := [.slice am nm cm, .int .u64 i]) (d := some 20) (by kernel_rfl) Try.call47 (indexP_any hL2) ?_
 rintro e z1 ⟨r, rfl, hr, rfl⟩
 refine ⟨_, rfl, hS2, ?_⟩
 obtain ⟨W6, hr6, hR6, o6⟩ := run_store_blk hR5 (size40C hC.size) (zC_size.trans hC.size.symm) hC.one
 refine wpAnyH_single (i := 5) (n := 1) rfl (by kernel_rfl) ?_
 refine wpOp_storeL (ty := 54) (B := R) (off := 0) (v := .agg C) (d := none) (by kernel_rfl) hr6 ?_
 have hS6 : Blk W6 P C 54 ∧ Below w.heap.size w W6 := ⟨hS2.1.other o6 (by have := hRP.out; omega), o6.below _ _ hRw.out hS2.2⟩
 refine ⟨hS6, ?_⟩
 refine wpAnyH_sym (by kernel_rfl) (fun _ _ _ _ _ h => h) hS6 [(6, none)] (l' := #[true, true, true, true, true, true, true]) (a' := { tmps := #[.agg G, .int .u64 d, .int .u64 i, .pointer (some ⟨B, 0, none⟩), ud, undef, .pointer (some ⟨R, 0, none⟩), .int .i64 r, .pointer (some ⟨P, 0, none⟩), .bool (fnd X d).isSome, .tuple #[.agg C, .bool (fnd X d).isSome], .agg G, .int .u64 d, .tuple #[.agg C, .bool (fnd X d).isSome], .agg C, .bool (fnd X d).isSome, .agg C, .pointer (some ⟨P, 5, none⟩), .slice am nm cm, .int .u64 i, .int .i64 r], defers := [] }) (obs := []) (n := 0) (by kernel_rfl) (by kernel_rfl) trivial ?_
 refine wpAnyH_done (by kernel_rfl) ?_ _
 go_wp2
 refine bodyPost_ret (v := .tuple #[.agg C, .int .i64 r]) (res40b Try.results20 rfl rfl hR6 hC.size) rfl ?_
 have new : ∀ b, New W1 w3 b → W6.heap[b]? = w3.heap[b]? := fun b hb => (o6.block b (by have := hb.1; have := hRP.out; omega)).trans (old b (by have := hb.2; have := hRP.out; omega))
 have wid : ∀ b, New W1 w3 b → New w W6 b := fun b hb => ⟨by have := hb.1; omega, by have := hb.2; have := hRP.out; have := hsz5.out; rw [o6.size]; omega⟩
 exact ⟨C, r, rfl, (hC.laterK new).wide wid, hr, hS6.2, M, (hM2.laterK fun b hb => new b hb.1).wide fun b hb => ⟨wid b hb.1, hb.2⟩, ⟨am, nm, cm, e5, owns_later hM5 fun b hb hl => new b ⟨by omega, hl⟩⟩, by omega⟩
end Go.Proofs.Ytobcdaaghdljbaa
namespace Go.Proofs.Ytobcdaaghdljbaa
set_option maxRecDepth 100000
set_option maxHeartbeats 8000000
open Go.RowKit Go.Shelf
set_option linter.unusedVariables false
attribute [local go_sem] Oper.semAt_some

def goB (f : Int → Option Int) (i : Int) : Bool := (f i).isSome && decide ((f i).getD 0 ≤ 0)
def hitR (X : List Ob) (f : Int → Option Int) (k : Nat) : List Nat := (List.range k).filter fun j => goB f (oat X j).id
theorem hitR_succ (X : List Ob) (f : Int → Option Int) (k : Nat) : hitR X f (k + 1) = hitR X f k ++ if goB f (oat X k).id = true then [k] else [] := by
 unfold hitR
 rw [List.range_succ, List.filter_append]
 congr 1
 by_cases h : goB f (oat X k).id = true <;> simp [h]
theorem hitR_pre (X : List Ob) (f : Int → Option Int) {k n : Nat} (h : k ≤ n) : hitR X f k <+: hitR X f n := by
 obtain ⟨d, rfl⟩ := Nat.le.dest h
 induction d with
 | zero => exact List.prefix_refl _
 | succ d ih => exact (ih (by omega)).trans (by rw [← Nat.add_assoc, hitR_succ X f (k + d)]; exact List.prefix_append _ _)
theorem hitR_ids (X : List Ob) (f : Int → Option Int) : (hitR X f X.length).map (fun k => (oat X k).id) = (X.map Ob.id).filter (goB f) := by
 have key : ∀ k, k ≤ X.length → (hitR X f k).map (fun j => (oat X j).id) = ((X.take k).map Ob.id).filter (goB f) := by
  intro k
  induction k with
  | zero => intro _; rfl
  | succ k ih =>
   intro h
   rw [hitR_succ, List.map_append, ih (by omega), List.take_add_one, List.getElem?_eq_getElem (by omega), Option.toList_some, List.map_append, List.filter_append]
   congr 1
   have e : oat X k = X[k] := oat_get (by omega)
   rw [e]
   by_cases g : goB f X[k].id = true <;> simp [g, e]
 have := key X.length (Nat.le_refl _)
 rwa [List.take_length] at this
def encG (X : List Ob) (k : Nat) : Array Value := #[.int .u64 (oat X k).id]
section
variable {F : Fence} (hF : ∀ f, F.fn f) {N : Nat} {ops : Array Oper} {rest : List Oper} {op : Oper} {a : Act} {Q : Exit → Act → World → Prop} {w : World}
include hF
theorem inL_okT (hw : Region.wanted op (yielded ops a.tmps) = true) (x y : Operand) (ho : op.op = .lookup 74 x y true) (M : Nat) (hx : a.eval x = .map (some M)) (k : Int) (hy : a.eval y = .int .u64 k) (f : Int → Option Int) (hm : MapT w M f)
  (h : wpListIn F N Try.prog ops Q rest (a.put op.dst (.tuple #[.int .i64 ((f k).getD 0), .bool (f k).isSome])) w) : wpListIn F N Try.prog ops Q (op :: rest) a w := by
 refine inL_val hF (by rw [ho]; intro c hc; cases hc) hw ?_ h
 unfold execOp
 simp [ho, hx, hy, mapT_ok hm k]
end
theorem gone1_in (N : Nat) (hN : 1 ≤ N) (l Bw Bm M : Nat) (D : Nat → Prop) {t ke ro : Int} {ao : Option Addr} {n cap : Nat} {X : List Ob} {f : Int → Option Int} (J Jx : List Nat → World → Prop)
  (hY : ∀ pre x W, J pre W → pre.length < (hitR X f n).length → YieldAt Fence.wide (N - 1) Try.prog l (encG X x) W fun e W' =>
   (e = .returned (.bool true) ∧ J (pre ++ [x]) W' ∧ Keeps D W W') ∨ (e = .returned (.bool false) ∧ Jx (pre ++ [x]) W'))
  (W : World) (hJ : AbidesFrom W.heap.size J) (hD : ∀ b, D b → b < W.heap.size) (hDw : D Bw) (hDm : D Bm) (hDM : D M) (hBw : Blk W Bw #[.int .i64 t, .int .u64 ke, .int .u64 ro, .slice ao n cap] 25) (hBm : Blk W Bm #[.map (some M)] 74) (hM : MapT W M f)
  (hX : ObsD D D W ao n cap X) (h0 : J [] W) :
  CallsIn Fence.wide N Try.prog 55 #[.func (.yield l) #[] #[], .pointer (some ⟨Bw, 0, none⟩), .pointer (some ⟨Bm, 0, none⟩)] W fun e W' => (∃ v, e = .returned v) ∧
   ((∃ ys, ys = hitR X f n ∧ J ys W') ∨ (∃ pre, pre <+: hitR X f n ∧ Jx pre W')) := by
 have hn : Hid (X.length = n) := hX.1
 have hnc := hX.2.1
 have hcm := hX.2.2.1.1
 have ga1 := Try.isAgg22
 have ga3 := Try.isAgg23
 have ga5 := Try.isAgg74
 have hc3 : W.cell? ⟨Bw, 3, none⟩ = some (.slice ao n cap) := (hBw.cell 3).trans rfl
 have hcm0 : W.cell? ⟨Bm, 0, none⟩ = some (.map (some M)) := (hBm.cell 0).trans rfl
 refine callsIn_of_wp Try.func55 rfl trivial ?_ rfl
 simp only [Try.ntmps55, List.size_toArray, List.length_cons, List.length_nil, Nat.reduceAdd, Nat.reduceSub, Array.replicate_succ, Array.replicate_zero, List.push_toArray, List.append_toArray, List.nil_append, List.cons_append]
 gi_wp2
 gi_loopw [11] (fun i wr => ∃ k : Nat, k ≤ n ∧ i = .int .i64 k ∧ Keeps D W wr ∧ J (hitR X f k) wr) (fun i _ => n - (intOf i).toNat)
 case atStart => exact ⟨0, Nat.zero_le _, rfl, Keeps.refl _ _, h0⟩
 case round =>
  obtain ⟨k, hk, rfl, hkp, hJk⟩ := hrel
  by_cases hkn : k < n
  ·have hkn' : (k : Int) < n := by omega
   obtain ⟨b, off, rfl, hDb, hcc⟩ := hX.2.2.2 (by omega)
   obtain ⟨C, hC, hr⟩ := hcc k hkn
   replace hr := range_block hr (hkp.2 b hDb)
   have hsu := hitR_succ X f k
   have hpre := hitR_pre X f (show k + 1 ≤ n by omega)
   have hz := hC.size
   have c0 := hC.id
   have hMr : MapT wr M f := hM.block (hkp.2 M hDM)
   have hcm1 : wr.cell? ⟨Bm, 0, none⟩ = some (.map (some M)) := (World.cell?_of_block (w := W) (a := ⟨Bm, 0, none⟩) (hkp.2 Bm hDm)).trans hcm0
   have hid : Hid ((oat X k).id = (oat X k).id) := rfl
   obtain ⟨i, hi⟩ : ∃ i, Hid ((oat X k).id = i) := ⟨_, rfl⟩
   rw [hi.out] at c0 hsu
   obtain ⟨v, hv⟩ : ∃ v, Hid ((f i).getD 0 = v) := ⟨_, rfl⟩
   have hBl : Bm < wr.heap.size := Nat.lt_of_lt_of_le (hD Bm hDm) hkp.1
   clear hid
   cases his : (f i).isSome with
   | false =>
    have hg : goB f i = false := by unfold goB; rw [his]; rfl
    rw [hg, if_neg (by decide), List.append_nil] at hsu
    replace hsu : Hid (hitR X f (k + 1) = hitR X f k) := hsu
    clear hg
    gi_wp2_with (first
     | (with_reducible refine inL_loadm (fun _ => trivial) (by kernel_rfl) 54 _ rfl b _ rfl C hr _ Try.underlying54 (by kernel_rfl) (size40C hz) ?_)
     | ((with_reducible refine inL_alloc (fun _ => trivial) (by kernel_rfl) _ rfl zC zero40 ?_); intro R W5 hN5 hR5 hk5)
     | ((with_reducible refine inL_store_blk (fun _ => trivial) (by kernel_rfl) _ _ _ rfl R rfl C rfl zC hR5 (size40C hz) (zC_size.trans hz.symm) hC.one ?_); intro W6 hR6 o6; have k6 : Below wr.heap.size wr W6 := o6.below wr.heap.size wr (by have := hN5.out; omega) hk5; have hm6 : W6.cell? ⟨Bm, 0, none⟩ = some (.map (some M)) := (k6.cell (p := ⟨Bm, 0, none⟩) hBl).trans hcm1; have c06 : W6.cell? ⟨R, 0, none⟩ = some (.int .u64 i) := (hR6.cell 0).trans c0; have hM6 := hMr.next k6)
     | (with_reducible refine inL_loadc (fun _ => trivial) (by kernel_rfl) _ _ rfl Bm _ rfl _ hm6 ga5 ?_)
     | (with_reducible refine inL_loadc (fun _ => trivial) (by kernel_rfl) _ _ rfl R _ rfl _ c06 ga1 ?_)
     | ((with_reducible refine inL_okT (fun _ => trivial) (by kernel_rfl) _ _ rfl M rfl i rfl f hM6 ?_); rw [his, hv.out]; skip))
    have hk1 : Keeps D wr W6 := ⟨k6.size, fun b hb => k6.block b (Nat.lt_of_lt_of_le (hD b hb) hkp.1)⟩
    have hJ1 := hJ _ wr W6 none hJk (below_grown k6) (fun r e => by cases e)
    refine ⟨fun f e => (by cases e), ?_⟩
    gi_wp2
    go_roundw
    case rel => exact ⟨k + 1, by omega, by go_num, hkp.trans hk1, by rw [hsu.out]; exact hJ1⟩
    case measure => simp [intOf]; omega
   | true =>
    by_cases hle : v ≤ 0
    ·have hg : goB f i = true := by unfold goB; rw [his, hv.out, decide_eq_true hle]; rfl
     rw [hg, if_pos rfl] at hsu
     replace hsu : Hid (hitR X f (k + 1) = hitR X f k ++ [k]) := hsu
     replace hpre : Hid (hitR X f (k + 1) <+: hitR X f n) := hpre
     clear hg
     gi_wp2_with (first
      | (with_reducible refine inL_loadm (fun _ => trivial) (by kernel_rfl) 54 _ rfl b _ rfl C hr _ Try.underlying54 (by kernel_rfl) (size40C hz) ?_)
      | ((with_reducible refine inL_alloc (fun _ => trivial) (by kernel_rfl) _ rfl zC zero40 ?_); intro R W5 hN5 hR5 hk5)
      | ((with_reducible refine inL_store_blk (fun _ => trivial) (by kernel_rfl) _ _ _ rfl R rfl C rfl zC hR5 (size40C hz) (zC_size.trans hz.symm) hC.one ?_); intro W6 hR6 o6; have k6 : Below wr.heap.size wr W6 := o6.below wr.heap.size wr (by have := hN5.out; omega) hk5; have hm6 : W6.cell? ⟨Bm, 0, none⟩ = some (.map (some M)) := (k6.cell (p := ⟨Bm, 0, none⟩) hBl).trans hcm1; have c06 : W6.cell? ⟨R, 0, none⟩ = some (.int .u64 i) := (hR6.cell 0).trans c0; have hM6 := hMr.next k6)
      | (with_reducible refine inL_loadc (fun _ => trivial) (by kernel_rfl) _ _ rfl Bm _ rfl _ hm6 ga5 ?_)
      | (with_reducible refine inL_loadc (fun _ => trivial) (by kernel_rfl) _ _ rfl R _ rfl _ c06 ga1 ?_)
      | ((with_reducible refine inL_okT (fun _ => trivial) (by kernel_rfl) _ _ rfl M rfl i rfl f hM6 ?_); rw [his, hv.out]; skip))
     have hk1 : Keeps D wr W6 := ⟨k6.size, fun b hb => k6.block b (Nat.lt_of_lt_of_le (hD b hb) hkp.1)⟩
     have hJ1 := hJ _ wr W6 none hJk (below_grown k6) (fun r e => by cases e)
     obtain ⟨fn, tmps, assign, body, hyy, hR⟩ := hY (hitR X f k) k W6 hJ1 (by have := hpre.out.length_le; rw [hsu.out] at this; simp at this; omega)
     dsimp only [encG] at hyy
     rw [hi.out] at hyy
     rw [hyy]
     gi_wp2
     refine hR.mono ?_
     rintro e W3 (⟨rfl, hJ3, hk3⟩ | ⟨rfl, hJx3⟩)
     ·gi_wp2
      go_roundw
      case rel => exact ⟨k + 1, by omega, by go_num, (hkp.trans hk1).trans hk3, by rw [hsu.out]; exact hJ3⟩
      case measure => simp [intOf]; omega
     ·gi_wp2
      refine bodyPost_ret (results_none rfl _ _ _) rfl ?_
      exact ⟨⟨_, rfl⟩, .inr ⟨_, by have h1 := hpre.out; rw [hsu.out] at h1; exact h1, hJx3⟩⟩
    ·have hg : goB f i = false := by unfold goB; rw [his, hv.out, decide_eq_false hle]; rfl
     rw [hg, if_neg (by decide), List.append_nil] at hsu
     replace hsu : Hid (hitR X f (k + 1) = hitR X f k) := hsu
     clear hg
     gi_wp2_with (first
      | (with_reducible refine inL_loadm (fun _ => trivial) (by kernel_rfl) 54 _ rfl b _ rfl C hr _ Try.underlying54 (by kernel_rfl) (size40C hz) ?_)
      | ((with_reducible refine inL_alloc (fun _ => trivial) (by kernel_rfl) _ rfl zC zero40 ?_); intro R W5 hN5 hR5 hk5)
      | ((with_reducible refine inL_store_blk (fun _ => trivial) (by kernel_rfl) _ _ _ rfl R rfl C rfl zC hR5 (size40C hz) (zC_size.trans hz.symm) hC.one ?_); intro W6 hR6 o6; have k6 : Below wr.heap.size wr W6 := o6.below wr.heap.size wr (by have := hN5.out; omega) hk5; have hm6 : W6.cell? ⟨Bm, 0, none⟩ = some (.map (some M)) := (k6.cell (p := ⟨Bm, 0, none⟩) hBl).trans hcm1; have c06 : W6.cell? ⟨R, 0, none⟩ = some (.int .u64 i) := (hR6.cell 0).trans c0; have hM6 := hMr.next k6)
      | (with_reducible refine inL_loadc (fun _ => trivial) (by kernel_rfl) _ _ rfl Bm _ rfl _ hm6 ga5 ?_)
      | (with_reducible refine inL_loadc (fun _ => trivial) (by kernel_rfl) _ _ rfl R _ rfl _ c06 ga1 ?_)
      | ((with_reducible refine inL_okT (fun _ => trivial) (by kernel_rfl) _ _ rfl M rfl i rfl f hM6 ?_); rw [his, hv.out]; skip))
     have hk1 : Keeps D wr W6 := ⟨k6.size, fun b hb => k6.block b (Nat.lt_of_lt_of_le (hD b hb) hkp.1)⟩
     have hJ1 := hJ _ wr W6 none hJk (below_grown k6) (fun r e => by cases e)
     refine ⟨fun f e => (by cases e), ?_⟩
     gi_wp2
     go_roundw
     case rel => exact ⟨k + 1, by omega, by go_num, hkp.trans hk1, by rw [hsu.out]; exact hJ1⟩
     case measure => simp [intOf]; omega
  ·obtain rfl : k = n := by omega
   gi_wp2
   go_end0
   exact ⟨⟨_, rfl⟩, .inl ⟨_, rfl, hJk⟩⟩
end Go.Proofs.Ytobcdaaghdljbaa
namespace Go.Proofs.Ytobcdaaghdljbaa
set_option maxRecDepth 100000
set_option maxHeartbeats 8000000
open Go.RowKit Go.Shelf
set_option linter.unusedVariables false
attribute [local go_sem] Oper.semAt_some

theorem goB_iff {t ro : Int} {key : Nat} {X : List Ob} {i d : Int} {row C : List Int} (hf : fitD t key ro X = true) (hd : i ∈ (fO X d).links) (h : CutI X i row.length row C) (k : Int) : goB (cutF X row) k = decide (k ∈ C) := by
 have hT := tre_of hf
 have hm := h.mem k
 rw [List.take_length] at hm
 have hlk : ∀ {c j : Int}, j ∈ (fO X c).links → 1 ≤ cntL X j := fun {c j} hj => by
  obtain ⟨o, _, eo, hox, hid⟩ := fO_links hj
  exact List.length_pos_iff.2 (List.ne_nil_of_mem (hol_mem.2 ⟨o, hox, hid, by rw [eo] at hj; exact hj⟩))
 by_cases h1 : 1 ≤ cntL X k
 ·have := cutF_end (r := row) k h1
  unfold goB
  rw [Bool.eq_iff_iff, Bool.and_eq_true, decide_eq_true_eq, decide_eq_true_eq, this, hm]
 ·have h0 : row.count k = 0 := by
   rw [List.count_eq_zero]
   intro q
   rw [h.rowe] at q
   rcases List.mem_cons.1 q with r | r
   ·exact h1 (r ▸ hlk hd)
   ·obtain ⟨c, hc, hlc⟩ := List.mem_flatMap.1 r
    exact h1 (hlk hlc)
  have hc0 : cntL X k = 0 := by omega
  have e : cutF X row k = none := by unfold cutF; rw [if_pos ⟨hc0, h0⟩]
  have hn : ¬ k ∈ C := fun q => h1 (hm.1 q).1
  unfold goB
  rw [e, decide_eq_false hn]
  rfl
theorem hitR_lost {t ro : Int} {key : Nat} {X : List Ob} {i d : Int} {row C : List Int} (hf : fitD t key ro X = true) (hd : i ∈ (fO X d).links) (h : CutI X i row.length row C) : Gone X ro (oneP d i) ((hitR X (cutF X row) X.length).map fun k => (oat X k).id) := by
 rw [hitR_ids, show goB (cutF X row) = fun k => decide (k ∈ C) from funext fun k => goB_iff hf hd h k]
 exact cut_gone hf hd h
theorem goC_v {w : World} {M : Nat} {G : Array Value} : Calls Try.prog 34 #[.map (some M), .agg G] w fun e w' => e = .returned (.func (.func 55) #[] #[.pointer (some ⟨w.heap.size + 1, 0, none⟩), .pointer (some ⟨w.heap.size, 0, none⟩)]) ∧
   w' = (w.alloc (.cells #[.map (some M)] 74)).alloc (.cells G 25) := by
 go_enter Try.func34, Try.ntmps34
 go_wp2
 go_ret
 exact ⟨rfl, rfl⟩
theorem gone_stops (N : Nat) (hN : 1 ≤ N) (Bw Bm M : Nat) (D : Nat → Prop) {t ke ro : Int} {ao : Option Addr} {n cap : Nat} {X : List Ob} {f : Int → Option Int} (w : World) (hD : ∀ b, D b → b < w.heap.size) (hDw : D Bw) (hDm : D Bm) (hDM : D M) (hBw : Blk w Bw #[.int .i64 t, .int .u64 ke, .int .u64 ro, .slice ao n cap] 25) (hBm : Blk w Bm #[.map (some M)] 74) (hM : MapT w M f) (hX : ObsD D D w ao n cap X) :
  SeqStopsK Fence.wide N Try.prog 55 #[.pointer (some ⟨Bw, 0, none⟩), .pointer (some ⟨Bm, 0, none⟩)] (encG X) (Keeps D) (fun ys => ys = hitR X f n) (fun pre => pre <+: hitR X f n) (hitR X f n).length w := fun l J Jx W hW hJ _ hY h0 =>
 gone1_in N hN l Bw Bm M D J Jx hY W hJ (fun b hb => Nat.lt_of_lt_of_le (hD b hb) hW.size) hDw hDm hDM ((hW.block Bw (hD Bw hDw)).trans hBw) ((hW.block Bm (hD Bm hDm)).trans hBm) (hM.block (hW.block M (hD M hDM))) (hX.laterK (fun b hb => hW.block b (hD b hb)) (fun b hb => hW.block b (hD b hb))) h0
theorem ownsS {W : World} {b b' : Nat} {e : TypeId} {size : Nat} {v : Value} {k : Nat} {xs : List Value} (hb : b' ≤ b) (h : W.ownsRow b e size v k xs) : W.ownsRow b' e size v k xs := by
 refine ⟨h.1, ?_⟩
 rcases h.2 with h0 | ⟨g, c, cur, h1, h2, h3⟩
 ·exact .inl h0
 ·exact .inr ⟨g, c, cur, h1, Nat.le_trans hb h2, h3⟩
theorem appS {W w1 : World} {s r B : Nat} {t e : TypeId} {size : Nat} {v v' : Value} {k m : Nat} {xs ys : List Value} {tmp : Obj} (hv : Boxed W B t v) (hte : t ≠ e) (hrow : W.ownsRow r e size v k xs) (hs : s ≤ W.heap.size) (hsr : s ≤ r) (hB : s ≤ B)
  (hown' : w1.ownsRow r e size v' m ys) (hgrow : (W.alloc tmp).grownBy w1 v.ownBlock) :
  Boxed w1 B t v ∧ Boxed (w1.setCell ⟨B, 0, none⟩ v') B t v' ∧ (w1.setCell ⟨B, 0, none⟩ v').ownsRow r e size v' m ys ∧ KeepsOthers W (w1.setCell ⟨B, 0, none⟩ v') ∧ Below s W (w1.setCell ⟨B, 0, none⟩ v') ∧
  (∀ B' t' u, Boxed W B' t' u → t' ≠ e → B' ≠ B → Boxed (w1.setCell ⟨B, 0, none⟩ v') B' t' u) ∧ (∀ b, b < W.heap.size → b < r → b ≠ B → (w1.setCell ⟨B, 0, none⟩ v').heap[b]? = W.heap[b]?) := by
 obtain ⟨h1, h2, _, h4, h5⟩ := hv.appended hte (ownsS hsr hrow) hs hB (ownsS hsr hown') hgrow
 refine ⟨h1, h2, hown'.kept (grownBy_setCell' w1 B v') (.inr (h1.not_row hte hown').symm), h4, h5, ?_, ?_⟩
 ·intro B' t' u hu ht hne
  exact ((hu.alloc tmp).kept hgrow (hu.not_row ht hrow)).other hne _
 intro b hbW hbr hne
 rw [Below.heap_setCell w1 ⟨B, 0, none⟩ _ b hne]
 refine (hgrow.block b (by simp; omega) (fun e' => ?_)).trans (Below.heap_alloc W tmp b hbW)
 have := (hrow.lt b e'.symm).1
 omega

theorem lost_v {w : World} {t ro : Int} {key : Nat} {ao : Option Addr} {n cap : Nat} {X : List Ob} {d i : Int} (h : Obs w ao n cap X) (hf : fitD t key ro X = true) (hn16 : n ≤ 4096) (hsm : Smalls X) : Calls Try.prog 13 #[.agg #[.int .i64 t, .int .u64 (key : Int), .int .u64 ro, .slice ao n cap], .int .u64 d, .int .u64 i] w fun e w' => ∃ v L, e = .returned v ∧ Hid ((i ∈ (fO X d).links → Gone X ro (oneP d i) L) ∧ (¬ i ∈ (fO X d).links → L = []) ∧ L.length ≤ n) ∧ w'.ownsRow w.heap.size 22 1 v L.length (wordsC L) ∧ Below w.heap.size w w' := by
 obtain ⟨i0, hi0, hz0, hz1, hz2⟩ := info_parts infoW
 have hT := tre_of hf
 have hn : Hid (X.length = n) := h.1
 have hnd : ∀ x ∈ X, x.links.Nodup := fun x hx => links_nodup (hT.snd x hx)
 have hpl := fun {W : World} (hk : Below w.heap.size w W) => place_v (t := t) (ke := (key : Int)) (ro := ro) (d := d) (i := i) (obs_next h hk) hT.srt hn16 hsm
 have htd := fun {W : World} (hk : Below w.heap.size w W) => tied_v (t := t) (ke := (key : Int)) (ro := ro) (obs_next h hk) hn16 hsm hnd
 have hct := fun {W : World} {M : Nat} (hk : Below w.heap.size w W) (hM0 : w.heap.size ≤ M) (hM : MapT W M (cntF X [])) => cut_v (t := t) (key := key) (ro := ro) (i := i) h hk hM0 hn16 hsm hf hM
 have hzG : (Try.prog.info? 25).map (·.size) = some (#[.int .i64 t, .int .u64 (key : Int), .int .u64 ro, .slice ao n cap] : Array Value).size := by kernel_rfl
 obtain ⟨G, hG⟩ : ∃ G : Array Value, Hid (G = #[.int .i64 t, .int .u64 (key : Int), .int .u64 ro, .slice ao n cap]) := ⟨_, rfl⟩
 rw [← hG.out] at hzG hpl htd hct
 rw [← hG.out]
 refine (callsIn_wide (n := 5)).1 ?_
 refine callsIn_of_wp_marks Try.func13 rfl trivial ?_ rfl
 simp only [Try.ntmps13, List.size_toArray, List.length_cons, List.length_nil, Nat.reduceAdd, Nat.reduceSub, Array.replicate_succ, Array.replicate_zero, List.push_toArray, List.append_toArray, List.nil_append, List.cons_append]
 gi_wp2_with (first
  | (with_reducible refine inL_box (fun _ => trivial) (by kernel_rfl) 25 _ rfl G rfl ?_; intro B W1 hN1 hB hk)
  | (with_reducible refine inL_loadb (fun _ => trivial) (by kernel_rfl) _ _ rfl B rfl G _ hB _ Try.underlying25 (by kernel_rfl) hzG ?_)
  | (refine ⟨trivial, ?_⟩; gi_at_call 20; (with_reducible refine (callsIn_wide.2 (hpl hk)).mono ?_); rintro e w2 ⟨C, r, rfl, hC, hr, hb2, hM2⟩; clear hM2; replace hB := hB.next hb2; replace hk := hk.trans (hb2.mono hk.size))
  | ((with_reducible refine inL_alloc (fun _ => trivial) (by kernel_rfl) _ rfl zC zero40 ?_); intro P W3 hN3 hP hk3; have hBP : B ≠ P := (by have := hB.lt; have := hN3.out; omega); have hwP : w.heap.size ≤ P := (by have := hN3.out; have := hk.size; omega); replace hB := hB.next hk3; replace hk := hk.trans (hk3.mono hk.size))
  | ((with_reducible refine inL_store_blk (fun _ => trivial) (by kernel_rfl) _ _ _ rfl P rfl C rfl zC hP (size40C hC.size) (zC_size.trans hC.size.symm) hC.one ?_); intro W4 hP4 o4; replace hB := hB.other o4 hBP; replace hk := o4.below _ _ hwP hk; clear hP4 o4)
  | (refine ⟨trivial, ?_⟩; gi_at_call 32; (with_reducible refine (callsIn_wide.2 (htd hk)).mono ?_); rintro e w5 ⟨M, rfl, hM0, hM, hb5⟩; have hMw : w.heap.size ≤ M := Nat.le_trans hk.size hM0; have hBM : B < M := Nat.lt_of_lt_of_le hB.lt hM0; replace hB := hB.next hb5; replace hk := hk.trans (hb5.mono hk.size))
  | (refine ⟨trivial, ?_⟩; gi_at_call 33; (with_reducible refine (callsIn_wide.2 (hct hk hMw hM)).mono ?_); rintro e w6 ⟨row, C2, rfl, hC2, hM6, hb6⟩; have hB6 : Blk w6 B G 25 := (hb6.block B hBM).trans hB; have hk6 : Below w.heap.size w w6 := hk.trans (hb6.mono hMw); have hBn := hB6.next ((Below.refl w6.heap.size w6).alloc (Nat.le_refl _) (.cells #[.slice none 0 0] 28)))
  | (with_reducible refine inL_loadb (fun _ => trivial) (by kernel_rfl) _ _ rfl B rfl G _ hBn _ Try.underlying25 (by kernel_rfl) hzG ?_)
  | (refine ⟨trivial, ?_⟩; gi_at_call 34; (with_reducible refine (callsIn_wide.2 goC_v).mono ?_); rintro e w' ⟨rfl, rfl⟩))
 ·have hni : ¬ i ∈ (fO X d).links := fun q => by have := hr.out.1.2 q; omega
  exact ⟨_, results_tmp rfl _ _ _, _, [], rfl, ⟨fun q => absurd q hni, fun _ => rfl, Nat.zero_le _⟩, World.ownsRow_nil _ _ _ _, hk⟩
 ·-- the loop
  have hin : i ∈ (fO X d).links := hr.out.1.1 (by omega)
  have hls := hitR_lost hf hin hC2.out
  rw [hn.out] at hls
  have hlen : (hitR X (cutF X row) n).length ≤ n := by unfold hitR; exact Nat.le_trans (List.length_filter_le ..) (by simp)
  have hMl := hM6.lt
  have hB6l := hB6.lt
  have bO := ((Boxed.new w6 28 (.slice none 0 0)).alloc (.cells #[.map (some M)] 74)).alloc (.cells G 25)
  have bm := Blk.new (w6.alloc (.cells #[.slice none 0 0] 28)) #[.map (some M)] 74
  have bm2 := bm.next ((Below.refl _ ((w6.alloc (.cells #[.slice none 0 0] 28)).alloc (.cells #[.map (some M)] 74))).alloc (Nat.le_refl _) (.cells G 25))
  have bw := Blk.new ((w6.alloc (.cells #[.slice none 0 0] 28)).alloc (.cells #[.map (some M)] 74)) G 25
  have hb0 : Below w6.heap.size w6 (((w6.alloc (.cells #[.slice none 0 0] 28)).alloc (.cells #[.map (some M)] 74)).alloc (.cells G 25)) := (((Below.refl _ w6).alloc (Nat.le_refl _) _).alloc (by simp only [World.size_alloc]; omega) _).alloc (by simp only [World.size_alloc]; omega) _
  have hsz : (((w6.alloc (.cells #[.slice none 0 0] 28)).alloc (.cells #[.map (some M)] 74)).alloc (.cells G 25)).heap.size = w6.heap.size + 3 := by simp
  simp only [World.size_alloc] at bm2 bw
  have hM0 := hM6.next hb0
  have hbw := hk6.trans (hb0.mono hk6.size)
  obtain ⟨W0, hW0⟩ : ∃ W0, ((w6.alloc (.cells #[.slice none 0 0] 28)).alloc (.cells #[.map (some M)] 74)).alloc (.cells G 25) = W0 := ⟨_, rfl⟩
  rw [hW0] at bO bm2 bw hsz hM0 hbw hb0 ⊢
  rw [hG.out] at bw
  clear hW0 bm hBn
  have hw6 := hk6.size
  have hXD := (ObsD.laterK h (fun b hb => hbw.block b hb) (fun b hb => hbw.block b hb)).wide (E' := fun b => b < W0.heap.size ∧ b ≠ w6.heap.size) (D' := fun b => b < W0.heap.size ∧ b ≠ w6.heap.size) (fun b (hb : b < w.heap.size) => ⟨by omega, by omega⟩) (fun b (hb : b < w.heap.size) => ⟨by omega, by omega⟩)
  refine wpIn_rangeFunc_ownH rfl (by omega) (gf := 55) (lb := #[.pointer (some ⟨w6.heap.size + 1 + 1, 0, none⟩), .pointer (some ⟨w6.heap.size + 1, 0, none⟩)]) rfl trivial (enters_of Try.func55 (by kernel_rfl) rfl)
   (gone_stops _ (by omega) (w6.heap.size + 1 + 1) (w6.heap.size + 1) M (fun b => b < W0.heap.size ∧ b ≠ w6.heap.size) W0 (fun b hb => hb.1) ⟨by omega, by omega⟩ ⟨by omega, by omega⟩ ⟨by omega, by omega⟩ bw bm2 hM0 hXD) keepsK_t (keepsK_b (fun b hb => hb.1)) (Below.refl _ _) (fun _ => rfl)
   (fun pre W => (∃ v, Boxed W w6.heap.size 28 v ∧ W.ownsRow W0.heap.size 22 1 v pre.length (pre.map fun k => Value.int .u64 (oat X k).id) ∧ True) ∧ Below w.heap.size w W)
   (fun _ _ _ => False)
   (OwnFrom.and (Own.from (holdsRow_own W0.heap.size w6.heap.size 28 22 1 (fun (pre : List Nat) => pre.length) (fun (pre : List Nat) => pre.map fun k => Value.int .u64 (oat X k).id) (fun _ _ => True)) _) (ownFrom_below (Nat.le_refl _) (by have := hk6.size; omega)))
   (fun _ _ _ _ _ hs _ _ => hs)
   ⟨⟨_, bO, World.ownsRow_nil _ _ _ _, trivial⟩, hk6.trans (hb0.mono hk6.size)⟩
   (fun x a' _ => a' = { tmps := #[.agg G, .int .u64 d, .int .u64 i, .pointer (some ⟨B, 0, none⟩), undef, undef, .slice none 0 0, .pointer (some ⟨P, 0, none⟩), .int .i64 r, .map (some M), .pointer (some ⟨w6.heap.size, 0, none⟩), .int .u64 (oat X x).id, .tuple #[.agg C, .int .i64 r], .agg G, .int .u64 d, .int .u64 i, .tuple #[.agg C, .int .i64 r], .agg C, .int .i64 r, .int .i64 r, .bool (decide (r < 0)), .agg G, .map (some M), .map (some M), .agg G, .int .u64 i, .tuple #[], .map (some M), .agg G, .func (.func 55) #[] #[.pointer (some ⟨w6.heap.size + 1 + 1, 0, none⟩), .pointer (some ⟨w6.heap.size + 1, 0, none⟩)], .int .u64 (oat X x).id, undef, undef, undef, undef, undef], defers := [] })
   (fun x a' _ X Y row hs hg hr => hs)
   ?assign ?body ?done ?stop
  case assign =>
   rintro l pre x W K hJ hK
   dsimp only [encG]
   gi_wp2
   exact hK _ _ (KeepsFrom.refl _ _) (Keeps.refl _ _) hJ rfl
  case body =>
   rintro l pre x a' W hl ⟨rr, hrr⟩ ⟨⟨v, bO1, hrow, _⟩, hB1⟩ rfl hlt
   have cO := bO1.cell
   have hlW : l < W.heap.size := (Array.getElem?_eq_some_iff.1 hrr).1
   gi_wp2_with (gi_at_builtin; refine wpListIn_append_own _ rfl _ _ 28 rfl W0.heap.size 22 i0 (.int .u64 0) 1 8 Try.underlying28 hi0 hz0 hz1 hz2 rfl (by decide) _ _ _ rfl (hrow.alloc _) ⟨W.heap.size, 0, none⟩ 1 1 [.int .u64 (oat X x).id] rfl rfl (cell_one_new _ _ _) (by simp [Value.oneCell']) (by unfold maxLen; omega) (by omega) (by simp; omega) ?_; intro v' w2 hown' hgrow _; obtain ⟨g', cap', rfl⟩ := ownsRow_two hown'; obtain ⟨hv1, hv2, hr2, hk2, hb2, ho2, hd2⟩ := appS (s := w.heap.size) bO1 (by decide) hrow hB1.size (by omega) (by omega) hown' hgrow; have hc1 := hv1.cell; have hf1 := hv1.frozen)
   exact ⟨hk2.from _, ⟨Nat.le_trans hb2.size (Nat.le_refl _), fun b hb => hd2 b (by have := hb.1; omega) hb.1 hb.2⟩, ⟨⟨_, hv2, by simpa using hr2, trivial⟩, hB1.trans hb2⟩⟩
  case done =>
   rintro Dd ys W hD rfl ⟨⟨v, bO1, hrow, _⟩, hB1⟩ hK
   have cO := bO1.cell
   gi_wp2
   refine ⟨by simp, .inl ⟨_, _, rfl, run_takeDeferred hK, ?_⟩⟩
   refine ⟨_, results_tmp rfl _ _ _, _, _, rfl, ⟨fun _ => hls, fun q => absurd hin q, by rw [List.length_map]; exact hlen⟩, ?_, hB1.trans (belowK_b (w := w) (Nat.le_refl _) W Dd _ _ (by omega) hK rfl rfl)⟩
   rw [List.length_map]
   have e : wordsC ((hitR X (cutF X row) n).map fun k => (oat X k).id) = (hitR X (cutF X row) n).map fun k => Value.int .u64 (oat X k).id := by simp [wordsC]
   rw [e]
   exact ownsRow_putObj (ownsS (by omega) hrow) _ hK rfl
  case stop =>
   rintro D c pre W _ _ h _
   exact h.elim
end Go.Proofs.Ytobcdaaghdljbaa
namespace Go.Proofs.Ytobcdaaghdljbaa
set_option maxRecDepth 100000
set_option maxHeartbeats 8000000
open Go.RowKit Go.Shelf
set_option linter.unusedVariables false
attribute [local go_sem] Oper.semAt_some

theorem goes_v {w : World} {P : Nat} {C : Array Value} {x : Ob} {al : Option Addr} {nl cl : Nat} {L : List Int} (hP : Blk w P #[.slice al nl cl] 28) (hC : ObD (LtN w) w C x) (h : CtD (LtN w) w al nl cl L) (hs : L.Pairwise (· < ·)) (hn16 : nl ≤ 4096) : Calls Try.prog 25 #[.agg C, .pointer (some ⟨P, 0, none⟩)] w fun e w' => e = .returned (.bool (decide (x.id ∈ L))) ∧ Below w.heap.size w w' := by
 have ga1 := Try.isAgg22
 have ga4 := Try.isAgg28
 have c0 := hC.id
 have hp0 : (#[.slice al nl cl] : Array Value)[0]? = some (.slice al nl cl) := rfl
 have hbs := fun (W : World) (hk : Below w.heap.size w W) => bsw_full (i := x.id) ((h.laterK fun b hb => hk.block b hb).wide fun b hb => Nat.lt_of_lt_of_le hb hk.size) hs hn16
 go_enter Try.func25, Try.ntmps25
 go_wp2_with (first
  | go_skip
  | (with_reducible refine wpList_box rfl _ _ rfl C rfl ?_; intro B W1 hN1 hB hk; replace hP := hP.next hk)
  | (with_reducible refine wpList_load1 (by kernel_rfl) _ _ rfl P _ rfl _ _ hP _ hp0 ga4 ?_)
  | (with_reducible refine wpList_load1 (by kernel_rfl) _ _ rfl B _ rfl _ _ hB _ c0 ga1 ?_)
  | (go_at_call 26; (with_reducible refine (hbs _ hk).mono ?_); rintro e w2 ⟨rfl, rfl⟩))
 go_ret
 exact ⟨rfl, hk⟩
def stB0 (L : List Int) (x : Ob) : Bool := decide (¬ x.id ∈ L)
theorem indexF_v {w : World} {P : Nat} {al ao : Option Addr} {nl cl n cap : Nat} {L : List Int} {Y : List Ob} (hY : Obs w ao n cap Y) (hP : Blk w P #[.slice al nl cl] 28) (h : CtD (LtN w) w al nl cl L) (hs : L.Pairwise (· < ·)) (hn16 : nl ≤ 4096) : Calls Try.prog 51 #[.slice ao n cap, .func (.func 25) #[] #[.pointer (some ⟨P, 0, none⟩)]] w fun e w' => ∃ r : Int, e = .returned (.int .i64 r) ∧ Hid (r = -1 ∧ (∀ k, k < n → stB0 L (oat Y k) = true) ∨ ∃ k : Nat, r = k ∧ k < n ∧ (∀ j, j < k → stB0 L (oat Y j) = true) ∧ stB0 L (oat Y k) = false) ∧ Below w.heap.size w w' := by
 have hnc := hY.2.1
 have hcm := hY.2.2.1.1
 go_enter Try.func51, Try.ntmps51
 go_wp2
 go_loopw [8] (fun i wr => ∃ k : Nat, k ≤ n ∧ i = .int .i64 k ∧ Hid (∀ j, j < k → stB0 L (oat Y j) = true) ∧ Below w.heap.size w wr) (fun i _ => n - (intOf i).toNat)
 case atStart => exact ⟨0, Nat.zero_le _, rfl, fun j hj => absurd hj (by omega), Below.refl _ _⟩
 case round =>
  obtain ⟨k, hk1, rfl, hal, hk⟩ := hrel
  by_cases hkn : k < n
  ·have hkn' : (k : Int) < n := by omega
   obtain ⟨b, off, C, rfl, hbb, hC, hr⟩ := obs_at (obs_next hY hk) hkn
   have hz := hC.size
   have hgo := goes_v (hP.next hk) hC ((h.laterK fun b hb => hk.block b hb).wide fun b hb => Nat.lt_of_lt_of_le hb hk.size) hs hn16
   by_cases hm : (oat Y k).id ∈ L
   ·rw [decide_eq_true hm] at hgo
    go_wp2_with (first
     | go_skip
     | (with_reducible refine wpList_loadm (by kernel_rfl) 54 _ rfl b _ rfl C hr _ Try.underlying54 (by kernel_rfl) (size40C hz) ?_)
     | (go_at_call 25; (with_reducible refine hgo.mono ?_); rintro e w2 ⟨rfl, hb2⟩))
    go_ret
    exact ⟨(k : Int), rfl, .inr ⟨k, rfl, hkn, hal.out, by unfold stB0; simp [hm]⟩, hk.trans (hb2.mono hk.size)⟩
   ·rw [decide_eq_false hm] at hgo
    have hal2 : Hid (∀ j, j < k + 1 → stB0 L (oat Y j) = true) := fun j hj => by
     rcases Nat.lt_or_ge j k with q | q
     ·exact hal.out j q
     ·obtain rfl : j = k := by omega
      unfold stB0; simp [hm]
    go_wp2_with (first
     | go_skip
     | (with_reducible refine wpList_loadm (by kernel_rfl) 54 _ rfl b _ rfl C hr _ Try.underlying54 (by kernel_rfl) (size40C hz) ?_)
     | (go_at_call 25; (with_reducible refine hgo.mono ?_); rintro e w2 ⟨rfl, hb2⟩))
    go_roundw
    case rel => exact ⟨k + 1, by omega, by go_num, hal2, hk.trans (hb2.mono hk.size)⟩
    case measure => simp [intOf]; omega
  ·obtain rfl : k = n := by omega
   go_wp2
   go_ret
   exact ⟨-1, rfl, .inl ⟨rfl, hal.out⟩, hk⟩
end Go.Proofs.Ytobcdaaghdljbaa
