/-
 PROVED HERE: what slices.Index of words, and package sweep's place, return when they are called (contracts over this transl. What is asked stands at each.
-/
import Derived.RangeFuncBox
import Derived.Test.YtcmcakandbpjfaaY9
import Derived.Test.YtcmcakandbpjfaaY10
import Derived.Test.YtcmcakandbpjfaaY15
import Derived.Test.YtcmcakandbpjfaaY18
namespace Go.Proofs.Ytcmcakandbpjfaa
set_option maxRecDepth 100000
set_option maxHeartbeats 8000000
open Go.RowKit Go.Shelf
set_option linter.unusedVariables false
attribute [local go_sem] Oper.semAt_some

def AtP (L : List Int) (i r : Int) : Prop := (0 ≤ r ↔ i ∈ L) ∧ -1 ≤ r ∧ (0 ≤ r → r.toNat < L.length ∧ L.getD r.toNat 0 = i)
theorem indexP_any {w : World} {al : Option Addr} {nl cl : Nat} {L : List Int} {i : Int} (h : CtD (LtN w) w al nl cl L) : Calls Try.prog 47 #[.slice al nl cl, .int .u64 i] w fun e w' => ∃ r : Int, e = .returned (.int .i64 r) ∧ Hid (AtP L i r) ∧ w' = w := by
 have hn : Hid (L.length = nl) := h.1
 have hnc := h.2.1
 have hcm := h.2.2.1.1
 have ga1 := Try.isAgg22
 go_enter Try.func47, Try.ntmps47
 go_wp2
 go_loopw [8] (fun j wr => ∃ k : Nat, k ≤ nl ∧ j = .int .i64 k ∧ Hid (∀ q, q < k → L.getD q 0 ≠ i) ∧ wr = w) (fun j _ => nl - (intOf j).toNat)
 case atStart => exact ⟨0, Nat.zero_le _, rfl, fun q hq => absurd hq (by omega), rfl⟩
 case round =>
  obtain ⟨k, hk, rfl, hal, rfl⟩ := hrel
  by_cases hkn : k < nl
  ·obtain ⟨b, off, rfl, hb, hc⟩ := ct_at h hkn
   have hkn' : (k : Int) < nl := by omega
   go_wp2_with (first
    | (with_reducible refine wpList_loadc (by kernel_rfl) _ _ rfl b _ rfl _ hc ga1 ?_)
    | ((with_reducible refine wpList_test (by kernel_rfl) .eql _ _ _ _ rfl _ _ rfl rfl (eqg_int _ _ _ _ _ _) ?_ ?_) <;> intro hq))
   ·go_ret
    refine ⟨(k : Int), rfl, ⟨⟨fun _ => ?_, fun _ => by omega⟩, by omega, fun _ => ⟨by have := hn.out; omega, hq.out.symm⟩⟩, rfl⟩
    rw [hq.out]
    exact getD_mem (by rw [hn.out]; exact hkn)
   ·go_roundw
    case rel => exact ⟨k + 1, by omega, by go_num, fn_succ hal.out (fun e => hq.out e.symm), trivial⟩
    case measure => simp [intOf]; omega
  ·obtain rfl : k = nl := by omega
   go_wp2
   go_ret
   have hq : ¬ i ∈ L := by
    intro e
    obtain ⟨j, hj, q⟩ := List.getElem_of_mem e
    have := hal.out j (by rw [← hn.out]; exact hj)
    rw [List.getD_eq_getElem?_getD, List.getElem?_eq_getElem hj] at this
    exact this q
   exact ⟨-1, rfl, ⟨⟨fun e => absurd e (by decide), fun e => absurd e hq⟩, by decide, fun e => absurd e (by decide)⟩, rfl⟩
theorem place_v {w : World} {t ke ro : Int} {ao : Option Addr} {n cap : Nat} {X : List Ob} {d i : Int} (h : Obs w ao n cap X) (hs : Srt X) (hn16 : n ≤ 4096) (hsm : Smalls X) : Calls Try.prog 20 #[.agg #[.int .i64 t, .int .u64 ke, .int .u64 ro, .slice ao n cap], .int .u64 d, .int .u64 i] w fun e w' => ∃ C' r, e = .returned (.tuple #[.agg C', .int .i64 r]) ∧ ObD (New w w') w' C' (fO X d) ∧ Hid (AtP (fO X d).links i r) ∧ Below w.heap.size w w' ∧ ∃ M, LbV (fun b => New w w' b ∧ b < M) w' C'[2]? (fO X d).label ∧ (∃ ao n cap, C'[5]? = some (.slice ao n cap) ∧ w'.ownsRow M 22 1 (.slice ao n cap) n (wordsC (fO X d).links)) ∧ w.heap.size ≤ M := by
 have hmx : Try.prog.follows .mixedOrders = true := by kernel_rfl
 have ga4 := Try.isAgg28
 have hfd := fun (W : World) (hk : Below w.heap.size w W) => find_l (t := t) (ke := ke) (ro := ro) (i := d) (obs_next h hk) hs hn16 hsm
 have hzG : (Try.prog.info? 25).map (·.size) = some (#[.int .i64 t, .int .u64 ke, .int .u64 ro, .slice ao n cap] : Array Value).size := by kernel_rfl
 have hx : (fnd X d).getD zOb = fO X d := by unfold fO; cases fnd X d <;> rfl
 rw [hx] at hfd
 clear hx
 generalize fO X d = x at hfd ⊢
 obtain ⟨G, hG⟩ : ∃ G : Array Value, G = #[.int .i64 t, .int .u64 ke, .int .u64 ro, .slice ao n cap] := ⟨_, rfl⟩
 rw [← hG] at hzG hfd
 rw [← hG]
 clear hG
 have tk1 : True := trivial
 go_enter Try.func20, Try.ntmps20
 go_upto_region 2 with (first
  | go_skip
  | (with_reducible refine wpList_box rfl _ _ rfl G rfl ?_; intro B W0 hN0 hB hk)
  | ((with_reducible refine wpList_alloc rfl _ rfl zC zero40 ?_); have hx := tk1; clear hx tk1; intro R W1 hN1 hR hk1; have hRw : Hid (w.heap.size ≤ R) := (by have := hN1.out; have := hk.size; show _ ≤ _; omega); replace hB := hB.next hk1; replace hk := hk.trans (hk1.mono hk.size))
  | (with_reducible refine wpList_load_blk rfl _ _ rfl B rfl _ hB _ Try.underlying25 rfl hzG ?_)
  | (go_at_call 46; (with_reducible refine (hfd _ hk).mono ?_); rintro e w3 ⟨C, rfl, hC, hb3, M, hM2, ⟨am, nm, cm, e5, hM5⟩, hMw⟩; have hMk := hk.size; replace hR := hR.next hb3)
  | ((with_reducible refine wpList_alloc rfl _ rfl zC zero40 ?_); intro P W4 hN4 hP hk4)
  | ((with_reducible refine wpList_store_blk rfl _ _ _ rfl P rfl C rfl zC hP (size40C hC.size) (zC_size.trans hC.size.symm) hC.one ?_); intro W5 hP5 o5))
 have hRP : Hid (R < W1.heap.size ∧ W1.heap.size ≤ P ∧ w3.heap.size = P) := ⟨by have := hN1.out; omega, by have := hN4.out; have := hb3.size; omega, hN4.out.1⟩
 have k5 : Below w.heap.size w W5 := o5.below _ _ (by have := hRP.out; have := hMk; omega) (hk.trans ((hb3.trans (hk4.mono hb3.size)).mono hk.size))
 have hP := hP5
 have hR5 := ((hR.next hk4).other o5 (by have := hRP.out; omega)).next (Below.refl W5.heap.size W5).drew
 have hdr := (Below.refl W5.heap.size W5).drew
 have old : ∀ b, b < P → W5.drew.heap[b]? = w3.heap[b]? := fun b hb => (hdr.block b (by have := hP5.lt; omega)).trans ((o5.block b (by omega)).trans (hk4.block b (by have := hRP.out; omega)))
 have hsz5 : Hid (P < W5.drew.heap.size) := Nat.lt_of_lt_of_le hP5.lt hdr.size
 refine PgM.region_out (S := fun W => Blk W P C 54 ∧ Below w.heap.size w W) hmx (⟨hP.next (Below.refl _ _).drew, k5.trans ((Below.refl _ _).drew.mono k5.size)⟩) (fun hS2 => ?_)
 clear hdr
 generalize W5.drew = v2 at hS2 hR5 old hsz5 ⊢
 have hL2 : CtD (LtN v2) v2 am nm cm x.links := ((ct_owns hM5).laterK fun b hb => old b (by have := hb.2; have := hRP.out; omega)).wide fun b hb => by have := hb.2; have := hRP.out; have := hsz5.out; show b < _; omega
 refine wpAnyH_sym (by kernel_rfl) (fun _ _ _ _ _ h => h) hS2 [(0, some (.agg C)), (1, none), (2, some (.slice am nm cm)), (3, none)] (l' := #[true, true, true, true, false, false, false]) (a' := { tmps := #[.agg G, .int .u64 d, .int .u64 i, .pointer (some ⟨B, 0, none⟩), ud, undef, .pointer (some ⟨R, 0, none⟩), .int .i64 0, .pointer (some ⟨P, 0, none⟩), .bool (fnd X d).isSome, .tuple #[.agg C, .bool (fnd X d).isSome], .agg G, .int .u64 d, .tuple #[.agg C, .bool (fnd X d).isSome], .agg C, .bool (fnd X d).isSome, .agg C, .pointer (some ⟨P, 5, none⟩), .slice am nm cm, .int .u64 i, undef], defers := [] }) (obs := [.load 54 P 0 (.agg C), .load 28 P 5 (.slice am nm cm)]) (n := 3) (by kernel_rfl) (by kernel_rfl) ⟨ob_loadb (fun W hS => hS.1) Try.underlying54 (by kernel_rfl) (size40C hC.size), ob_load1 (fun W hS => hS.1) e5 ga4, trivial⟩ ?_
 refine wpAnyH_single (i := 4) (n := 2) rfl (by kernel_rfl) ?_
 refine wpOp_callL (f := 47) (vs := [.slice am nm cm, .int .u64 i]) (d := some 20) (by kernel_rfl) Try.call47 (indexP_any hL2) ?_
 rintro e z1 ⟨r, rfl, hr, rfl⟩
 refine ⟨_, rfl, hS2, ?_⟩
 obtain ⟨W6, hr6, hR6, o6⟩ := run_store_blk hR5 (size40C hC.size) (zC_size.trans hC.size.symm) hC.one
 refine wpAnyH_single (i := 5) (n := 1) rfl (by kernel_rfl) ?_
 refine wpOp_storeL (ty := 54) (B := R) (off := 0) (v := .agg C) (d := none) (by kernel_rfl) hr6 ?_
 have hS6 : Blk W6 P C 54 ∧ Below w.heap.size w W6 := ⟨hS2.1.other o6 (by have := hRP.out; omega), o6.below _ _ hRw.out hS2.2⟩
 refine ⟨hS6, ?_⟩
 refine wpAnyH_sym (by kernel_rfl) (fun _ _ _ _ _ h => h) hS6 [(6, none)] (l' := #[true, true, true, true, true, true, true]) (a' := { tmps := #[.agg G, .int .u64 d, .int .u64 i, .pointer (some ⟨B, 0, none⟩), ud, undef, .pointer (some ⟨R, 0, none⟩), .int .i64 r, .pointer (some ⟨P, 0, none⟩), .bool (fnd X d).isSome, .tuple #[.agg C, .bool (fnd X d).isSome], .agg G, .int .u64 d, .tuple #[.agg C, .bool (fnd X d).isSome], .agg C, .bool (fnd X d).isSome, .agg C, .pointer (some ⟨P, 5, none⟩), .slice am nm cm, .int .u64 i, .int .i64 r], defers := [] }) (obs := []) (n := 0) (by kernel_rfl) (by kernel_rfl) trivial ?_
 refine wpAnyH_done (by kernel_rfl) ?_ _
 go_wp2
 refine bodyPost_ret (v := .tuple #[.agg C, .int .i64 r]) (res40b Try.results20 rfl rfl hR6 hC.size) rfl ?_
 have new : ∀ b, New W1 w3 b → W6.heap[b]? = w3.heap[b]? := fun b hb => (o6.block b (by have := hb.1; have := hRP.out; omega)).trans (old b (by have := hb.2; have := hRP.out; omega))
 have wid : ∀ b, New W1 w3 b → New w W6 b := fun b hb => ⟨by have := hb.1; omega, by have := hb.2; have := hRP.out; have := hsz5.out; rw [o6.size]; omega⟩
 exact ⟨C, r, rfl, (hC.laterK new).wide wid, hr, hS6.2, M, (hM2.laterK fun b hb => new b hb.1).wide fun b hb => ⟨wid b hb.1, hb.2⟩, ⟨am, nm, cm, e5, owns_later hM5 fun b hb hl => new b ⟨by omega, hl⟩⟩, by omega⟩
end Go.Proofs.Ytcmcakandbpjfaa
namespace Go.Proofs.Ytcmcakandbpjfaa
set_option maxRecDepth 100000
set_option maxHeartbeats 8000000
open Go.RowKit Go.Shelf
set_option linter.unusedVariables false
attribute [local go_sem] Oper.semAt_some

def goB (f : Int → Option Int) (i : Int) : Bool := (f i).isSome && decide ((f i).getD 0 ≤ 0)
def hitR (X : List Ob) (f : Int → Option Int) (k : Nat) : List Nat := (List.range k).filter fun j => goB f (oat X j).id
theorem hitR_succ (X : List Ob) (f : Int → Option Int) (k : Nat) : hitR X f (k + 1) = hitR X f k ++ if goB f (oat X k).id = true then [k] else [] := by
 unfold hitR
 rw [List.range_succ, List.filter_append]
 congr 1
 by_cases h : goB f (oat X k).id = true <;> simp [h]
theorem hitR_pre (X : List Ob) (f : Int → Option Int) {k n : Nat} (h : k ≤ n) : hitR X f k <+: hitR X f n := by
 obtain ⟨d, rfl⟩ := Nat.le.dest h
 induction d with
 | zero => exact List.prefix_refl _
 | succ d ih => exact (ih (by omega)).trans (by rw [← Nat.add_assoc, hitR_succ X f (k + d)]; exact List.prefix_append _ _)
theorem hitR_ids (X : List Ob) (f : Int → Option Int) : (hitR X f X.length).map (fun k => (oat X k).id) = (X.map Ob.id).filter (goB f) := by
 have key : ∀ k, k ≤ X.length → (hitR X f k).map (fun j => (oat X j).id) = ((X.take k).map Ob.id).filter (goB f) := by
  intro k
  induction k with
  | zero => intro _; rfl
  | succ k ih =>
   intro h
   rw [hitR_succ, List.map_append, ih (by omega), List.take_add_one, List.getElem?_eq_getElem (by omega), Option.toList_some, List.map_append, List.filter_append]
   congr 1
   have e : oat X k = X[k] := oat_get (by omega)
   rw [e]
   by_cases g : goB f X[k].id = true <;> simp [g, e]
 have := key X.length (Nat.le_refl _)
 rwa [List.take_length] at this
def encG (X : List Ob) (k : Nat) : Array Value := #[.int .u64 (oat X k).id]
section
variable {F : Fence} (hF : ∀ f, F.fn f) {N : Nat} {ops : Array Oper} {rest : List Oper} {op : Oper} {a : Act} {Q : Exit → Act → World → Prop} {w : World}
include hF
theorem inL_okT (hw : Region.wanted op (yielded ops a.tmps) = true) (x y : Operand) (ho : op.op = .lookup 74 x y true) (M : Nat) (hx : a.eval x = .map (some M)) (k : Int) (hy : a.eval y = .int .u64 k) (f : Int → Option Int) (hm : MapT w M f)
  (h : wpListIn F N Try.prog ops Q rest (a.put op.dst (.tuple #[.int .i64 ((f k).getD 0), .bool (f k).isSome])) w) : wpListIn F N Try.prog ops Q (op :: rest) a w := by
 refine inL_val hF (by rw [ho]; intro c hc; cases hc) hw ?_ h
 unfold execOp
 simp [ho, hx, hy, mapT_ok hm k]
end
theorem gone1_in (N : Nat) (hN : 1 ≤ N) (l Bw Bm M : Nat) (D : Nat → Prop) {t ke ro : Int} {ao : Option Addr} {n cap : Nat} {X : List Ob} {f : Int → Option Int} (J Jx : List Nat → World → Prop)
  (hY : ∀ pre x W, J pre W → pre.length < (hitR X f n).length → YieldAt Fence.wide (N - 1) Try.prog l (encG X x) W fun e W' =>
   (e = .returned (.bool true) ∧ J (pre ++ [x]) W' ∧ Keeps D W W') ∨ (e = .returned (.bool false) ∧ Jx (pre ++ [x]) W'))
  (W : World) (hJ : AbidesFrom W.heap.size J) (hD : ∀ b, D b → b < W.heap.size) (hDw : D Bw) (hDm : D Bm) (hDM : D M) (hBw : Blk W Bw #[.int .i64 t, .int .u64 ke, .int .u64 ro, .slice ao n cap] 25) (hBm : Blk W Bm #[.map (some M)] 74) (hM : MapT W M f)
  (hX : ObsD D D W ao n cap X) (h0 : J [] W) :
  CallsIn Fence.wide N Try.prog 55 #[.func (.yield l) #[] #[], .pointer (some ⟨Bw, 0, none⟩), .pointer (some ⟨Bm, 0, none⟩)] W fun e W' => (∃ v, e = .returned v) ∧
   ((∃ ys, ys = hitR X f n ∧ J ys W') ∨ (∃ pre, pre <+: hitR X f n ∧ Jx pre W')) := by
 have hn : Hid (X.length = n) := hX.1
 have hnc := hX.2.1
 have hcm := hX.2.2.1.1
 have ga1 := Try.isAgg22
 have ga3 := Try.isAgg23
 have ga5 := Try.isAgg74
 have hc3 : W.cell? ⟨Bw, 3, none⟩ = some (.slice ao n cap) := (hBw.cell 3).trans rfl
 have hcm0 : W.cell? ⟨Bm, 0, none⟩ = some (.map (some M)) := (hBm.cell 0).trans rfl
 refine callsIn_of_wp Try.func55 rfl trivial ?_ rfl
 simp only [Try.ntmps55, List.size_toArray, List.length_cons, List.length_nil, Nat.reduceAdd, Nat.reduceSub, Array.replicate_succ, Array.replicate_zero, List.push_toArray, List.append_toArray, List.nil_append, List.cons_append]
 gi_wp2
 gi_loopw [11] (fun i wr => ∃ k : Nat, k ≤ n ∧ i = .int .i64 k ∧ Keeps D W wr ∧ J (hitR X f k) wr) (fun i _ => n - (intOf i).toNat)
 case atStart => exact ⟨0, Nat.zero_le _, rfl, Keeps.refl _ _, h0⟩
 case round =>
  obtain ⟨k, hk, rfl, hkp, hJk⟩ := hrel
  by_cases hkn : k < n
  ·have hkn' : (k : Int) < n := by omega
   obtain ⟨b, off, rfl, hDb, hcc⟩ := hX.2.2.2 (by omega)
   obtain ⟨C, hC, hr⟩ := hcc k hkn
   replace hr := range_block hr (hkp.2 b hDb)
   have hsu := hitR_succ X f k
   have hpre := hitR_pre X f (show k + 1 ≤ n by omega)
   have hz := hC.size
   have c0 := hC.id
   have hMr : MapT wr M f := hM.block (hkp.2 M hDM)
   have hcm1 : wr.cell? ⟨Bm, 0, none⟩ = some (.map (some M)) := (World.cell?_of_block (w := W) (a := ⟨Bm, 0, none⟩) (hkp.2 Bm hDm)).trans hcm0
   have hid : Hid ((oat X k).id = (oat X k).id) := rfl
   obtain ⟨i, hi⟩ : ∃ i, Hid ((oat X k).id = i) := ⟨_, rfl⟩
   rw [hi.out] at c0 hsu
   obtain ⟨v, hv⟩ : ∃ v, Hid ((f i).getD 0 = v) := ⟨_, rfl⟩
   have hBl : Bm < wr.heap.size := Nat.lt_of_lt_of_le (hD Bm hDm) hkp.1
   clear hid
   cases his : (f i).isSome with
   | false =>
    have hg : goB f i = false := by unfold goB; rw [his]; rfl
    rw [hg, if_neg (by decide), List.append_nil] at hsu
    replace hsu : Hid (hitR X f (k + 1) = hitR X f k) := hsu
    clear hg
    gi_wp2_with (first
     | (with_reducible refine inL_loadm (fun _ => trivial) (by kernel_rfl) 54 _ rfl b _ rfl C hr _ Try.underlying54 (by kernel_rfl) (size40C hz) ?_)
     | ((with_reducible refine inL_alloc (fun _ => trivial) (by kernel_rfl) _ rfl zC zero40 ?_); intro R W5 hN5 hR5 hk5)
     | ((with_reducible refine inL_store_blk (fun _ => trivial) (by kernel_rfl) _ _ _ rfl R rfl C rfl zC hR5 (size40C hz) (zC_size.trans hz.symm) hC.one ?_); intro W6 hR6 o6; have k6 : Below wr.heap.size wr W6 := o6.below wr.heap.size wr (by have := hN5.out; omega) hk5; have hm6 : W6.cell? ⟨Bm, 0, none⟩ = some (.map (some M)) := (k6.cell (p := ⟨Bm, 0, none⟩) hBl).trans hcm1; have c06 : W6.cell? ⟨R, 0, none⟩ = some (.int .u64 i) := (hR6.cell 0).trans c0; have hM6 := hMr.next k6)
     | (with_reducible refine inL_loadc (fun _ => trivial) (by kernel_rfl) _ _ rfl Bm _ rfl _ hm6 ga5 ?_)
     | (with_reducible refine inL_loadc (fun _ => trivial) (by kernel_rfl) _ _ rfl R _ rfl _ c06 ga1 ?_)
     | ((with_reducible refine inL_okT (fun _ => trivial) (by kernel_rfl) _ _ rfl M rfl i rfl f hM6 ?_); rw [his, hv.out]; skip))
    have hk1 : Keeps D wr W6 := ⟨k6.size, fun b hb => k6.block b (Nat.lt_of_lt_of_le (hD b hb) hkp.1)⟩
    have hJ1 := hJ _ wr W6 none hJk (below_grown k6) (fun r e => by cases e)
    refine ⟨fun f e => (by cases e), ?_⟩
    gi_wp2
    go_roundw
    case rel => exact ⟨k + 1, by omega, by go_num, hkp.trans hk1, by rw [hsu.out]; exact hJ1⟩
    case measure => simp [intOf]; omega
   | true =>
    by_cases hle : v ≤ 0
    ·have hg : goB f i = true := by unfold goB; rw [his, hv.out, decide_eq_true hle]; rfl
     rw [hg, if_pos rfl] at hsu
     replace hsu : Hid (hitR X f (k + 1) = hitR X f k ++ [k]) := hsu
     replace hpre : Hid (hitR X f (k + 1) <+: hitR X f n) := hpre
     clear hg
     gi_wp2_with (first
      | (with_reducible refine inL_loadm (fun _ => trivial) (by kernel_rfl) 54 _ rfl b _ rfl C hr _ Try.underlying54 (by kernel_rfl) (size40C hz) ?_)
      | ((with_reducible refine inL_alloc (fun _ => trivial) (by kernel_rfl) _ rfl zC zero40 ?_); intro R W5 hN5 hR5 hk5)
      | ((with_reducible refine inL_store_blk (fun _ => trivial) (by kernel_rfl) _ _ _ rfl R rfl C rfl zC hR5 (size40C hz) (zC_size.trans hz.symm) hC.one ?_); intro W6 hR6 o6; have k6 : Below wr.heap.size wr W6 := o6.below wr.heap.size wr (by have := hN5.out; omega) hk5; have hm6 : W6.cell? ⟨Bm, 0, none⟩ = some (.map (some M)) := (k6.cell (p := ⟨Bm, 0, none⟩) hBl).trans hcm1; have c06 : W6.cell? ⟨R, 0, none⟩ = some (.int .u64 i) := (hR6.cell 0).trans c0; have hM6 := hMr.next k6)
      | (with_reducible refine inL_loadc (fun _ => trivial) (by kernel_rfl) _ _ rfl Bm _ rfl _ hm6 ga5 ?_)
      | (with_reducible refine inL_loadc (fun _ => trivial) (by kernel_rfl) _ _ rfl R _ rfl _ c06 ga1 ?_)
      | ((with_reducible refine inL_okT (fun _ => trivial) (by kernel_rfl) _ _ rfl M rfl i rfl f hM6 ?_); rw [his, hv.out]; skip))
     have hk1 : Keeps D wr W6 := ⟨k6.size, fun b hb => k6.block b (Nat.lt_of_lt_of_le (hD b hb) hkp.1)⟩
     have hJ1 := hJ _ wr W6 none hJk (below_grown k6) (fun r e => by cases e)
     obtain ⟨fn, tmps, assign, body, hyy, hR⟩ := hY (hitR X f k) k W6 hJ1 (by have := hpre.out.length_le; rw [hsu.out] at this; simp at this; omega)
     dsimp only [encG] at hyy
     rw [hi.out] at hyy
     rw [hyy]
     gi_wp2
     refine hR.mono ?_
     rintro e W3 (⟨rfl, hJ3, hk3⟩ | ⟨rfl, hJx3⟩)
     ·gi_wp2
      go_roundw
      case rel => exact ⟨k + 1, by omega, by go_num, (hkp.trans hk1).trans hk3, by rw [hsu.out]; exact hJ3⟩
      case measure => simp [intOf]; omega
     ·gi_wp2
      refine bodyPost_ret (results_none rfl _ _ _) rfl ?_
      exact ⟨⟨_, rfl⟩, .inr ⟨_, by have h1 := hpre.out; rw [hsu.out] at h1; exact h1, hJx3⟩⟩
    ·have hg : goB f i = false := by unfold goB; rw [his, hv.out, decide_eq_false hle]; rfl
     rw [hg, if_neg (by decide), List.append_nil] at hsu
     replace hsu : Hid (hitR X f (k + 1) = hitR X f k) := hsu
     clear hg
     gi_wp2_with (first
      | (with_reducible refine inL_loadm (fun _ => trivial) (by kernel_rfl) 54 _ rfl b _ rfl C hr _ Try.underlying54 (by kernel_rfl) (size40C hz) ?_)
      | ((with_reducible refine inL_alloc (fun _ => trivial) (by kernel_rfl) _ rfl zC zero40 ?_); intro R W5 hN5 hR5 hk5)
      | ((with_reducible refine inL_store_blk (fun _ => trivial) (by kernel_rfl) _ _ _ rfl R rfl C rfl zC hR5 (size40C hz) (zC_size.trans hz.symm) hC.one ?_); intro W6 hR6 o6; have k6 : Below wr.heap.size wr W6 := o6.below wr.heap.size wr (by have := hN5.out; omega) hk5; have hm6 : W6.cell? ⟨Bm, 0, none⟩ = some (.map (some M)) := (k6.cell (p := ⟨Bm, 0, none⟩) hBl).trans hcm1; have c06 : W6.cell? ⟨R, 0, none⟩ = some (.int .u64 i) := (hR6.cell 0).trans c0; have hM6 := hMr.next k6)
      | (with_reducible refine inL_loadc (fun _ => trivial) (by kernel_rfl) _ _ rfl Bm _ rfl _ hm6 ga5 ?_)
      | (with_reducible refine inL_loadc (fun _ => trivial) (by kernel_rfl) _ _ rfl R _ rfl _ c06 ga1 ?_)
      | ((with_reducible refine inL_okT (fun _ => trivial) (by kernel_rfl) _ _ rfl M rfl i rfl f hM6 ?_); rw [his, hv.out]; skip))
     have hk1 : Keeps D wr W6 := ⟨k6.size, fun b hb => k6.block b (Nat.lt_of_lt_of_le (hD b hb) hkp.1)⟩
     have hJ1 := hJ _ wr W6 none hJk (below_grown k6) (fun r e => by cases e)
     refine ⟨fun f e => (by cases e), ?_⟩
     gi_wp2
     go_roundw
     case rel => exact ⟨k + 1, by omega, by go_num, hkp.trans hk1, by rw [hsu.out]; exact hJ1⟩
     case measure => simp [intOf]; omega
  ·obtain rfl : k = n := by omega
   gi_wp2
   go_end0
   exact ⟨⟨_, rfl⟩, .inl ⟨_, rfl, hJk⟩⟩
end Go.Proofs.Ytcmcakandbpjfaa
namespace Go.Proofs.Ytcmcakandbpjfaa
set_option maxRecDepth 100000
set_option maxHeartbeats 8000000
open Go.RowKit Go.Shelf
set_option linter.unusedVariables false
attribute [local go_sem] Oper.semAt_some

theorem goB_iff {t ro : Int} {key : Nat} {X : List Ob} {i d : Int} {row C : List Int} (hf : fitD t key ro X = true) (hd : i ∈ (fO X d).links) (h : CutI X i row.length row C) (k : Int) : goB (cutF X row) k = decide (k ∈ C) := by
 have hT := tre_of hf
 have hm := h.mem k
 rw [List.take_length] at hm
 have hlk : ∀ {c j : Int}, j ∈ (fO X c).links → 1 ≤ cntL X j := fun {c j} hj => by
  obtain ⟨o, _, eo, hox, hid⟩ := fO_links hj
  exact List.length_pos_iff.2 (List.ne_nil_of_mem (hol_mem.2 ⟨o, hox, hid, by rw [eo] at hj; exact hj⟩))
 by_cases h1 : 1 ≤ cntL X k
 ·have := cutF_end (r := row) k h1
  unfold goB
  rw [Bool.eq_iff_iff, Bool.and_eq_true, decide_eq_true_eq, decide_eq_true_eq, this, hm]
 ·have h0 : row.count k = 0 := by
   rw [List.count_eq_zero]
   intro q
   rw [h.rowe] at q
   rcases List.mem_cons.1 q with r | r
   ·exact h1 (r ▸ hlk hd)
   ·obtain ⟨c, hc, hlc⟩ := List.mem_flatMap.1 r
    exact h1 (hlk hlc)
  have hc0 : cntL X k = 0 := by omega
  have e : cutF X row k = none := by unfold cutF; rw [if_pos ⟨hc0, h0⟩]
  have hn : ¬ k ∈ C := fun q => h1 (hm.1 q).1
  unfold goB
  rw [e, decide_eq_false hn]
  rfl
theorem hitR_lost {t ro : Int} {key : Nat} {X : List Ob} {i d : Int} {row C : List Int} (hf : fitD t key ro X = true) (hd : i ∈ (fO X d).links) (h : CutI X i row.length row C) : Gone X ro (oneP d i) ((hitR X (cutF X row) X.length).map fun k => (oat X k).id) := by
 rw [hitR_ids, show goB (cutF X row) = fun k => decide (k ∈ C) from funext fun k => goB_iff hf hd h k]
 exact cut_gone hf hd h
theorem goC_v {w : World} {M : Nat} {G : Array Value} : Calls Try.prog 34 #[.map (some M), .agg G] w fun e w' => e = .returned (.func (.func 55) #[] #[.pointer (some ⟨w.heap.size + 1, 0, none⟩), .pointer (some ⟨w.heap.size, 0, none⟩)]) ∧
   w' = (w.alloc (.cells #[.map (some M)] 74)).alloc (.cells G 25) := by
 go_enter Try.func34, Try.ntmps34
 go_wp2
 go_ret
 exact ⟨rfl, rfl⟩
theorem gone_stops (N : Nat) (hN : 1 ≤ N) (Bw Bm M : Nat) (D : Nat → Prop) {t ke ro : Int} {ao : Option Addr} {n cap : Nat} {X : List Ob} {f : Int → Option Int} (w : World) (hD : ∀ b, D b → b < w.heap.size) (hDw : D Bw) (hDm : D Bm) (hDM : D M) (hBw : Blk w Bw #[.int .i64 t, .int .u64 ke, .int .u64 ro, .slice ao n cap] 25) (hBm : Blk w Bm #[.map (some M)] 74) (hM : MapT w M f) (hX : ObsD D D w ao n cap X) :
  SeqStopsK Fence.wide N Try.prog 55 #[.pointer (some ⟨Bw, 0, none⟩), .pointer (some ⟨Bm, 0, none⟩)] (encG X) (Keeps D) (fun ys => ys = hitR X f n) (fun pre => pre <+: hitR X f n) (hitR X f n).length w := fun l J Jx W hW hJ _ hY h0 =>
 gone1_in N hN l Bw Bm M D J Jx hY W hJ (fun b hb => Nat.lt_of_lt_of_le (hD b hb) hW.size) hDw hDm hDM ((hW.block Bw (hD Bw hDw)).trans hBw) ((hW.block Bm (hD Bm hDm)).trans hBm) (hM.block (hW.block M (hD M hDM))) (hX.laterK (fun b hb => hW.block b (hD b hb)) (fun b hb => hW.block b (hD b hb))) h0
theorem ownsS {W : World} {b b' : Nat} {e : TypeId} {size : Nat} {v : Value} {k : Nat} {xs : List Value} (hb : b' ≤ b) (h : W.ownsRow b e size v k xs) : W.ownsRow b' e size v k xs := by
 refine ⟨h.1, ?_⟩
 rcases h.2 with h0 | ⟨g, c, cur, h1, h2, h3⟩
 ·exact .inl h0
 ·exact .inr ⟨g, c, cur, h1, Nat.le_trans hb h2, h3⟩
theorem appS {W w1 : World} {s r B : Nat} {t e : TypeId} {size : Nat} {v v' : Value} {k m : Nat} {xs ys : List Value} {tmp : Obj} (hv : Boxed W B t v) (hte : t ≠ e) (hrow : W.ownsRow r e size v k xs) (hs : s ≤ W.heap.size) (hsr : s ≤ r) (hB : s ≤ B)
  (hown' : w1.ownsRow r e size v' m ys) (hgrow : (W.alloc tmp).grownBy w1 v.ownBlock) :
  Boxed w1 B t v ∧ Boxed (w1.setCell ⟨B, 0, none⟩ v') B t v' ∧ (w1.setCell ⟨B, 0, none⟩ v').ownsRow r e size v' m ys ∧ KeepsOthers W (w1.setCell ⟨B, 0, none⟩ v') ∧ Below s W (w1.setCell ⟨B, 0, none⟩ v') ∧
  (∀ B' t' u, Boxed W B' t' u → t' ≠ e → B' ≠ B → Boxed (w1.setCell ⟨B, 0, none⟩ v') B' t' u) ∧ (∀ b, b < W.heap.size → b < r → b ≠ B → (w1.setCell ⟨B, 0, none⟩ v').heap[b]? = W.heap[b]?) := by
 obtain ⟨h1, h2, _, h4, h5⟩ := hv.appended hte (ownsS hsr hrow) hs hB (ownsS hsr hown') hgrow
 refine ⟨h1, h2, hown'.kept (grownBy_setCell' w1 B v') (.inr (h1.not_row hte hown').symm), h4, h5, ?_, ?_⟩
 ·intro B' t' u hu ht hne
  exact ((hu.alloc tmp).kept hgrow (hu.not_row ht hrow)).other hne _
 intro b hbW hbr hne
 rw [Below.heap_setCell w1 ⟨B, 0, none⟩ _ b hne]
 refine (hgrow.block b (by simp; omega) (fun e' => ?_)).trans (Below.heap_alloc W tmp b hbW)
 have := (hrow.lt b e'.symm).1
 omega

theorem lost_v {w : World} {t ro : Int} {key : Nat} {ao : Option Addr} {n cap : Nat} {X : List Ob} {d i : Int} (h : Obs w ao n cap X) (hf : fitD t key ro X = true) (hn16 : n ≤ 4096) (hsm : Smalls X) : Calls Try.prog 13 #[.agg #[.int .i64 t, .int .u64 (key : Int), .int .u64 ro, .slice ao n cap], .int .u64 d, .int .u64 i] w fun e w' => ∃ v L, e = .returned v ∧ Hid ((i ∈ (fO X d).links → Gone X ro (oneP d i) L) ∧ (¬ i ∈ (fO X d).links → L = []) ∧ L.length ≤ n) ∧ w'.ownsRow w.heap.size 22 1 v L.length (wordsC L) ∧ Below w.heap.size w w' := by
 obtain ⟨i0, hi0, hz0, hz1, hz2⟩ := info_parts infoW
 have hT := tre_of hf
 have hn : Hid (X.length = n) := h.1
 have hnd : ∀ x ∈ X, x.links.Nodup := fun x hx => links_nodup (hT.snd x hx)
 have hpl := fun {W : World} (hk : Below w.heap.size w W) => place_v (t := t) (ke := (key : Int)) (ro := ro) (d := d) (i := i) (obs_next h hk) hT.srt hn16 hsm
 have htd := fun {W : World} (hk : Below w.heap.size w W) => tied_v (t := t) (ke := (key : Int)) (ro := ro) (obs_next h hk) hn16 hsm hnd
 have hct := fun {W : World} {M : Nat} (hk : Below w.heap.size w W) (hM0 : w.heap.size ≤ M) (hM : MapT W M (cntF X [])) => cut_v (t := t) (key := key) (ro := ro) (i := i) h hk hM0 hn16 hsm hf hM
 have hzG : (Try.prog.info? 25).map (·.size) = some (#[.int .i64 t, .int .u64 (key : Int), .int .u64 ro, .slice ao n cap] : Array Value).size := by kernel_rfl
 obtain ⟨G, hG⟩ : ∃ G : Array Value, Hid (G = #[.int .i64 t, .int .u64 (key : Int), .int .u64 ro, .slice ao n cap]) := ⟨_, rfl⟩
 rw [← hG.out] at hzG hpl htd hct
 rw [← hG.out]
 refine (callsIn_wide (n := 5)).1 ?_
 refine callsIn_of_wp_marks Try.func13 rfl trivial ?_ rfl
 simp only [Try.ntmps13, List.size_toArray, List.length_cons, List.length_nil, Nat.reduceAdd, Nat.reduceSub, Array.replicate_succ, Array.replicate_zero, List.push_toArray, List.append_toArray, List.nil_append, List.cons_append]
 gi_wp2_with (first
  | (with_reducible refine inL_box (fun _ => trivial) (by kernel_rfl) 25 _ rfl G rfl ?_; intro B W1 hN1 hB hk)
  | (with_reducible refine inL_loadb (fun _ => trivial) (by kernel_rfl) _ _ rfl B rfl G _ hB _ Try.underlying25 (by kernel_rfl) hzG ?_)
  | (refine ⟨trivial, ?_⟩; gi_at_call 20; (with_reducible refine (callsIn_wide.2 (hpl hk)).mono ?_); rintro e w2 ⟨C, r, rfl, hC, hr, hb2, hM2⟩; clear hM2; replace hB := hB.next hb2; replace hk := hk.trans (hb2.mono hk.size))
  | ((with_reducible refine inL_alloc (fun _ => trivial) (by kernel_rfl) _ rfl zC zero40 ?_); intro P W3 hN3 hP hk3; have hBP : B ≠ P := (by have := hB.lt; have := hN3.out; omega); have hwP : w.heap.size ≤ P := (by have := hN3.out; have := hk.size; omega); replace hB := hB.next hk3; replace hk := hk.trans (hk3.mono hk.size))
  | ((with_reducible refine inL_store_blk (fun _ => trivial) (by kernel_rfl) _ _ _ rfl P rfl C rfl zC hP (size40C hC.size) (zC_size.trans hC.size.symm) hC.one ?_); intro W4 hP4 o4; replace hB := hB.other o4 hBP; replace hk := o4.below _ _ hwP hk; clear hP4 o4)
  | (refine ⟨trivial, ?_⟩; gi_at_call 32; (with_reducible refine (callsIn_wide.2 (htd hk)).mono ?_); rintro e w5 ⟨M, rfl, hM0, hM, hb5⟩; have hMw : w.heap.size ≤ M := Nat.le_trans hk.size hM0; have hBM : B < M := Nat.lt_of_lt_of_le hB.lt hM0; replace hB := hB.next hb5; replace hk := hk.trans (hb5.mono hk.size))
  | (refine ⟨trivial, ?_⟩; gi_at_call 33; (with_reducible refine (callsIn_wide.2 (hct hk hMw hM)).mono ?_); rintro e w6 ⟨row, C2, rfl, hC2, hM6, hb6⟩; have hB6 : Blk w6 B G 25 := (hb6.block B hBM).trans hB; have hk6 : Below w.heap.size w w6 := hk.trans (hb6.mono hMw); have hBn := hB6.next ((Below.refl w6.heap.size w6).alloc (Nat.le_refl _) (.cells #[.slice none 0 0] 28)))
  | (with_reducible refine inL_loadb (fun _ => trivial) (by kernel_rfl) _ _ rfl B rfl G _ hBn _ Try.underlying25 (by kernel_rfl) hzG ?_)
  | (refine ⟨trivial, ?_⟩; gi_at_call 34; (with_reducible refine (callsIn_wide.2 goC_v).mono ?_); rintro e w' ⟨rfl, rfl⟩))
 ·have hni : ¬ i ∈ (fO X d).links := fun q => by have := hr.out.1.2 q; omega
  exact ⟨_, results_tmp rfl _ _ _, _, [], rfl, ⟨fun q => absurd q hni, fun _ => rfl, Nat.zero_le _⟩, World.ownsRow_nil _ _ _ _, hk⟩
 ·-- the loop
  have hin : i ∈ (fO X d).links := hr.out.1.1 (by omega)
  have hls := hitR_lost hf hin hC2.out
  rw [hn.out] at hls
  have hlen : (hitR X (cutF X row) n).length ≤ n := by unfold hitR; exact Nat.le_trans (List.length_filter_le ..) (by simp)
  have hMl := hM6.lt
  have hB6l := hB6.lt
  have bO := ((Boxed.new w6 28 (.slice none 0 0)).alloc (.cells #[.map (some M)] 74)).alloc (.cells G 25)
  have bm := Blk.new (w6.alloc (.cells #[.slice none 0 0] 28)) #[.map (some M)] 74
  have bm2 := bm.next ((Below.refl _ ((w6.alloc (.cells #[.slice none 0 0] 28)).alloc (.cells #[.map (some M)] 74))).alloc (Nat.le_refl _) (.cells G 25))
  have bw := Blk.new ((w6.alloc (.cells #[.slice none 0 0] 28)).alloc (.cells #[.map (some M)] 74)) G 25
  have hb0 : Below w6.heap.size w6 (((w6.alloc (.cells #[.slice none 0 0] 28)).alloc (.cells #[.map (some M)] 74)).alloc (.cells G 25)) := (((Below.refl _ w6).alloc (Nat.le_refl _) _).alloc (by simp only [World.size_alloc]; omega) _).alloc (by simp only [World.size_alloc]; omega) _
  have hsz : (((w6.alloc (.cells #[.slice none 0 0] 28)).alloc (.cells #[.map (some M)] 74)).alloc (.cells G 25)).heap.size = w6.heap.size + 3 := by simp
  simp only [World.size_alloc] at bm2 bw
  have hM0 := hM6.next hb0
  have hbw := hk6.trans (hb0.mono hk6.size)
  obtain ⟨W0, hW0⟩ : ∃ W0, ((w6.alloc (.cells #[.slice none 0 0] 28)).alloc (.cells #[.map (some M)] 74)).alloc (.cells G 25) = W0 := ⟨_, rfl⟩
  rw [hW0] at bO bm2 bw hsz hM0 hbw hb0 ⊢
  rw [hG.out] at bw
  clear hW0 bm hBn
  have hw6 := hk6.size
  have hXD := (ObsD.laterK h (fun b hb => hbw.block b hb) (fun b hb => hbw.block b hb)).wide (E' := fun b => b < W0.heap.size ∧ b ≠ w6.heap.size) (D' := fun b => b < W0.heap.size ∧ b ≠ w6.heap.size) (fun b (hb : b < w.heap.size) => ⟨by omega, by omega⟩) (fun b (hb : b < w.heap.size) => ⟨by omega, by omega⟩)
  refine wpIn_rangeFunc_ownH rfl (by omega) (gf := 55) (lb := #[.pointer (some ⟨w6.heap.size + 1 + 1, 0, none⟩), .pointer (some ⟨w6.heap.size + 1, 0, none⟩)]) rfl trivial (enters_of Try.func55 (by kernel_rfl) rfl)
   (gone_stops _ (by omega) (w6.heap.size + 1 + 1) (w6.heap.size + 1) M (fun b => b < W0.heap.size ∧ b ≠ w6.heap.size) W0 (fun b hb => hb.1) ⟨by omega, by omega⟩ ⟨by omega, by omega⟩ ⟨by omega, by omega⟩ bw bm2 hM0 hXD) keepsK_t (keepsK_b (fun b hb => hb.1)) (Below.refl _ _) (fun _ => rfl)
   (fun pre W => (∃ v, Boxed W w6.heap.size 28 v ∧ W.ownsRow W0.heap.size 22 1 v pre.length (pre.map fun k => Value.int .u64 (oat X k).id) ∧ True) ∧ Below w.heap.size w W)
   (fun _ _ _ => False)
   (OwnFrom.and (Own.from (holdsRow_own W0.heap.size w6.heap.size 28 22 1 (fun (pre : List Nat) => pre.length) (fun (pre : List Nat) => pre.map fun k => Value.int .u64 (oat X k).id) (fun _ _ => True)) _) (ownFrom_below (Nat.le_refl _) (by have := hk6.size; omega)))
   (fun _ _ _ _ _ hs _ _ => hs)
   ⟨⟨_, bO, World.ownsRow_nil _ _ _ _, trivial⟩, hk6.trans (hb0.mono hk6.size)⟩
   (fun x a' _ => a' = { tmps := #[.agg G, .int .u64 d, .int .u64 i, .pointer (some ⟨B, 0, none⟩), undef, undef, .slice none 0 0, .pointer (some ⟨P, 0, none⟩), .int .i64 r, .map (some M), .pointer (some ⟨w6.heap.size, 0, none⟩), .int .u64 (oat X x).id, .tuple #[.agg C, .int .i64 r], .agg G, .int .u64 d, .int .u64 i, .tuple #[.agg C, .int .i64 r], .agg C, .int .i64 r, .int .i64 r, .bool (decide (r < 0)), .agg G, .map (some M), .map (some M), .agg G, .int .u64 i, .tuple #[], .map (some M), .agg G, .func (.func 55) #[] #[.pointer (some ⟨w6.heap.size + 1 + 1, 0, none⟩), .pointer (some ⟨w6.heap.size + 1, 0, none⟩)], .int .u64 (oat X x).id, undef, undef, undef, undef, undef], defers := [] })
   (fun x a' _ X Y row hs hg hr => hs)
   ?assign ?body ?done ?stop
  case assign =>
   rintro l pre x W K hJ hK
   dsimp only [encG]
   gi_wp2
   exact hK _ _ (KeepsFrom.refl _ _) (Keeps.refl _ _) hJ rfl
  case body =>
   rintro l pre x a' W hl ⟨rr, hrr⟩ ⟨⟨v, bO1, hrow, _⟩, hB1⟩ rfl hlt
   have cO := bO1.cell
   have hlW : l < W.heap.size := (Array.getElem?_eq_some_iff.1 hrr).1
   gi_wp2_with (gi_at_builtin; refine wpListIn_append_own _ rfl _ _ 28 rfl W0.heap.size 22 i0 (.int .u64 0) 1 8 Try.underlying28 hi0 hz0 hz1 hz2 rfl (by decide) _ _ _ rfl (hrow.alloc _) ⟨W.heap.size, 0, none⟩ 1 1 [.int .u64 (oat X x).id] rfl rfl (cell_one_new _ _ _) (by simp [Value.oneCell']) (by unfold maxLen; omega) (by omega) (by simp; omega) ?_; intro v' w2 hown' hgrow _; obtain ⟨g', cap', rfl⟩ := ownsRow_two hown'; obtain ⟨hv1, hv2, hr2, hk2, hb2, ho2, hd2⟩ := appS (s := w.heap.size) bO1 (by decide) hrow hB1.size (by omega) (by omega) hown' hgrow; have hc1 := hv1.cell; have hf1 := hv1.frozen)
   exact ⟨hk2.from _, ⟨Nat.le_trans hb2.size (Nat.le_refl _), fun b hb => hd2 b (by have := hb.1; omega) hb.1 hb.2⟩, ⟨⟨_, hv2, by simpa using hr2, trivial⟩, hB1.trans hb2⟩⟩
  case done =>
   rintro Dd ys W hD rfl ⟨⟨v, bO1, hrow, _⟩, hB1⟩ hK
   have cO := bO1.cell
   gi_wp2
   refine ⟨by simp, .inl ⟨_, _, rfl, run_takeDeferred hK, ?_⟩⟩
   refine ⟨_, results_tmp rfl _ _ _, _, _, rfl, ⟨fun _ => hls, fun q => absurd hin q, by rw [List.length_map]; exact hlen⟩, ?_, hB1.trans (belowK_b (w := w) (Nat.le_refl _) W Dd _ _ (by omega) hK rfl rfl)⟩
   rw [List.length_map]
   have e : wordsC ((hitR X (cutF X row) n).map fun k => (oat X k).id) = (hitR X (cutF X row) n).map fun k => Value.int .u64 (oat X k).id := by simp [wordsC]
   rw [e]
   exact ownsRow_putObj (ownsS (by omega) hrow) _ hK rfl
  case stop =>
   rintro D c pre W _ _ h _
   exact h.elim
end Go.Proofs.Ytcmcakandbpjfaa
namespace Go.Proofs.Ytcmcakandbpjfaa
set_option maxRecDepth 100000
set_option maxHeartbeats 8000000
open Go.RowKit Go.Shelf
set_option linter.unusedVariables false
attribute [local go_sem] Oper.semAt_some

theorem goes_v {w : World} {P : Nat} {C : Array Value} {x : Ob} {al : Option Addr} {nl cl : Nat} {L : List Int} (hP : Blk w P #[.slice al nl cl] 28) (hC : ObD (LtN w) w C x) (h : CtD (LtN w) w al nl cl L) (hs : L.Pairwise (· < ·)) (hn16 : nl ≤ 4096) : Calls Try.prog 25 #[.agg C, .pointer (some ⟨P, 0, none⟩)] w fun e w' => e = .returned (.bool (decide (x.id ∈ L))) ∧ Below w.heap.size w w' := by
 have ga1 := Try.isAgg22
 have ga4 := Try.isAgg28
 have c0 := hC.id
 have hp0 : (#[.slice al nl cl] : Array Value)[0]? = some (.slice al nl cl) := rfl
 have hbs := fun (W : World) (hk : Below w.heap.size w W) => bsw_full (i := x.id) ((h.laterK fun b hb => hk.block b hb).wide fun b hb => Nat.lt_of_lt_of_le hb hk.size) hs hn16
 go_enter Try.func25, Try.ntmps25
 go_wp2_with (first
  | go_skip
  | (with_reducible refine wpList_box rfl _ _ rfl C rfl ?_; intro B W1 hN1 hB hk; replace hP := hP.next hk)
  | (with_reducible refine wpList_load1 (by kernel_rfl) _ _ rfl P _ rfl _ _ hP _ hp0 ga4 ?_)
  | (with_reducible refine wpList_load1 (by kernel_rfl) _ _ rfl B _ rfl _ _ hB _ c0 ga1 ?_)
  | (go_at_call 26; (with_reducible refine (hbs _ hk).mono ?_); rintro e w2 ⟨rfl, rfl⟩))
 go_ret
 exact ⟨rfl, hk⟩
def stB0 (L : List Int) (x : Ob) : Bool := decide (¬ x.id ∈ L)
theorem indexF_v {w : World} {P : Nat} {al ao : Option Addr} {nl cl n cap : Nat} {L : List Int} {Y : List Ob} (hY : Obs w ao n cap Y) (hP : Blk w P #[.slice al nl cl] 28) (h : CtD (LtN w) w al nl cl L) (hs : L.Pairwise (· < ·)) (hn16 : nl ≤ 4096) : Calls Try.prog 51 #[.slice ao n cap, .func (.func 25) #[] #[.pointer (some ⟨P, 0, none⟩)]] w fun e w' => ∃ r : Int, e = .returned (.int .i64 r) ∧ Hid (r = -1 ∧ (∀ k, k < n → stB0 L (oat Y k) = true) ∨ ∃ k : Nat, r = k ∧ k < n ∧ (∀ j, j < k → stB0 L (oat Y j) = true) ∧ stB0 L (oat Y k) = false) ∧ Below w.heap.size w w' := by
 have hnc := hY.2.1
 have hcm := hY.2.2.1.1
 go_enter Try.func51, Try.ntmps51
 go_wp2
 go_loopw [8] (fun i wr => ∃ k : Nat, k ≤ n ∧ i = .int .i64 k ∧ Hid (∀ j, j < k → stB0 L (oat Y j) = true) ∧ Below w.heap.size w wr) (fun i _ => n - (intOf i).toNat)
 case atStart => exact ⟨0, Nat.zero_le _, rfl, fun j hj => absurd hj (by omega), Below.refl _ _⟩
 case round =>
  obtain ⟨k, hk1, rfl, hal, hk⟩ := hrel
  by_cases hkn : k < n
  ·have hkn' : (k : Int) < n := by omega
   obtain ⟨b, off, C, rfl, hbb, hC, hr⟩ := obs_at (obs_next hY hk) hkn
   have hz := hC.size
   have hgo := goes_v (hP.next hk) hC ((h.laterK fun b hb => hk.block b hb).wide fun b hb => Nat.lt_of_lt_of_le hb hk.size) hs hn16
   by_cases hm : (oat Y k).id ∈ L
   ·rw [decide_eq_true hm] at hgo
    go_wp2_with (first
     | go_skip
     | (with_reducible refine wpList_loadm (by kernel_rfl) 54 _ rfl b _ rfl C hr _ Try.underlying54 (by kernel_rfl) (size40C hz) ?_)
     | (go_at_call 25; (with_reducible refine hgo.mono ?_); rintro e w2 ⟨rfl, hb2⟩))
    go_ret
    exact ⟨(k : Int), rfl, .inr ⟨k, rfl, hkn, hal.out, by unfold stB0; simp [hm]⟩, hk.trans (hb2.mono hk.size)⟩
   ·rw [decide_eq_false hm] at hgo
    have hal2 : Hid (∀ j, j < k + 1 → stB0 L (oat Y j) = true) := fun j hj => by
     rcases Nat.lt_or_ge j k with q | q
     ·exact hal.out j q
     ·obtain rfl : j = k := by omega
      unfold stB0; simp [hm]
    go_wp2_with (first
     | go_skip
     | (with_reducible refine wpList_loadm (by kernel_rfl) 54 _ rfl b _ rfl C hr _ Try.underlying54 (by kernel_rfl) (size40C hz) ?_)
     | (go_at_call 25; (with_reducible refine hgo.mono ?_); rintro e w2 ⟨rfl, hb2⟩))
    go_roundw
    case rel => exact ⟨k + 1, by omega, by go_num, hal2, hk.trans (hb2.mono hk.size)⟩
    case measure => simp [intOf]; omega
  ·obtain rfl : k = n := by omega
   go_wp2
   go_ret
   exact ⟨-1, rfl, .inl ⟨rfl, hal.out⟩, hk⟩
end Go.Proofs.Ytcmcakandbpjfaa
namespace Go.Proofs.Ytcmcakandbpjfaa
set_option maxRecDepth 100000
set_option maxHeartbeats 8000000
open Go.RowKit Go.Shelf
set_option linter.unusedVariables false
attribute [local go_sem] Oper.semAt_some

theorem wsl3 {g r n cap : Nat} (h : r < n) (hn : n ≤ cap) (W : World) : (Instr.sliceAt 28 (.slice (some ⟨g, 0, none⟩) n cap) (some (.int .i64 (r : Int))) (some (.int .i64 ((r : Int) + 1))) (some (.int .i64 (n : Int)))).run Try.prog W = .ok (.slice (some ⟨g, r, none⟩) 1 (n - r)) W := by
 unfold Instr.sliceAt Instr.slice Instr.sliceBounds
 simp [go_sem, run_underlying Try.underlying28, Result.andThen]
 rw [if_pos hn]
 dsimp only
 rw [if_pos ⟨by omega, by omega⟩]
 dsimp only
 rw [if_pos (by omega)]
 dsimp only
 rw [if_neg (by omega), show r + 1 - r = 1 by omega]
theorem wslTo {g k n cap : Nat} (hk : k ≤ n) (hn : n ≤ cap) (W : World) : (Instr.sliceAt 28 (.slice (some ⟨g, 0, none⟩) n cap) none (some (.int .i64 (k : Int))) none).run Try.prog W = .ok (.slice (some ⟨g, 0, none⟩) k cap) W := by
 have h2 : k ≤ cap := by omega
 unfold Instr.sliceAt Instr.slice Instr.sliceBounds
 simp [go_sem, run_underlying Try.underlying28, Result.andThen, h2]
theorem wslFrom {g k n cap : Nat} (hk : k ≤ n) (hn : n ≤ cap) : ∃ a' : Addr, (k < n → a' = ⟨g, k, none⟩) ∧ ∀ W, (Instr.sliceAt 28 (.slice (some ⟨g, 0, none⟩) n cap) (some (.int .i64 (k : Int))) none none).run Try.prog W = .ok (.slice (some a') (n - k) (cap - k)) W := by
 by_cases hc : cap = k
 ·refine ⟨⟨g, 0, none⟩, fun q => by omega, fun W => ?_⟩
  subst hc
  unfold Instr.sliceAt Instr.slice Instr.sliceBounds
  simp [go_sem, run_underlying Try.underlying28, Result.andThen, hk]
 ·refine ⟨Addr.add ⟨g, 0, none⟩ k, fun q => ?_, fun W => ?_⟩
  ·unfold Addr.add; split
   ·rename_i h0; rw [h0]
   ·simp
  ·unfold Instr.sliceAt Instr.slice Instr.sliceBounds
   simp [go_sem, run_underlying Try.underlying28, Result.andThen, hk, hc]
theorem wslTail {g m n cap : Nat} (h : m + 1 = n) (hn : n ≤ cap) (W : World) : (Instr.sliceAt 28 (.slice (some ⟨g, 0, none⟩) m cap) (some (.int .i64 (m : Int))) (some (.int .i64 (n : Int))) none).run Try.prog W = .ok (.slice (some ⟨g, m, none⟩) 1 (cap - m)) W := by
 unfold Instr.sliceAt Instr.slice Instr.sliceBounds
 simp [go_sem, run_underlying Try.underlying28, Result.andThen]
 rw [if_pos hn]
 dsimp only
 rw [if_pos (by omega)]
 dsimp only
 rw [if_neg (by omega), show n - m = 1 by omega]
def appOf (ops : Array Oper) (o : Oper) (a : Act) : Option (TypeId × TypeId × Value × Value × Option Tmp) :=
 if Region.wanted o (yielded ops a.tmps) then
  match o.op with
  | .call c =>
   match c.callee with
   | .builtin b =>
    match b with
    | .append =>
     match c.args.toList, c.argTypes.toList with
     | [x, y], [t, t'] => if t' = t then some (t, o.type, a.eval x, a.eval y, o.dst) else none
     | _, _ => none
    | _ => none
   | _ => none
  | _ => none
 else none
theorem wpOp_appL {ops : Array Oper} {Q : Exit → Act → World → Prop} {w W : World} {a : Act} {i : Nat} {t ty : TypeId} {x y v : Value} {d : Option Tmp} {K : Act → World → Prop} (hi : (ops[i]?).bind (fun o => appOf ops o a) = some (t, ty, x, y, d)) (hr : (Builtin.append_ #[t, t] ty #[x, y]).run Try.prog w = .ok v W)
  (h : K (a.put d v) W) : wpOp Try.prog ops Q i K a w := by
 cases ho : ops[i]? with
 | none => rw [ho] at hi; cases hi
 | some o =>
  rw [ho] at hi
  have hi' : appOf ops o a = _ := hi
  unfold appOf at hi'
  split at hi'
  ·rename_i hw
   split at hi'
   ·rename_i c hop
    split at hi'
    ·rename_i b hb
     split at hi'
     ·split at hi'
      ·rename_i x' y' t1 t2 hA hT
       split at hi'
       ·rename_i e
        subst e
        cases hi'
        obtain ⟨ce, ar, at_⟩ := c
        obtain ⟨arl⟩ := ar
        obtain ⟨atl⟩ := at_
        dsimp only at hA hT hb
        subst hA hT hb
        unfold wpOp
        simp only [ho, hw, if_true]
        left
        unfold Oper.wp
        simp [execOp, hop, resolve, invoke, builtin, hr, Result.andThen]
        exact h
       ·cases hi'
      ·cases hi'
     ·cases hi'
    ·cases hi'
   ·cases hi'
  ·cases hi'
theorem wpList_sl {ops : Array Oper} {Q : Exit → Act → World → Prop} {w : World} {a : Act} {op : Oper} {rest : List Oper} (hw : Region.wanted op (yielded ops a.tmps) = true) (t : TypeId) (x : Operand) (lo hi mx : Option Operand) (ho : op.op = .slice t x lo hi mx) (u v : Value) (l1 l2 l3 : Option Value) (h0 : a.eval x = u) (h1 : lo.map a.eval = l1) (h2 : hi.map a.eval = l2) (h3 : mx.map a.eval = l3)
  (hr : (Instr.sliceAt t u l1 l2 l3).run Try.prog w = .ok v w) (h : wpList Try.prog ops Q rest (a.put op.dst v) w) : wpList Try.prog ops Q (op :: rest) a w := by
 subst h0 h1 h2 h3
 refine wpList_val hw ?_ h
 unfold execOp
 simp [ho, hr, Result.andThen]
end Go.Proofs.Ytcmcakandbpjfaa
namespace Go.Proofs.Ytcmcakandbpjfaa
set_option maxRecDepth 100000
set_option maxHeartbeats 8000000
open Go.RowKit Go.Shelf
set_option linter.unusedVariables false
attribute [local go_sem] Oper.semAt_some

theorem oth_drew (g : Nat) (w : World) : Oth g w w.drew := ⟨rfl, fun _ _ => rfl, fun _ _ _ h => h.drew⟩
theorem run_clear1 {w : World} {g m c : Nat} {cur : Array Value} {ty : TypeId} (hB : Blk w g cur 22) (hm : m < cur.size) : (Builtin.clear_ #[28] ty #[.slice (some ⟨g, m, none⟩) 1 c]).run Try.prog w = .ok (.tuple #[]) (w.setCells g m [.int .u64 0]) := by
 have hst := run_storeCells_cells (P := Try.prog) g m [.int .u64 0] 0 w (fun j hj => by rw [hB.cell, Array.getElem?_eq_getElem (by simp at hj; omega)]; rfl) (fun j hj => hB.frozen _) (fun u hu => by rw [List.mem_singleton] at hu; rw [hu]; rfl)
 unfold Builtin.clear_
 simp [run_underlying Try.underlying28, Result.andThen, Try.zeroValue22]
 rw [show (Builtin.zeroCells (Value.int IntKind.u64 0).cells 1).toList = [.int .u64 0] by simp [Builtin.zeroCells, Value.cells], hst]
 rfl
theorem wpList_clr {ops : Array Oper} {Q : Exit → Act → World → Prop} {w W : World} {a : Act} {op : Oper} {rest : List Oper} (hw : Region.wanted op (yielded ops a.tmps) = true) (t : TypeId) (x : Operand) (ho : op.op = .call { callee := .builtin .clear, args := #[x], argTypes := #[t] }) (u : Value) (h0 : a.eval x = u) {v : Value}
  (hr : (Builtin.clear_ #[t] op.type #[u]).run Try.prog w = .ok v W) (h : wpList Try.prog ops Q rest (a.put op.dst v) W) : wpList Try.prog ops Q (op :: rest) a w := by
 subst h0
 refine wpList_wanted hw ?_
 unfold Oper.wp
 simp [execOp, ho, resolve, invoke, builtin, hr, Result.andThen]
 exact h
theorem delete_v {w : World} {g n cap r : Nat} {L : List Int} {cur : Array Value} (hB : Blk w g cur 22) (hz : cur.size = cap) (hn : L.length = n) (hnc : n ≤ cap) (hcm : cap ≤ 9223372036854775807) (hc : ∀ j, j < n → cur[j]? = some (.int .u64 (L.getD j 0))) (hr : r < n) : Calls Try.prog 22 #[.slice (some ⟨g, 0, none⟩) n cap, .int .i64 (r : Int), .int .i64 ((r : Int) + 1)] w fun e w' => e = .returned (.slice (some ⟨g, 0, none⟩) (n - 1) cap) ∧ (∃ cur', Blk w' g cur' 22 ∧ cur'.size = cap ∧ ∀ j, j < n - 1 → cur'[j]? = some (.int .u64 ((L.eraseIdx r).getD j 0))) ∧ Oth g w w' := by
 have hmx : Try.prog.follows .mixedOrders = true := by kernel_rfl
 obtain ⟨i0, hi0, hz0, hz1, hz2⟩ := info_parts infoW
 have hne : ((r : Int) == (r : Int) + 1) = false := by rw [beq_eq_false_iff_ne]; omega
 have hs3 := fun W => wsl3 (g := g) hr hnc W
 have hto := fun W => wslTo (g := g) (k := r) (n := n) (cap := cap) (by omega) hnc W
 obtain ⟨a', ha', hfr⟩ := wslFrom (g := g) (k := r + 1) (n := n) (cap := cap) (by omega) hnc
 have hk1 : ((r + 1 : Nat) : Int) = (r : Int) + 1 := by omega
 rw [hk1] at hfr
 obtain ⟨N, hN⟩ : ∃ N : List Value, N = wordsC (L.drop (r + 1)) := ⟨_, rfl⟩
 have hNl : N.length = n - (r + 1) := by rw [hN]; simp [wordsC, hn]
 have hN1 : ∀ u ∈ N, u.oneCell' = true := by rw [hN]; exact wordsC_one _
 have hNg : ∀ j, j < n - (r + 1) → N[j]? = some (.int .u64 (L.getD (r + 1 + j) 0)) := fun j hj => by
  rw [hN]
  unfold wordsC
  rw [List.getElem?_map, List.getElem?_drop, List.getElem?_eq_getElem (by omega), List.getD_eq_getElem?_getD, List.getElem?_eq_getElem (by omega)]
  rfl
 have hNc : ∀ V : World, Blk V g cur 22 → ∀ j u, N[j]? = some u → V.cell? (a'.add j) = some u := fun V hV j u hj => by
  have hlt := (List.getElem?_eq_some_iff.1 hj).1
  rw [hNl] at hlt
  rw [hNg j hlt] at hj
  cases hj
  rw [ha' (by omega)]
  have e : Addr.add ⟨g, r + 1, none⟩ j = ⟨g, r + 1 + j, none⟩ := by
   unfold Addr.add; split
   ·rename_i h0; rw [h0]
   ·rfl
  rw [e, hV.cell, hc _ (by omega)]
 clear hN
 have htl := fun W => wslTail (g := g) (m := n - 1) (n := n) (cap := cap) (by omega) hnc W
 go_enter Try.func22, Try.ntmps22
 go_upto_region 5 with (first
  | go_skip
  | (with_reducible refine wpList_sl (by kernel_rfl) _ _ _ _ _ rfl _ _ _ _ _ rfl rfl rfl rfl (hs3 _) ?_))
 refine PgM.region_out (S := fun _ => True) hmx trivial (fun hS => ?_)
 have hB5 : Blk w.drew g cur 22 := hB.next (Below.refl _ _).drew
 have o5 := oth_drew g w
 generalize w.drew = v5 at hS hB5 o5 ⊢
 refine wpAnyH_sym (by kernel_rfl) (fun _ _ _ _ _ h => h) hS [(0, none), (1, none), (2, some (.slice (some ⟨g, 0, none⟩) r cap)), (3, none), (4, none), (5, some (.slice (some a') (n - (r + 1)) (cap - (r + 1))))] (l' := #[true, true, true, true, true, true, false, false]) (a' := { tmps := #[.slice (some ⟨g, 0, none⟩) n cap, .int .i64 (r : Int), .int .i64 ((r : Int) + 1), ud, ud, undef, .slice none 0 0, .int .i64 (n : Int), .slice (some ⟨g, 0, none⟩) n cap, .int .i64 (r : Int), .int .i64 ((r : Int) + 1), .slice (some ⟨g, 0, none⟩) n cap, .int .i64 (n : Int), .slice (some ⟨g, r, none⟩) 1 (n - r), .int .i64 (r : Int), .int .i64 ((r : Int) + 1), .bool false, undef, .slice (some ⟨g, 0, none⟩) n cap, .int .i64 (n : Int), .slice (some ⟨g, 0, none⟩) n cap, .int .i64 (r : Int), .slice (some ⟨g, 0, none⟩) r cap, .slice (some ⟨g, 0, none⟩) n cap, .int .i64 ((r : Int) + 1), .slice (some a') (n - (r + 1)) (cap - (r + 1)), ud, ud, ud, ud, ud, ud, undef], defers := [] }) (obs := [.sl 28 (.slice (some ⟨g, 0, none⟩) n cap) (none) (some (.int .i64 (r : Int))) (none) (.slice (some ⟨g, 0, none⟩) r cap), .sl 28 (.slice (some ⟨g, 0, none⟩) n cap) (some (.int .i64 ((r : Int) + 1))) (none) (none) (.slice (some a') (n - (r + 1)) (cap - (r + 1)))]) (n := 2) (by kernel_rfl) (by kernel_rfl) ⟨fun W _ => hto W, fun W _ => hfr W, trivial⟩ ?_
 have hrun := run_append_room_cells (P := Try.prog) (w := v5) 28 28 22 i0 Try.underlying28 hi0 g 0 r cap a' (n - (r + 1)) (cap - (r + 1)) N (by rw [hNl, hz1, Nat.mul_one]) (fun j u hj => hNc v5 hB5 j u hj) hN1 (by omega) (fun j hj => by rw [hz1, Nat.zero_add, Nat.mul_one, hB5.cell, Array.getElem?_eq_getElem (by rw [hNl] at hj; omega)]; rfl) (fun j hj => hB5.frozen _)
 rw [hz1, Nat.zero_add, Nat.mul_one, show r + (n - (r + 1)) = n - 1 by omega] at hrun
 refine wpAnyH_single (i := 6) (n := 1) rfl (by kernel_rfl) ?_
 refine wpOp_appL (t := 28) (ty := 28) (x := .slice (some ⟨g, 0, none⟩) r cap) (y := .slice (some a') (n - (r + 1)) (cap - (r + 1))) (d := some 26) (by kernel_rfl) hrun ?_
 refine ⟨trivial, ?_⟩
 refine wpAnyH_sym (by kernel_rfl) (fun _ _ _ _ _ h => h) trivial [(7, none)] (l' := #[true, true, true, true, true, true, true, true]) (a' := { tmps := #[.slice (some ⟨g, 0, none⟩) (n - 1) cap, .int .i64 (r : Int), .int .i64 ((r : Int) + 1), ud, ud, undef, .slice none 0 0, .int .i64 (n : Int), .slice (some ⟨g, 0, none⟩) n cap, .int .i64 (r : Int), .int .i64 ((r : Int) + 1), .slice (some ⟨g, 0, none⟩) n cap, .int .i64 (n : Int), .slice (some ⟨g, r, none⟩) 1 (n - r), .int .i64 (r : Int), .int .i64 ((r : Int) + 1), .bool false, undef, .slice (some ⟨g, 0, none⟩) n cap, .int .i64 (n : Int), .slice (some ⟨g, 0, none⟩) n cap, .int .i64 (r : Int), .slice (some ⟨g, 0, none⟩) r cap, .slice (some ⟨g, 0, none⟩) n cap, .int .i64 ((r : Int) + 1), .slice (some a') (n - (r + 1)) (cap - (r + 1)), .slice (some ⟨g, 0, none⟩) (n - 1) cap, ud, ud, ud, ud, ud, undef], defers := [] }) (obs := []) (n := 0) (by kernel_rfl) (by kernel_rfl) trivial ?_
 refine wpAnyH_done (by kernel_rfl) ?_ _
 have hz5 : r + N.toArray.size ≤ cur.size := by simp [hNl]; omega
 have hp5 := Blk.part hB5 hz5
 have o6 := o5.trans (Oth.setCells g N v5 r)
 have hp1 : ∀ j, j < n - 1 → (cur.extract 0 r ++ N.toArray ++ cur.extract (r + N.toArray.size) cur.size)[j]? = some (.int .u64 ((L.eraseIdx r).getD j 0)) := fun j hj => by
  have he : (L.eraseIdx r).getD j 0 = if j < r then L.getD j 0 else L.getD (j + 1) 0 := by
   rw [List.getD_eq_getElem?_getD, List.getElem?_eraseIdx]
   by_cases q : j < r
   ·rw [if_pos q, if_pos q, List.getD_eq_getElem?_getD]
   ·rw [if_neg q, if_neg q, List.getD_eq_getElem?_getD]
  rw [he]
  by_cases q : j < r
  ·rw [if_pos q, part_out hz5 (.inl q)]
   exact hc j (by omega)
  ·rw [if_neg q]
   have h8 := hNg (j - r) (by omega)
   have h9 := part_in hz5 (show N.toArray[j - r]? = some _ by rw [List.getElem?_toArray]; exact h8)
   rw [show r + (j - r) = j by omega, show r + 1 + (j - r) = j + 1 by omega] at h9
   exact h9
 have hps := part_size hz5
 rw [show N.toArray.toList = N from rfl] at hp5
 generalize cur.extract 0 r ++ N.toArray ++ cur.extract (r + N.toArray.size) cur.size = C1 at hp5 hp1 hps
 generalize v5.setCells g r N = W6 at hp5 o6 ⊢
 have hcl := fun ty => run_clear1 (ty := ty) (m := n - 1) (c := cap - (n - 1)) hp5 (by rw [hps, hz]; omega)
 go_wp2_with (first
  | go_skip
  | (with_reducible refine wpList_sl (by kernel_rfl) _ _ _ _ _ rfl _ _ _ _ _ rfl rfl rfl rfl (htl _) ?_)
  | (at_builtin; refine wpList_clr (by kernel_rfl) _ _ rfl _ rfl (hcl _) ?_))
 go_ret
 have hz9 : n - 1 + (#[.int .u64 0] : Array Value).size ≤ C1.size := by rw [hps, hz]; show n - 1 + 1 ≤ cap; omega
 refine ⟨rfl, ⟨_, Blk.part hp5 hz9, (part_size hz9).trans (hps.trans hz), fun j hj => ?_⟩, o6.trans (Oth.setCells g _ W6 _)⟩
 rw [part_out hz9 (.inl hj)]
 exact hp1 j hj
end Go.Proofs.Ytcmcakandbpjfaa
namespace Go.Proofs.Ytcmcakandbpjfaa
set_option maxRecDepth 100000
set_option maxHeartbeats 8000000
open Go.RowKit Go.Shelf
set_option linter.unusedVariables false
attribute [local go_sem] Oper.semAt_some

theorem oat_set {Y : List Ob} {x : Ob} {i k : Nat} (hi : i < Y.length) : oat (Y.set i x) k = if i = k then x else oat Y k := by
 unfold oat
 rw [List.getD_eq_getElem?_getD, List.getElem?_set]
 by_cases e : i = k
 ·subst e; rw [if_pos rfl, if_pos rfl, if_pos hi]; rfl
 ·rw [if_neg e, if_neg e, List.getD_eq_getElem?_getD]
theorem RowG.set {F : Nat → Prop} {g R cp : Nat} {w w' : World} {Y : List Ob} {cur C : Array Value} {x : Ob} {i : Nat} (h : RowG F g R cp w Y cur) (hi : i < Y.length) (hc : Y.length ≤ cp) (hC : ObD (Ey F g R w) w C x) (k : Oth g w w') (hb : Blk w' g (cur.extract 0 (i * 51) ++ C ++ cur.extract (i * 51 + C.size) cur.size) 54) : RowG F g R cp w' (Y.set i x) (cur.extract 0 (i * 51) ++ C ++ cur.extract (i * 51 + C.size) cur.size) := by
 have hz := hC.size
 have hle : i * 51 + C.size ≤ cur.size := by rw [h.2.1, hz]; have : (i + 1) * 51 ≤ cp * 51 := Nat.mul_le_mul_right _ (by omega); omega
 refine ⟨hb, (part_size hle).trans h.2.1, fun i' hi' => ?_⟩
 rw [oat_set hi]
 by_cases e : i = i'
 ·subst e
  rw [if_pos rfl]
  exact ⟨C, (hC.laterK fun b hb => k.block b hb.2.2.1).wide fun b hb => ⟨by rw [k.size]; exact hb.1, hb.2⟩, fun j v hv => part_in hle hv⟩
 ·rw [if_neg e]
  obtain ⟨C', c1, c2⟩ := h.2.2 i' (by rw [List.length_set] at hi'; exact hi')
  refine ⟨C', (c1.laterK fun b hb => k.block b hb.2.2.1).wide fun b hb => ⟨by rw [k.size]; exact hb.1, hb.2⟩, fun j v hv => ?_⟩
  have hj : j < 51 := by rw [← c1.size]; exact (Array.getElem?_eq_some_iff.1 hv).1
  rw [part_out hle (by omega)]
  exact c2 j v hv
theorem RowG.range {F : Nat → Prop} {g R cp : Nat} {w : World} {Y : List Ob} {cur C : Array Value} {i : Nat} (h : RowG F g R cp w Y cur) (c : ∀ j v, C[j]? = some v → cur[i * 51 + j]? = some v) : w.rangeAt g (i * 51) C.toList := fun j v hv => by
 rw [h.1.cell]
 exact c j v (by simpa using hv)
theorem OwnR.later {F : Nat → Prop} {N : Nat} {w w' : World} {ao : Option Addr} {n cap : Nat} {Y : List Ob} (h : OwnR F N w ao n cap Y) (k : Below w.heap.size w w') : OwnR F N w' ao n cap Y := by
 rcases h with h | ⟨g, R, cur, e, hn, hc, hm, hg, hr⟩
 ·exact .inl h
 ·exact .inr ⟨g, R, cur, e, hn, hc, hm, hg, hr.next k⟩
theorem run_clearO {w : World} {g o m c : Nat} {cur : Array Value} (hB : Blk w g cur 54) (hm : 0 < m) (hs : o + m * 51 ≤ cur.size) : ∃ zs : Array Value, zs.size = m * 51 ∧ ∀ ty, (Builtin.clear_ #[23] ty #[.slice (some ⟨g, o, none⟩) m c]).run Try.prog w = .ok (.tuple #[]) (w.setCells g o zs.toList) := by
 have hz : (Builtin.zeroCells zC m).size = m * 51 := by rw [size_zeroCells, zC_size]
 have h1 : ∀ u ∈ (Builtin.zeroCells zC m).toList, u.oneCell' = true := fun u hu => by
  unfold Builtin.zeroCells at hu
  rw [Array.mem_toList_iff, Array.mem_map] at hu
  obtain ⟨i, _, rfl⟩ := hu
  have hlt : i % zC.size < zC.size := Nat.mod_lt _ (by rw [zC_size]; decide)
  refine all_get (zC_d (fun _ => True) w).one (j := i % zC.size) ?_
  rw [getElem!_pos zC _ hlt]
  exact Array.getElem?_eq_getElem hlt
 have hst := run_storeCells_cells (P := Try.prog) g o (Builtin.zeroCells zC m).toList 0 w (fun j hj => by
  have : j < m * 51 := by rw [← hz]; simpa using hj
  rw [hB.cell, Array.getElem?_eq_getElem (by omega)]; rfl) (fun j hj => hB.frozen _) h1
 refine ⟨_, hz, fun ty => ?_⟩
 obtain ⟨m', rfl⟩ : ∃ m', m = m' + 1 := ⟨m - 1, by omega⟩
 unfold Builtin.clear_
 simp [run_underlying Try.underlying23, Result.andThen]
 rw [show ∀ x : Array Value, (Value.agg x).cells = x from fun _ => rfl]
 erw [hst]
 rfl
theorem oslFrom {g k n cap : Nat} (hk : k < n) (hn : n ≤ cap) (W : World) : (Instr.sliceAt 23 (.slice (some ⟨g, 0, none⟩) n cap) (some (.int .i64 (k : Int))) none none).run Try.prog W = .ok (.slice (some ⟨g, k * 51, none⟩) (n - k) (cap - k)) W := by
 have hc : ¬ cap = k := by omega
 have hk' : k ≤ n := by omega
 unfold Instr.sliceAt Instr.slice Instr.sliceBounds
 simp [go_sem, run_underlying Try.underlying23, Result.andThen, hk', hc]
theorem deleteF_v {w : World} {P N : Nat} {al ao : Option Addr} {nl cl n cap : Nat} {L : List Int} {Y : List Ob} {F : Nat → Prop} (hO : OwnR F N w ao n cap Y) (hn : n ≤ 4096) (hNw : N ≤ w.heap.size) (hPN : P < N) (hP : Blk w P #[.slice al nl cl] 28) (h : CtD (fun b => b < N) w al nl cl L) (hs : L.Pairwise (· < ·)) (hn16 : nl ≤ 4096) : Calls Try.prog 24 #[.slice ao n cap, .func (.func 25) #[] #[.pointer (some ⟨P, 0, none⟩)]] w fun e w' => ∃ n', e = .returned (.slice ao n' cap) ∧ OwnR F N w' ao n' cap (Y.filter (stB0 L)) ∧ Below N w w' := by
 have hY : Obs w ao n cap Y := hO.obs.wide (fun b hb => hb.2) (fun b hb => hb.2)
 have hYn : Y.length = n := hY.1
 have hix := indexF_v hY hP (h.wide fun b hb => Nat.lt_of_lt_of_le hb hNw) hs hn16
 go_enter Try.func24, Try.ntmps24
 go_upto_region 2 with (go_at_call 51; (with_reducible refine hix.mono ?_); rintro e w1 ⟨r, rfl, hr, hb1⟩)
 rcases hr.out with ⟨rfl, hall⟩ | ⟨k, rfl, hkn, hlo, hkk⟩
 ·have hfe : Y.filter (stB0 L) = Y := List.filter_eq_self.2 fun x hx => by
   obtain ⟨j, hj, e⟩ := List.mem_iff_getElem.1 hx
   have := hall j (by omega)
   rw [oat_get hj, e] at this
   exact this
  go_wp2
  go_ret
  exact ⟨n, rfl, hO.later hb1, hb1.mono hNw⟩
 ·have hk1 : ((k : Int) == -1) = false := by rw [beq_eq_false_iff_ne]; omega
  rcases hO with ⟨rfl, _, rfl, _⟩ | ⟨g, R, cur, rfl, hnY, hnc, hcm, hNg, hrow⟩
  ·omega
  clear hnY
  have hrow1 := hrow.next hb1
  have hst1 : Hid (Y.take k = (Y.take (k + 1)).filter (stB0 L) ∧ Y.drop (k + 1) = Y.drop (k + 1)) := by
   refine (⟨?_, rfl⟩ : _ ∧ _)
   have hkX : k < Y.length := by omega
   rw [List.take_add_one, List.getElem?_eq_getElem hkX, Option.toList_some, List.filter_append]
   have e : oat Y k = Y[k] := oat_get hkX
   rw [e] at hkk
   have h2 : [Y[k]].filter (stB0 L) = [] := by simp [hkk]
   rw [h2, List.append_nil]
   symm
   refine List.filter_eq_self.2 fun x hx => ?_
   obtain ⟨j, hj, ej⟩ := List.mem_iff_getElem.1 hx
   rw [List.length_take] at hj
   have := hlo j (by omega)
   rw [oat_get (by omega)] at this
   rw [List.getElem_take] at ej
   rwa [ej] at this
  have hb1N := hb1.mono hNw
  replace hYn : Hid (Y.length = n) := hYn
  clear hr hlo hkk hix hrow hY
  go_wp2
  go_loopw [5, 6] (fun vi vj wr => ∃ (i j : Nat) (Z : List Ob) (cur : Array Value), i < j ∧ j ≤ n ∧ vi = .int .i64 i ∧ vj = .int .i64 j ∧ RowG F g R cap wr Z cur ∧ Z.length = n ∧ Hid (Z.take i = (Y.take j).filter (stB0 L) ∧ Z.drop j = Y.drop j) ∧ Below N w wr) (fun _ vj _ => n - (intOf vj).toNat)
  case atStart => exact ⟨k, k + 1, Y, cur, by omega, by omega, rfl, by go_num, hrow1, hYn.out, ⟨hst1.out.1, rfl⟩, hb1N⟩
  case round =>
   clear hst1 hrow1 hb1 hb1N hkn hk1
   obtain ⟨i, j, Z, cur, hij, hjn1, rfl, rfl, hrow, hZn, hst, hkw⟩ := hrel
   by_cases hjn : j < n
   ·have hjn' : (j : Int) < n := by omega
    have hin' : (i : Int) < n := by omega
    obtain ⟨C, hC, hCc⟩ := hrow.2.2 j (by omega)
    have hz := hC.size
    have hr := hrow.range hCc
    have hzj : oat Z j = oat Y j := by
     have := congrArg (fun l => oat l 0) hst.out.2
     simp only [oat_drop, Nat.add_zero] at this
     exact this
    rw [hzj] at hC
    have hPw : Blk wr P #[.slice al nl cl] 28 := (hkw.block P hPN).trans hP
    have hLw := h.laterK fun b hb => hkw.block b hb
    have hgl := hrow.1.lt
    have hNr : N ≤ wr.heap.size := Nat.le_trans hNw hkw.size
    have htk : Y.take (j + 1) = Y.take j ++ [oat Y j] := by
     have := hYn.out
     rw [List.take_add_one, List.getElem?_eq_getElem (by omega), Option.toList_some, oat_get (by omega)]
    have hdr : Z.drop (j + 1) = Y.drop (j + 1) := by
     have := congrArg (fun l => l.drop 1) hst.out.2
     simp only [List.drop_drop] at this
     exact this
    by_cases hm : (oat Y j).id ∈ L
    ·have hdc : Hid (decide ((oat Y j).id ∈ L) = true) := decide_eq_true hm
     have hst2 : Hid (Z.take i = (Y.take (j + 1)).filter (stB0 L) ∧ Z.drop (j + 1) = Y.drop (j + 1)) := by
      refine (⟨?_, hdr⟩ : _ ∧ _)
      have h2 : [oat Y j].filter (stB0 L) = [] := by simp [stB0, hm]
      rw [htk, List.filter_append, h2, List.append_nil]
      exact hst.out.1
     clear htk hdr
     go_wp2_with (first
      | (with_reducible refine wpList_loadm (by kernel_rfl) 54 _ rfl g _ rfl C hr _ Try.underlying54 (by kernel_rfl) (size40C hz) ?_)
      | ((with_reducible refine wpList_alloc rfl _ rfl zC zero40 ?_); intro Q W4 hN4 hQ hk4)
      | ((with_reducible refine wpList_store_blk rfl _ _ _ rfl Q rfl C rfl zC hQ (size40C hz) (zC_size.trans hz.symm) hC.one ?_); intro W5 hQ5 q5; have k5 : Below wr.heap.size wr W5 := q5.below _ _ (by have := hN4.out; omega) hk4; have hgo := goes_v (hPw.next k5) ((hC.wide (D' := LtN wr) fun b hb => hb.1).next k5) ((hLw.laterK fun b hb => k5.block b (Nat.lt_of_lt_of_le hb hNr)).wide fun b hb => Nat.lt_of_lt_of_le hb (Nat.le_trans hNr k5.size)) hs hn16; rw [hdc.out] at hgo)
      | (with_reducible refine wpList_loadb (by first | kernel_rfl | with_unfolding_all rfl) 54 _ rfl Q rfl C hQ5 _ Try.underlying54 (by kernel_rfl) (size40C hz) ?_)
      | (go_at_call 25; (with_reducible refine hgo.mono ?_); rintro e w6 ⟨rfl, hb6⟩; have hQ6 := hQ5.next hb6; have k6 := k5.trans (hb6.mono k5.size)))
     go_roundw
     case rel => exact ⟨i, j + 1, Z, cur, by omega, by omega, rfl, by go_num, hrow.next k6, hZn, hst2, hkw.trans (k6.mono hNr)⟩
     case measure => simp [intOf]; omega
    ·have hdc : Hid (decide ((oat Y j).id ∈ L) = false) := decide_eq_false hm
     have hle : i * 51 + C.size ≤ cur.size := by rw [hrow.2.1, hz]; have : (i + 1) * 51 ≤ cap * 51 := Nat.mul_le_mul_right _ (by omega); omega
     have hst2 : Hid ((Z.set i (oat Y j)).take (i + 1) = (Y.take (j + 1)).filter (stB0 L) ∧ (Z.set i (oat Y j)).drop (j + 1) = Y.drop (j + 1)) := by
      refine (⟨?_, ?_⟩ : _ ∧ _)
      ·have h2 : [oat Y j].filter (stB0 L) = [oat Y j] := by simp [stB0, hm]
       rw [htk, List.filter_append, h2, ← hst.out.1, List.take_add_one, List.getElem?_set, if_pos rfl, if_pos (by omega), Option.toList_some, List.take_set_of_le (Nat.le_refl i)]
      ·rw [List.drop_set_of_lt (by omega)]
       exact hdr
     clear htk hdr
     go_wp2_with (first
      | (with_reducible refine wpList_loadm (by kernel_rfl) 54 _ rfl g _ rfl C hr _ Try.underlying54 (by kernel_rfl) (size40C hz) ?_)
      | ((with_reducible refine wpList_alloc rfl _ rfl zC zero40 ?_); intro Q W4 hN4 hQ hk4)
      | ((with_reducible refine wpList_store_blk rfl _ _ _ rfl Q rfl C rfl zC hQ (size40C hz) (zC_size.trans hz.symm) hC.one ?_); intro W5 hQ5 q5; have k5 : Below wr.heap.size wr W5 := q5.below _ _ (by have := hN4.out; omega) hk4; have hgo := goes_v (hPw.next k5) ((hC.wide (D' := LtN wr) fun b hb => hb.1).next k5) ((hLw.laterK fun b hb => k5.block b (Nat.lt_of_lt_of_le hb hNr)).wide fun b hb => Nat.lt_of_lt_of_le hb (Nat.le_trans hNr k5.size)) hs hn16; rw [hdc.out] at hgo)
      | (with_reducible refine wpList_loadb (by first | kernel_rfl | with_unfolding_all rfl) 54 _ rfl Q rfl C hQ5 _ Try.underlying54 (by kernel_rfl) (size40C hz) ?_)
      | (go_at_call 25; (with_reducible refine hgo.mono ?_); rintro e w6 ⟨rfl, hb6⟩; have hQ6 := hQ5.next hb6; have k6 := k5.trans (hb6.mono k5.size); have hr6 := hrow.next k6; have hB6 := hr6.1)
      | (with_reducible refine wpList_loadb (by first | kernel_rfl | with_unfolding_all rfl) 54 _ rfl Q rfl C hQ6 _ Try.underlying54 (by kernel_rfl) (size40C hz) ?_)
      | ((with_reducible refine wpList_store_part rfl 54 _ _ rfl g (i * 51) rfl C rfl cur _ hB6 (size40C hz) hle hC.one ?_); intro W8 hb8 o8))
     have hrow8 := hr6.set (x := oat Y j) (by omega) (by omega) ((hC.laterK fun b hb => k6.block b hb.1).wide fun b hb => ⟨Nat.lt_of_lt_of_le hb.1 k6.size, hb.2⟩) o8 hb8
     go_roundw
     case rel => exact ⟨i + 1, j + 1, Z.set i (oat Y j), _, by omega, by omega, by go_num, by go_num, hrow8, by rw [List.length_set]; exact hZn, hst2, o8.below N w hNg (hkw.trans (k6.mono hNr))⟩
     case measure => simp [intOf]; omega
   ·obtain rfl : j = n := by omega
    have hcz := hrow.2.1
    have hBw := hrow.1
    have hm1 : (i + (j - i)) * 51 ≤ cap * 51 := Nat.mul_le_mul_right _ (by omega)
    have hsz : i * 51 + (j - i) * 51 ≤ cur.size := by rw [hcz, ← Nat.add_mul]; exact hm1
    have hfr := fun W => oslFrom (g := g) hij hnc W
    have hto := fun W => sliceO_to (ao := some ⟨g, 0, none⟩) (k := i) (n := j) (cap := cap) (by omega) hnc W
    obtain ⟨zs, hzs, hcl⟩ := run_clearO (c := cap - i) hBw (show 0 < j - i by omega) hsz
    go_wp2_with (first
     | (with_reducible refine wpList_sl (by kernel_rfl) _ _ _ _ _ rfl _ _ _ _ _ rfl rfl rfl rfl (hfr _) ?_)
     | (with_reducible refine wpList_sl (by kernel_rfl) _ _ _ _ _ rfl _ _ _ _ _ rfl rfl rfl rfl (hto _) ?_)
     | (at_builtin; refine wpList_clr (by kernel_rfl) _ _ rfl _ rfl (hcl _) ?_))
    go_ret
    have o9 := Oth.setCells g zs.toList wr (i * 51)
    have hsz9 : i * 51 + zs.size ≤ cur.size := by rw [hzs]; exact hsz
    have hf : Y.filter (stB0 L) = Z.take i := by
     have h1 := hst.out.1
     rw [← hYn.out, List.take_length] at h1
     exact h1.symm
    refine ⟨i, rfl, ?_, o9.below N w hNg hkw⟩
    rw [hf]
    refine .inr ⟨g, R, _, rfl, by rw [List.length_take]; omega, by omega, hcm, hNg, Blk.part hBw hsz9, (part_size hsz9).trans hcz, fun t ht => ?_⟩
    rw [List.length_take] at ht
    have hti : t < i := by omega
    rw [oat_take hti]
    obtain ⟨C, c1, c2⟩ := hrow.2.2 t (by omega)
    refine ⟨C, (c1.laterK fun b hb => o9.block b hb.2.2.1).wide fun b hb => ⟨by rw [o9.size]; exact hb.1, hb.2⟩, fun u v hv => ?_⟩
    have hu : u < 51 := by rw [← c1.size]; exact (Array.getElem?_eq_some_iff.1 hv).1
    have hm2 : (t + 1) * 51 ≤ i * 51 := Nat.mul_le_mul_right _ (by omega)
    rw [part_out hsz9 (.inl (by omega))]
    exact c2 u v hv
end Go.Proofs.Ytcmcakandbpjfaa
