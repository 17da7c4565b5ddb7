/-
 PROVED HERE: plain facts on words of segments (no Go text): what was put is got, all others stay; what is within stays behi. What is asked stands at each.
-/
import Derived.Test.YtlaagheeemkklaaZ20
namespace Go.Proofs.Ytlaagheeemkklaa
set_option maxRecDepth 100000
set_option maxHeartbeats 8000000
open Go.RowKit Go.Shelf
theorem wpl_zero {x : Ob} {p : Nat} (h : x.kind = 1) : wpl x p = 0 ↔ p < x.data.length := by
 rcases wpl_cases x p with ⟨h0, _, h2⟩ | ⟨h0, h2⟩
 ·exact ⟨fun _ => h2, fun _ => h0⟩
 ·exact ⟨fun e => absurd e h0, fun e => absurd ⟨h, e⟩ h2⟩
theorem wpl_far {x : Ob} {p : Nat} (h : x.kind = 1) (k : ¬ p < x.data.length) : wpl x p = 13 := by
 unfold wpl
 rw [if_pos h, if_pos (by omega)]
theorem put_eq {x : Ob} {p : Nat} {v : Int} (h : wpl x p = 0) : putO x p v = { x with data := x.data.set p v } := by unfold putO; rw [if_pos h]
theorem put_len (x : Ob) (p : Nat) (v : Int) : (putO x p v).data.length = x.data.length := by
 unfold putO
 split
 ·exact List.length_set ..
 ·rfl
theorem put_kind (x : Ob) (p : Nat) (v : Int) : (putO x p v).kind = x.kind := by unfold putO; split <;> rfl
theorem put_wpl (x : Ob) (p q : Nat) (v : Int) : wpl (putO x p v) q = wpl x q := by unfold wpl; rw [put_kind, put_len]
theorem put_same {x : Ob} {p : Nat} {v : Int} (h : wpl x p = 0) : gtV (putO x p v) p = v := by
 unfold gtV
 rw [put_wpl, if_pos h, put_eq h]
 show (x.data.set p v).getD p 0 = v
 rcases wpl_cases x p with ⟨_, _, h2⟩ | ⟨h0, _⟩
 ·rw [List.getD_eq_getElem?_getD, List.getElem?_set_self h2]; rfl
 ·exact absurd h h0
theorem put_else {x : Ob} {p q : Nat} {v : Int} (h : wpl x p = 0) (hq : p ≠ q) : gtV (putO x p v) q = gtV x q := by
 unfold gtV
 rw [put_wpl, put_eq h]
 show (if _ then (x.data.set p v).getD q 0 else 0) = _
 rw [List.getD_eq_getElem?_getD, List.getElem?_set_ne hq, ← List.getD_eq_getElem?_getD]
theorem rsz_eq {x : Ob} {n : Int} (h : wsz x n = 0) : rsz x n = { x with data := ws x.data 0 n.toNat } := by unfold rsz; rw [if_pos h]
theorem rsz_wpl {x : Ob} {m p : Nat} (h : wsz x m = 0) : wpl (rsz x m) p = if p < m then 0 else 13 := by
 rcases wsz_cases x m with ⟨_, h1, _⟩ | h0
 ·rw [rsz_eq h]
  unfold wpl
  show (if x.kind = 1 then (if ((ws x.data 0 (m : Int).toNat).length : Int) ≤ p then 13 else 0) else 3) = _
  rw [if_pos h1, ws_len, Int.toNat_natCast]
  by_cases q : p < m
  ·rw [if_neg (by omega), if_pos q]
  ·rw [if_pos (by omega), if_neg q]
 ·exact absurd h h0
theorem rsz_gt {x : Ob} {m p : Nat} (h : wsz x m = 0) (hp : p < m) : gtV (rsz x m) p = x.data.getD p 0 := by
 unfold gtV
 rw [rsz_wpl h, if_pos hp, if_pos rfl, rsz_eq h]
 show (ws x.data 0 (m : Int).toNat).getD p 0 = _
 rw [Int.toNat_natCast, ws_at hp, Nat.zero_add]
theorem gt_near {x : Ob} {p : Nat} (h : x.kind = 1) (k : p < x.data.length) : gtV x p = x.data.getD p 0 := by unfold gtV; rw [if_pos ((wpl_zero h).2 k)]
theorem get_far {L : List Int} {p : Nat} (k : ¬ p < L.length) : L.getD p 0 = 0 := by rw [List.getD_eq_getElem?_getD, List.getElem?_eq_none (by omega)]; rfl
theorem pg_at {x : Ob} {k i : Nat} (h : x.kind = 1) (hi : i < 16) : (pgC x (k : Int))[i]? = some (.int .u64 (x.data.getD (16 * k + i) 0)) := by
 unfold pgC wordsC
 rw [List.getElem?_toArray, List.getElem?_map, pg_ws h, ← ws_at (L := x.data) (a := 16 * k) hi, List.getD_eq_getElem?_getD, List.getElem?_eq_getElem (by rw [ws_len]; exact hi)]; rfl
theorem put_swap_o {x : Ob} {p q : Nat} {v u : Int} (hp : wpl x p = 0) (hq : wpl x q = 0) (h : p ≠ q) : putO (putO x p v) q u = putO (putO x q u) p v := by
 rw [put_eq (x := putO x p v) (by rw [put_wpl]; exact hq), put_eq (x := putO x q u) (by rw [put_wpl]; exact hp), put_eq hp, put_eq hq]
 show ({ x with data := (x.data.set p v).set q u } : Ob) = { x with data := (x.data.set q u).set p v }
 rw [List.set_comm v u h]
theorem put_twice {x : Ob} {p : Nat} {v u : Int} (hp : wpl x p = 0) : putO (putO x p v) p u = putO x p u := by
 rw [put_eq (x := putO x p v) (by rw [put_wpl]; exact hp), put_eq hp, put_eq hp]
 show ({ x with data := (x.data.set p v).set p u } : Ob) = { x with data := x.data.set p u }
 rw [List.set_set]
theorem put_sg {x : Ob} {p : Nat} {v : Int} (h : x = sgO x.id x.label x.quota x.fixed x.data) : (putO x p v).kind = 1 → putO x p v = sgO (putO x p v).id (putO x p v).label (putO x p v).quota (putO x p v).fixed (putO x p v).data := by
 intro _
 by_cases hp : wpl x p = 0
 ·rw [put_eq hp]
  rw [h]
  rfl
 ·have e : putO x p v = x := by unfold putO; rw [if_neg hp]
  rw [e]; exact h
theorem small_data {x : Ob} (h : Small x) {d : List Int} (hd : d.length < 4294967296) : Small { x with data := d } := ⟨h.c2, h.c5, hd, h.c7, h.c25, h.c36, h.c39, h.c40, h.c41, h.c42, h.c43, h.c44, h.c49, h.c50⟩
theorem put_small {x : Ob} (h : Small x) {p : Nat} {v : Int} : Small (putO x p v) := by
 unfold putO
 split
 ·exact small_data h (by rw [List.length_set]; exact h.c6)
 ·exact h
theorem rsz_small {x : Ob} (h : Small x) {m : Nat} (hm : m < 4294967296) : Small (rsz x m) := by
 unfold rsz
 split
 ·exact small_data h (by rw [ws_len, Int.toNat_natCast]; exact hm)
 ·exact h
theorem rsz_back {x : Ob} (hs : soundB x = true) (k : x.kind = 1) {m : Nat} (h : wsz x m = 0) (hm : m < x.data.length) : wsz (rsz x m) (x.data.length : Int) = 0 ∧ (rsz (rsz x m) (x.data.length : Int)).data = ws (ws x.data 0 m) 0 x.data.length := by
 have hc := com_iff.1 (sound_iff.1 hs).1
 have h1 := hc.2.1
 have h2 := hc.2.2.1
 have h3 := seg_len hs k
 have e : wsz (rsz x m) (x.data.length : Int) = 0 := by
  rw [rsz_eq h]
  unfold wsz
  show (if x.kind = 1 then (if (x.data.length : Int) < 0 then 4 else if rooN x.quota < (x.data.length : Int) then 5 else 0) else 3) = 0
  rw [if_pos k, if_neg (by omega), if_neg (by unfold rooN; omega)]
 refine ⟨e, ?_⟩
 rw [rsz_eq e, rsz_eq h]
 show ws (ws x.data 0 (m : Int).toNat) 0 (x.data.length : Int).toNat = _
 rw [Int.toNat_natCast, Int.toNat_natCast]
theorem ws_cut {L : List Int} {m n i : Nat} (hi : i < n) : (ws (ws L 0 m) 0 n).getD i 0 = if i < m then L.getD i 0 else 0 := by
 rw [ws_at hi, Nat.zero_add]
 by_cases q : i < m
 ·rw [if_pos q, ws_at q, Nat.zero_add]
 ·rw [if_neg q]; exact get_far (by rw [ws_len]; exact q)
theorem cp_same {x : Ob} (hs : soundB x = true) (k : x.kind = 1) : cpE x x.id x.label x.quota = 0 ∧ cpO x x.id x.label x.quota = { x with fixed := false } := by
 have hc := com_iff.1 (sound_iff.1 hs).1
 have h1 := hc.2.1
 have h2 := hc.2.2.1
 have h3 := seg_len hs k
 have e := sg_of hs k
 have ef : sgO x.id x.label x.quota false x.data = { x with fixed := false } := by
  conv => rhs; rw [e]
  rfl
 have hso : soundB (sgO x.id x.label x.quota false x.data) = true := by
  rw [ef]
  obtain ⟨hc', ho', hw'⟩ := sound_iff.1 hs
  refine sound_iff.2 ⟨hc', ?_, ?_⟩
  ·unfold ownB at ho' ⊢
   show (if x.kind = 1 then _ else _) = true
   rw [if_pos k] at ho' ⊢
   exact ho'
  ·rw [alone_iff]
   unfold aloO
   show (if x.kind = 1 then _ else _) = _
   rw [if_pos k]
   rw [e]
   rfl
 have hE : cpE x x.id x.label x.quota = 0 := by
  unfold cpE
  rw [if_pos k, if_neg (by unfold rooN; omega), if_pos hso]
 refine ⟨hE, ?_⟩
 unfold cpO
 rw [if_pos hE, ef]
theorem idx_pg {x : Ob} {m k : Nat} {w : World} (h : x.kind = 1) (hk : k < 16) : (Instr.index 27 (.agg (pgC x (m : Int))) (.int .i64 (k : Int))).run Try.prog w = .ok (.int .u64 (x.data.getD (16 * m + k) 0)) w := by
 have hp := pg_at (k := m) h hk
 have hz := pgC_size x (m : Int)
 generalize pgC x (m : Int) = A at hp hz
 have hk' : (k : Int) < 16 := by omega
 unfold Instr.index
 go_simp
 rw [Array.getElem?_eq_getElem (by omega), List.getD_eq_getElem?_getD] at hp
 injection hp
theorem ObD.set4 {D : Nat → Prop} {w : World} {C : Array Value} {x : Ob} (h : ObD D w C x) (f : Bool) : ObD D w (C.setIfInBounds 4 (.bool f)) { x with fixed := f } := by
 have e : ∀ i, (C.setIfInBounds 4 (.bool f))[i]? = if 4 = i then some (.bool f) else C[i]? := fun i => set_at (by rw [h.size]; omega)
 exact ⟨by simp [h.size], set_one h.one rfl, by rw [e, if_neg (by omega)]; exact h.id, by rw [e, if_neg (by omega)]; exact h.kind, by rw [e, if_neg (by omega)]; exact h.label, by rw [e, if_neg (by omega)]; exact h.quota, by rw [e, if_pos rfl], by rw [e, if_neg (by omega)]; exact h.links, by rw [e, if_neg (by omega)]; exact h.data, by rw [e, if_neg (by omega)]; exact h.maps, h.th.congr fun i hi => by rw [e, if_neg (by omega)], h.gt.congr fun i hi => by rw [e, if_neg (by omega)], by rw [e, if_neg (by omega)]; exact h.inn, by rw [e, if_neg (by omega)]; exact h.out⟩
theorem ObD.nextE {w w' : World} {B : Nat} {C : Array Value} {x : Ob} (h : ObD (Ex B w) w C x) (k : Below w.heap.size w w') : ObD (Ex B w') w' C x := (h.laterK fun b hb => k.block b hb.1).wide fun _ hb => ⟨Nat.lt_of_lt_of_le hb.1 k.size, hb.2⟩
theorem size4 : (Try.prog.info? 4).map (·.size) = some 1 := by kernel_rfl
section
variable {ops : Array Oper} {rest : List Oper} {op : Oper} {a : Act} {Q : Exit → Act → World → Prop} {w : World}
theorem wpList_neT (hw : Region.wanted op (yielded ops a.tmps) = true) (t t' : TypeId) (x y : Operand) (ho : op.op = .binOp .neq t x y t') (k : IntKind) (m n : Int) (hx : a.eval x = .int k m) (hy : a.eval y = .int k n) (hn : Hid (¬ m = n)) (h : wpList Try.prog ops Q rest (a.put op.dst (.bool true)) w) : wpList Try.prog ops Q (op :: rest) a w :=
 wpList_test hw .neq t t' x y ho _ _ hx hy (neg_int t x y k m n) (fun _ => h) (fun hq => absurd hn.out hq.out)
theorem wpList_neF (hw : Region.wanted op (yielded ops a.tmps) = true) (t t' : TypeId) (x y : Operand) (ho : op.op = .binOp .neq t x y t') (k : IntKind) (m n : Int) (hx : a.eval x = .int k m) (hy : a.eval y = .int k n) (hn : Hid (m = n)) (h : wpList Try.prog ops Q rest (a.put op.dst (.bool false)) w) : wpList Try.prog ops Q (op :: rest) a w :=
 wpList_test hw .neq t t' x y ho _ _ hx hy (neg_int t x y k m n) (fun hq => absurd hn.out hq.out) (fun _ => h)
theorem wpList_eqT (hw : Region.wanted op (yielded ops a.tmps) = true) (t t' : TypeId) (x y : Operand) (ho : op.op = .binOp .eql t x y t') (k : IntKind) (m n : Int) (hx : a.eval x = .int k m) (hy : a.eval y = .int k n) (hn : Hid (m = n)) (h : wpList Try.prog ops Q rest (a.put op.dst (.bool true)) w) : wpList Try.prog ops Q (op :: rest) a w :=
 wpList_test hw .eql t t' x y ho _ _ hx hy (eqg_int t x y k m n) (fun _ => h) (fun hq => absurd hn.out hq.out)
theorem wpList_eqF (hw : Region.wanted op (yielded ops a.tmps) = true) (t t' : TypeId) (x y : Operand) (ho : op.op = .binOp .eql t x y t') (k : IntKind) (m n : Int) (hx : a.eval x = .int k m) (hy : a.eval y = .int k n) (hn : Hid (¬ m = n)) (h : wpList Try.prog ops Q rest (a.put op.dst (.bool false)) w) : wpList Try.prog ops Q (op :: rest) a w :=
 wpList_test hw .eql t t' x y ho _ _ hx hy (eqg_int t x y k m n) (fun hq => absurd hq.out hn.out) (fun _ => h)
theorem wpList_neN (hw : Region.wanted op (yielded ops a.tmps) = true) (t t' : TypeId) (x y : Operand) (ho : op.op = .binOp .neq t x y t') (k : IntKind) (m n : Nat) (hx : a.eval x = .int k (m : Int)) (hy : a.eval y = .int k (n : Int)) (hn : Hid (¬ m = n)) (h : wpList Try.prog ops Q rest (a.put op.dst (.bool true)) w) : wpList Try.prog ops Q (op :: rest) a w :=
 wpList_neT hw t t' x y ho k m n hx hy (show ¬ (m : Int) = n from fun e => hn.out (by omega)) h
theorem wpList_eqN (hw : Region.wanted op (yielded ops a.tmps) = true) (t t' : TypeId) (x y : Operand) (ho : op.op = .binOp .eql t x y t') (k : IntKind) (m n : Nat) (hx : a.eval x = .int k (m : Int)) (hy : a.eval y = .int k (n : Int)) (hn : Hid (¬ m = n)) (h : wpList Try.prog ops Q rest (a.put op.dst (.bool false)) w) : wpList Try.prog ops Q (op :: rest) a w :=
 wpList_eqF hw t t' x y ho k m n hx hy (show ¬ (m : Int) = n from fun e => hn.out (by omega)) h
end
end Go.Proofs.Ytlaagheeemkklaa
