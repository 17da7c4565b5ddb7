/-
 PROVED HERE: what package obj's Put and Drop return when they are called (contracts over this translation); what the docume. What is asked stands at each.
-/
import Derived.Test.YtnhjfjhbmekamaaGreatZ21
namespace Go.Proofs.YtnhjfjhbmekamaaGreat
set_option maxRecDepth 100000
set_option maxHeartbeats 8000000
open Go.RowKit Go.Shelf
set_option linter.unusedVariables false
attribute [local go_sem] Oper.semAt_some

def pureV (o : Oper) (a : Act) : Option Value :=
 match o.op with
 | .move x => some (a.eval x)
 | .assign x => some (a.eval x)
 | .extract x i =>
  match a.eval x with
  | .tuple vs => vs[i]?
  | _ => none
 | _ => none
def pureH (md : Region.Mode) (ops : Array Oper) : List Nat → Array Bool → Act → Option (Array Bool × Act)
 | [], l, a => some (l, a)
 | i :: r, l, a =>
  match ops[i]? with
  | none => none
  | some o =>
   if (Region.free md ops l i && (Region.ready md ops l).contains i && Region.wanted o (yielded ops a.tmps)) = true then
    match pureV o a with
    | none => none
    | some v => pureH md ops r (l.setIfInBounds i true) (a.put o.dst v)
   else none
section
variable {P : Program} {ops : Array Oper} {Q : Exit → Act → World → Prop} {w : World} {md : Region.Mode} {S : World → Prop}
theorem pureV_run {o : Oper} {a : Act} {v : Value} (h : pureV o a = some v) (w : World) : (execOp a.eval o).run P w = .ok (.value v) w := by
 unfold pureV at h
 split at h
 ·rename_i x ho; cases h; unfold execOp; simp [ho]
 ·rename_i x ho; cases h; unfold execOp; simp [ho]
 ·rename_i x i ho
  split at h
  ·rename_i vs hx
   unfold execOp; simp [ho, hx, h, Instr.extract]
  ·cases h
 ·cases h
theorem wpAnyH_pure (hs : Region.noSelect ops = true) (hQ : ∀ c a d v w, Q (.panic c) (Act.put a (some d) v) w → Q (.panic c) a w) (hS : S w) : ∀ (is : List Nat) {l l' : Array Bool} {a a' : Act} {n m : Nat}, m = n + is.length → pureH md ops is l a = some (l', a') → wpAnyH P md ops Q S n l' a' w → wpAnyH P md ops Q S m l a w
 | [], l, l', a, a', n, m, hm, h, q => by cases h; subst hm; exact q
 | i :: r, l, l', a, a', n, m, hm, h, q => by
  subst hm
  unfold pureH at h
  split at h
  ·cases h
  ·rename_i o ho
   split at h
   ·rename_i hf
    rw [Bool.and_eq_true, Bool.and_eq_true] at hf
    split at h
    ·cases h
    ·rename_i v hv
     exact wpAnyH_take ho hs hf.1.1 hf.1.2 (fun c a w h => putQ hQ h) (.inl ⟨hf.2, fun w _ => pureV_run hv w⟩) hS (wpAnyH_pure hs hQ hS r rfl h q)
   ·cases h
end
section
variable {ops : Array Oper} {rest : List Oper} {op : Oper} {a : Act} {Q : Exit → Act → World → Prop} {w : World}
theorem wpList_bs1 (hgd : op.guard = none) (x : Operand) (ho : op.op = .buildSlice 23 1 #[(0, x)]) (C : Array Value) (hx : a.eval x = .agg C) (hz : C.size = 51)
  (h : ∀ B W, Hid (w.heap.size = B ∧ W.heap.size = B + 1) → Blk W B C 43 → Below w.heap.size w W → wpList Tryz.prog ops Q rest (a.put op.dst (.slice (some ⟨B, 0, none⟩) 1 1)) W) : wpList Tryz.prog ops Q (op :: rest) a w :=
 wpList_plain hgd fun K hK => by
  have e : (#[(0, x)].map fun ((i : Nat), x) => (i, a.eval x)) = #[(0, Value.agg C)] := by simp [hx]
  unfold Oper.wp execOp
  simp only [ho, e, Sem.run_bind, run_bs1 hz, Result.andThen_ok]
  exact hK _ _ (h _ _ ⟨rfl, by simp⟩ (Blk.new w C 43) ((Below.refl _ w).alloc (Nat.le_refl _) _))
end
theorem obs_one {W : World} {B : Nat} {C : Array Value} {x : Ob} {D : Nat → Prop} (h : Blk W B C 43) (k : ObD D W C x) : ObsD (LtN W) D W (some ⟨B, 0, none⟩) 1 1 [x] :=
 ⟨rfl, Nat.le_refl _, ⟨by omega, fun e => by cases e⟩, fun _ => ⟨B, 0, rfl, h.lt, fun i hi => by
  obtain rfl : i = 0 := by omega
  exact ⟨C, k, by simpa using h.range0⟩⟩⟩
theorem obsD_next {w w' : World} {D0 : Nat → Prop} {ao : Option Addr} {n cap : Nat} {l : List Ob} (h : ObsD (LtN w) D0 w ao n cap l) (hD : ∀ b, D0 b → b < w.heap.size) (k : Below w.heap.size w w') : ObsD (LtN w') D0 w' ao n cap l :=
 (ObsD.laterK h (fun b hb => k.block b (hD b hb)) (fun b hb => k.block b hb)).wide (fun _ hb => hb) (fun b hb => Nat.lt_of_lt_of_le hb k.size)
theorem drop_w {w : World} {t ke ro : Int} {ao : Option Addr} {n cap : Nat} {X : List Ob} {i : Int} {D0 : Nat → Prop} (hD : ∀ b, D0 b → b < w.heap.size) (h : ObsD (LtN w) D0 w ao n cap X) (hs : Srt X) (hn16 : n < 1024) (hsm : Smalls X) : Calls Tryz.prog 92 #[.agg #[.int .i64 t, .int .u64 ke, .int .u64 ro, .slice ao n cap], .int .u64 i] w fun e w' => ∃ ao2 n2 cap2, e = .returned (.agg #[.int .i64 t, .int .u64 ke, .int .u64 ro, .slice ao2 n2 cap2]) ∧ ObsD (New w w') (fun b => D0 b ∨ New w w' b) w' ao2 n2 cap2 (drpL X i) ∧ Below w.heap.size w w' := by
 have hn : Hid (X.length = n) := h.1
 have hsH : Hid (Srt X) := hs
 have hsmH : Hid (Smalls X) := hsm
 have hle : ahd X i ≤ n := by rw [← hn.out]; exact ahd_le X i
 have hlf : fin X i ≤ n := by rw [← hn.out]; exact fin_le hs i
 have hwh := fun (W : World) (hk : Below w.heap.size w W) => whereO_any (i := i) (obs_next (h.wide hD fun _ hb => hb) hk) hs (by omega)
 have c3 : (#[.int .i64 t, .int .u64 ke, .int .u64 ro, .slice ao n cap] : Array Value)[3]? = some (.slice ao n cap) := rfl
 have hzG : (Tryz.prog.info? 25).map (·.size) = some (#[.int .i64 t, .int .u64 ke, .int .u64 ro, .slice ao n cap] : Array Value).size := size43
 have hz2 : ∀ v, (Tryz.prog.info? 25).map (·.size) = some (#[.int .i64 t, .int .u64 ke, .int .u64 ro, v] : Array Value).size := fun _ => size43
 have hs2 : ∀ v, zW.size = (#[.int .i64 t, .int .u64 ke, .int .u64 ro, v] : Array Value).size := fun _ => rfl
 have h12 : ∀ ao n cap, (#[.int .i64 t, .int .u64 ke, .int .u64 ro, .slice ao n cap] : Array Value).all (·.oneCell') = true := fun _ _ _ => by kernel_rfl
 have hpt : Hid (X.take (ahd X i) ++ [] ++ X.drop (fin X i) = drpL X i) := parts_drp hs i
 generalize ahd X i = k at hle hpt hwh
 generalize fin X i = f at hlf hpt hwh
 have hex := fun (W : World) (hk : Below w.heap.size w W) => exch_any (t := t) (ke := ke) (ro := ro) (fun b hb => Nat.lt_of_lt_of_le (hD b hb) hk.size) (obsD_next h hD hk) (ObsD.nil _ _ W) hle hlf (by omega) (by omega) hsm (fun _ h => by cases h)
 obtain ⟨G, hG⟩ : ∃ G : Array Value, G = #[.int .i64 t, .int .u64 ke, .int .u64 ro, .slice ao n cap] := ⟨_, rfl⟩
 rw [← hG] at c3 hzG hex
 rw [← hG]
 clear hG hs hsm
 go_enter Tryz.func92, Tryz.ntmps92
 go_wp2_with (first
  | (with_reducible refine wpList_box rfl _ _ rfl G rfl ?_; intro B W hB hb hk)
  | ((with_reducible refine wpList_alloc rfl _ rfl zW zero43 ?_); intro R W1 hB1 hR hk1; replace hb := hb.next hk1; replace hk := hk.trans (hk1.mono hk.size))
  | (with_reducible refine wpList_load_blk rfl _ _ rfl B rfl _ hb _ Tryz.underlying25 rfl hzG ?_)
  | (go_at_call 70; (with_reducible refine (objectsG_any c3).mono ?_); rintro e w1 ⟨rfl, hb1⟩; replace hb := hb.next hb1; replace hR := hR.next hb1; replace hk := hk.trans (hb1.mono hk.size))
  | (go_at_call 96; (with_reducible refine (hwh _ hk).mono ?_); rintro e w2 ⟨rfl, hb2⟩; replace hb := hb.next hb2; replace hR := hR.next hb2; replace hk := hk.trans (hb2.mono hk.size))
  | (go_at_call 97; (with_reducible refine (hex _ hk).mono ?_); rintro e w3 ⟨ao2, n2, cap2, rfl, hO, hb3⟩; replace hR := hR.next hb3; have hkf := hk.trans (hb3.mono hk.size))
  | ((with_reducible refine wpList_store_blk rfl _ _ _ rfl R rfl _ rfl zW hR (hz2 _) (hs2 _) (h12 _ _ _) ?_); intro W4 hR4 o4))
 have hRl : w.heap.size ≤ R ∧ R < w2.heap.size := by have := hB.out; have := hB1.out; have := hb1.size; have := hb2.size; omega
 refine bodyPost_ret (v := .agg _) (res43 Tryz.results92 rfl hR4 rfl) rfl ?_
 refine ⟨ao2, n2, cap2, rfl, ?_, o4.below _ _ hRl.1 hkf⟩
 rw [← hpt.out]
 have hsz := hk.size
 exact (hO.laterK (fun b hb => o4.block b (by rcases hb with q | q; have := hD b q; omega; have := q.1; omega)) (fun b hb => o4.block b (by have := hb.1; omega))).wide (fun b hb => by rcases hb with q | q; exact .inl q; exact .inr ⟨by have := q.1; omega, by rw [o4.size]; exact q.2⟩) (fun b hb => ⟨by have := hb.1; omega, by rw [o4.size]; exact hb.2⟩)
theorem put_w {w : World} {t ke ro : Int} {ao : Option Addr} {n cap : Nat} {X : List Ob} {C : Array Value} {x : Ob} {D0 : Nat → Prop} (hD : ∀ b, D0 b → b < w.heap.size) (h : ObsD (LtN w) D0 w ao n cap X) (hs : Srt X) (hn16 : n < 1024) (hsm : Smalls X) (hx : ObD D0 w C x) (hxs : Small x) : Calls Tryz.prog 66 #[.agg #[.int .i64 t, .int .u64 ke, .int .u64 ro, .slice ao n cap], .agg C] w fun e w' => ∃ ao2 n2 cap2, e = .returned (.agg #[.int .i64 t, .int .u64 ke, .int .u64 ro, .slice ao2 n2 cap2]) ∧ ObsD (New w w') (fun b => D0 b ∨ New w w' b) w' ao2 n2 cap2 (puR X x) ∧ Below w.heap.size w w' := by
 have hmx : Tryz.prog.follows .mixedOrders = true := by kernel_rfl
 have ga3 := Tryz.isAgg23
 have d0 := hx.id
 have hz := hx.size
 have hn : Hid (X.length = n) := h.1
 have hsH : Hid (Srt X) := hs
 have hsmH : Hid (Smalls X) := hsm
 have hle : ahd X x.id ≤ n := by rw [← hn.out]; exact ahd_le X x.id
 have hlf : fin X x.id ≤ n := by rw [← hn.out]; exact fin_le hs x.id
 have hwh := fun (W : World) (hk : Below w.heap.size w W) => whereO_any (i := x.id) (obs_next (h.wide hD fun _ hb => hb) hk) hs (by omega)
 have c3 : (#[.int .i64 t, .int .u64 ke, .int .u64 ro, .slice ao n cap] : Array Value)[3]? = some (.slice ao n cap) := rfl
 have hzG : (Tryz.prog.info? 25).map (·.size) = some (#[.int .i64 t, .int .u64 ke, .int .u64 ro, .slice ao n cap] : Array Value).size := size43
 have hz2 : ∀ v, (Tryz.prog.info? 25).map (·.size) = some (#[.int .i64 t, .int .u64 ke, .int .u64 ro, v] : Array Value).size := fun _ => size43
 have hs2 : ∀ v, zW.size = (#[.int .i64 t, .int .u64 ke, .int .u64 ro, v] : Array Value).size := fun _ => rfl
 have h12 : ∀ ao n cap, (#[.int .i64 t, .int .u64 ke, .int .u64 ro, .slice ao n cap] : Array Value).all (·.oneCell') = true := fun _ _ _ => by kernel_rfl
 have hpt : Hid (X.take (ahd X x.id) ++ [x] ++ X.drop (fin X x.id) = puR X x) := parts_put hs x
 generalize ahd X x.id = k at hle hpt hwh
 generalize fin X x.id = f at hlf hpt hwh
 have hex := fun (W : World) (hk : Below w.heap.size w W) (a1 : Option Addr) (hO : ObsD (LtN W) D0 W a1 1 1 [x]) => exch_any (t := t) (ke := ke) (ro := ro) (fun b hb => Nat.lt_of_lt_of_le (hD b hb) hk.size) (obsD_next h hD hk) hO hle hlf (by omega) (by omega) hsm (fun y h => by rw [List.mem_singleton] at h; rw [h]; exact hxs)
 obtain ⟨G, hG⟩ : ∃ G : Array Value, G = #[.int .i64 t, .int .u64 ke, .int .u64 ro, .slice ao n cap] := ⟨_, rfl⟩
 rw [← hG] at c3 hzG hex
 rw [← hG]
 clear hG hs hsm
 go_enter Tryz.func66, Tryz.ntmps66
 go_wp2_with (first
  | (with_reducible refine wpList_box rfl _ _ rfl G rfl ?_; intro B W hB hb hk)
  | (with_reducible refine wpList_box rfl _ _ rfl C rfl ?_; intro B2 W2 hB2 hb2 hk2; replace hb := hb.next hk2; replace hk := hk.trans (hk2.mono hk.size))
  | ((with_reducible refine wpList_alloc rfl _ rfl zW zero43 ?_); intro R W1 hB1 hR hk1; replace hb := hb.next hk1; replace hb2 := hb2.next hk1; replace hk := hk.trans (hk1.mono hk.size))
  | (with_reducible refine wpList_load_blk rfl _ _ rfl B rfl _ hb _ Tryz.underlying25 rfl hzG ?_))
 have hRl : w.heap.size ≤ R ∧ R < W1.heap.size ∧ w.heap.size ≤ B ∧ w.heap.size ≤ B2 := by have := hB.out; have := hB1.out; have := hB2.out; omega
 refine PgM.region_out (S := fun W => Blk W B G 25 ∧ Blk W B2 C 43) hmx ⟨hb.next (Below.refl _ _).drew, hb2.next (Below.refl _ _).drew⟩ (fun hS => ?_)
 have hkd := (Below.refl W1.heap.size W1).drew
 replace hR := hR.next hkd
 replace hk := hk.trans (hkd.mono hk.size)
 replace hRl : w.heap.size ≤ R ∧ R < W1.drew.heap.size := by have := hkd.size; omega
 generalize W1.drew = W5 at hS hR hk hRl ⊢
 clear hkd hb hb2 hB hB1 hB2 hk1 hk2
 refine wpAnyH_sym (by kernel_rfl) (fun _ _ _ _ _ h => h) hS [(0, some (.agg G)), (2, none), (3, some (.int .u64 x.id))] (l' := #[true, false, true, true, false, false, false, false, false, false]) (a' := { tmps := #[.agg G, .agg C, .pointer (some ⟨B, 0, none⟩), .pointer (some ⟨B2, 0, none⟩), .pointer (some ⟨R, 0, none⟩), ud, ud, undef, .agg G, undef, .pointer (some ⟨B2, 0, none⟩), .int .u64 x.id, ud, ud, ud, ud, ud, ud, ud, ud, ud, ud, ud, ud, ud, ud, ud, ud, ud, ud, ud, ud, ud, undef], defers := [] }) (obs := [.load 25 B 0 (.agg G), .load 22 B2 0 (.int .u64 x.id)]) (n := 7) (by kernel_rfl) (by kernel_rfl) ⟨ob_loadb (fun _ h => h.1) Tryz.underlying25 (by kernel_rfl) hzG, ob_load1 (fun _ h => h.2) d0 Tryz.isAgg22, trivial⟩ ?_
 refine wpAnyH_callL (i := 1) (fuel := 6) (f := 70) (vs := [.agg G]) (d := some 9) (by kernel_rfl) (by kernel_rfl) (by kernel_rfl) Tryz.call70 (objectsG_any c3) ?_
 rintro e W6 ⟨rfl, hb6⟩
 refine ⟨_, rfl, ⟨hS.1.next hb6, hS.2.next hb6⟩, ?_⟩
 replace hS : Blk W6 B G 25 ∧ Blk W6 B2 C 43 := ⟨hS.1.next hb6, hS.2.next hb6⟩
 replace hR := hR.next hb6
 replace hk := hk.trans (hb6.mono hk.size)
 refine wpAnyH_callL (i := 4) (fuel := 5) (f := 96) (vs := [.agg #[.slice ao n cap, .func (.func 104) #[] #[]], .int .u64 x.id]) (d := some 12) (by kernel_rfl) (by kernel_rfl) (by kernel_rfl) Tryz.call96 (hwh _ hk) ?_
 rintro e W7 ⟨rfl, hb7⟩
 refine ⟨_, rfl, ⟨hS.1.next hb7, hS.2.next hb7⟩, ?_⟩
 replace hS : Blk W7 B G 25 ∧ Blk W7 B2 C 43 := ⟨hS.1.next hb7, hS.2.next hb7⟩
 replace hR := hR.next hb7
 replace hk := hk.trans (hb7.mono hk.size)
 replace hRl : w.heap.size ≤ R ∧ R < W7.heap.size := ⟨hRl.1, hR.lt⟩
 refine wpAnyH_pure (by kernel_rfl) (fun _ _ _ _ _ h => h) hS [5, 6, 7, 8, 9] (l' := #[true, true, true, true, true, true, true, true, true, true]) (a' := { tmps := #[.agg G, .agg C, .pointer (some ⟨B, 0, none⟩), .pointer (some ⟨B2, 0, none⟩), .pointer (some ⟨R, 0, none⟩), .int .i64 k, .int .i64 f, .tuple #[.int .i64 k, .int .i64 f], .agg G, .agg #[.slice ao n cap, .func (.func 104) #[] #[]], .pointer (some ⟨B2, 0, none⟩), .int .u64 x.id, .tuple #[.int .i64 k, .int .i64 f], .int .i64 k, .int .i64 f, ud, ud, ud, ud, ud, ud, ud, ud, ud, ud, ud, ud, ud, ud, ud, ud, ud, ud, undef], defers := [] }) (n := 0) (by kernel_rfl) (by kernel_rfl) ?_
 refine wpAnyH_done (by kernel_rfl) ?_ _
 obtain ⟨hb, hb2⟩ := hS
 clear hb6 hb7 hwh
 go_wp2_with (first
  | go_skip
  | (with_reducible refine wpList_load1 (by kernel_rfl) _ _ rfl B _ rfl _ _ hb _ c3 ga3 ?_)
  | ((with_reducible refine wpList_test (by kernel_rfl) .eql _ _ _ _ rfl _ _ rfl rfl (eqg_int _ _ _ _ _ _) ?_ ?_) <;> intro hq)
  | ((with_reducible refine wpList_test (by kernel_rfl) .geq _ _ _ _ rfl _ _ rfl rfl (tge_int _ _ _ _ _ _) ?_ ?_) <;> first | (intro hq2; exfalso; have h9 : (1024 : Int) ≤ n := hq2.out; omega) | (intro hq2))
  | (with_reducible refine wpList_load_blk rfl _ _ rfl B rfl _ hb _ Tryz.underlying25 rfl hzG ?_)
  | (with_reducible refine wpList_load_blk rfl _ _ rfl B2 rfl _ hb2 _ Tryz.underlying43 rfl (size40C hz) ?_)
  | ((with_reducible refine wpList_bs1 rfl _ rfl C rfl hz ?_); intro Bq W8 hBq hbq hk8; replace hR := hR.next hk8; replace hk := hk.trans (hk8.mono hk.size); have hO1 := obs_one hbq (hx.laterK fun b hb => hk.block b (hD b hb)))
  | (go_at_call 97; (with_reducible refine (hex _ hk _ hO1).mono ?_); rintro e w3 ⟨ao2, n2, cap2, rfl, hO, hb3⟩; replace hR := hR.next hb3; have hkf := hk.trans (hb3.mono hk.size))
  | ((with_reducible refine wpList_store_blk rfl _ _ _ rfl R rfl _ rfl zW hR (hz2 _) (hs2 _) (h12 _ _ _) ?_); intro W4 hR4 o4))
 all_goals
  have hRl' : w.heap.size ≤ R ∧ R < W8.heap.size := ⟨hRl.1, Nat.lt_of_lt_of_le hRl.2 hk8.size⟩
  refine bodyPost_ret (v := .agg _) (res43 Tryz.results66 rfl hR4 rfl) rfl ?_
  refine ⟨ao2, n2, cap2, rfl, ?_, o4.below _ _ hRl.1 hkf⟩
  rw [← hpt.out]
  have hsz := hk.size
  exact (hO.laterK (fun b hb => o4.block b (by rcases hb with q | q; have := hD b q; omega; have := q.1; omega)) (fun b hb => o4.block b (by have := hb.1; omega))).wide (fun b hb => by rcases hb with q | q; exact .inl q; exact .inr ⟨by have := q.1; omega, by rw [o4.size]; exact q.2⟩) (fun b hb => ⟨by have := hb.1; omega, by rw [o4.size]; exact hb.2⟩)
end Go.Proofs.YtnhjfjhbmekamaaGreat
namespace Go.Proofs.YtnhjfjhbmekamaaGreat
set_option maxRecDepth 100000
set_option maxHeartbeats 8000000
open Go.RowKit Go.Shelf
set_option linter.unusedVariables false
attribute [local go_sem] Oper.semAt_some

section
variable {ops : Array Oper} {rest : List Oper} {op : Oper} {a : Act} {Q : Exit → Act → World → Prop} {w : World}
theorem wpList_loadc (hw : Region.wanted op (yielded ops a.tmps) = true) (ty : TypeId) (x : Operand) (ho : op.op = .load ty x) (b o : Nat) (hx : a.eval x = .pointer (some ⟨b, o, none⟩)) (v : Value) (hv : w.cell? ⟨b, o, none⟩ = some v) (hg : ∀ w, (isAgg ty).run Tryz.prog w = .ok false w) (h : wpList Tryz.prog ops Q rest (a.put op.dst v) w) : wpList Tryz.prog ops Q (op :: rest) a w := by
 refine wpList_val hw ?_ h
 have : (loadVar ty ⟨b, o, none⟩).run Tryz.prog w = .ok v w := by simp [loadVar, hg, hv]
 unfold execOp
 simp [ho, hx, Instr.loadAt, Instr.sureAddr, this]
end
theorem own_next {w w' : World} {base : Nat} {e : TypeId} {k : Nat} {v : Value} {n : Nat} {xs : List Value} (h : w.ownsRow base e k v n xs) (q : Below w.heap.size w w') : w'.ownsRow base e k v n xs := by
 refine ⟨h.1, ?_⟩
 rcases h.2 with r | ⟨g, c, cur, e1, e2, e3, e4⟩
 ·exact .inl r
 ·exact .inr ⟨g, c, cur, e1, e2, (q.block g (Array.getElem?_eq_some_iff.1 e3).1).trans e3, e4⟩
theorem obs_atD {E D : Nat → Prop} {w : World} {ao : Option Addr} {n cap : Nat} {l : List Ob} (h : ObsD E D w ao n cap l) {i : Nat} (hi : i < n) : ∃ b off C, ao = some ⟨b, off, none⟩ ∧ E b ∧ ObD D w C (oat l i) ∧ w.rangeAt b (off + i * 51) C.toList := by
 obtain ⟨b, off, e, hb, hc⟩ := h.2.2.2 (by omega)
 obtain ⟨C, hC, hr⟩ := hc i hi
 exact ⟨b, off, C, e, hb, hC, hr⟩
theorem fnd_first {X : List Ob} {i : Int} {k : Nat} (h : ∀ q, q < k → (oat X q).id ≠ i) (hk : k < X.length) (e : (oat X k).id = i) : fnd X i = some (oat X k) := by
 unfold fnd
 rw [List.find?_eq_some_iff_getElem]
 refine ⟨by simpa using e, k, hk, (oat_get hk).symm, fun j hj => ?_⟩
 have := h j hj
 rw [oat_get (by omega)] at this
 simpa using this
theorem rfind_d {w : World} {t ke ro : Int} {ao : Option Addr} {n cap : Nat} {X : List Ob} {i : Int} {D0 : Nat → Prop} (hD : ∀ b, D0 b → b < w.heap.size) (h : ObsD (LtN w) D0 w ao n cap X) : Calls Tryz.prog 32 #[.agg #[.int .i64 t, .int .u64 ke, .int .u64 ro, .slice ao n cap], .int .u64 i] w fun e w' => ∃ C', e = .returned (.tuple #[.agg C', .bool (fnd X i).isSome]) ∧ ObD D0 w' C' ((fnd X i).getD zOb) ∧ Below w.heap.size w w' := by
 have hn : Hid (X.length = n) := h.1
 have hnc := h.2.1
 have hcm := h.2.2.1.1
 have ga1 := Tryz.isAgg22
 have ga3 := Tryz.isAgg23
 have c3 : (#[.int .i64 t, .int .u64 ke, .int .u64 ro, .slice ao n cap] : Array Value)[3]? = some (.slice ao n cap) := rfl
 have hzG : (Tryz.prog.info? 25).map (·.size) = some (#[.int .i64 t, .int .u64 ke, .int .u64 ro, .slice ao n cap] : Array Value).size := size43
 obtain ⟨G, hG⟩ : ∃ G : Array Value, G = #[.int .i64 t, .int .u64 ke, .int .u64 ro, .slice ao n cap] := ⟨_, rfl⟩
 rw [← hG] at c3 hzG
 rw [← hG]
 clear hG
 go_enter Tryz.func32, Tryz.ntmps32
 go_wp2_with (first
  | (with_reducible refine wpList_box rfl _ _ rfl G rfl ?_; intro B W hB hb hk)
  | ((with_reducible refine wpList_alloc rfl _ rfl zC zero40 ?_); intro R W1 hB1 hR hk1; replace hb := hb.next hk1; replace hk := hk.trans (hk1.mono hk.size)))
 have hRl : Hid (w.heap.size ≤ R) := by have := hB.out; have := hB1.out; show _ ≤ _; omega
 clear hB hB1 hk1
 go_loopw [6] (fun j wr => ∃ k : Nat, k ≤ n ∧ j = .int .i64 k ∧ Hid (∀ q, q < k → (oat X q).id ≠ i) ∧ Blk wr B G 25 ∧ Blk wr R zC 43 ∧ Below w.heap.size w wr) (fun j _ => n - (intOf j).toNat)
 case atStart => exact ⟨0, Nat.zero_le _, rfl, fun q hq => absurd hq (by omega), hb, hR, hk⟩
 case round =>
  clear hb hR hk
  obtain ⟨k, hk, rfl, hal, hb, hR, hbw⟩ := hrel
  have hbs := hbw.size
  by_cases hkn : k < n
  ·obtain ⟨b, off, C, rfl, hbb, hC, hr⟩ := obs_atD (obsD_next h hD hbw) hkn
   have hkn' : (k : Int) < n := by omega
   have hz := hC.size
   have hid : wr.cell? ⟨b, off + k * 51, none⟩ = some (.int .u64 (oat X k).id) := by simpa using hr 0 _ (by simpa using hC.id)
   go_wp2_with (first
    | (with_reducible refine wpList_load1 (by kernel_rfl) _ _ rfl B _ rfl _ _ hb _ (by assumption) (by assumption) ?_)
    | (with_reducible refine wpList_loadc (by kernel_rfl) _ _ rfl b _ rfl _ hid ga1 ?_)
    | ((with_reducible refine wpList_test (by kernel_rfl) .eql _ _ _ _ rfl _ _ rfl rfl (eqg_int _ _ _ _ _ _) ?_ ?_) <;> intro hq)
    | (with_reducible refine wpList_loadm (by kernel_rfl) 43 _ rfl b _ rfl C hr _ Tryz.underlying43 (by kernel_rfl) (size40C hz) ?_)
    | ((with_reducible refine wpList_store_blk rfl _ _ _ rfl R rfl C rfl zC hR (size40C hz) (zC_size.trans hz.symm) hC.one ?_); intro W4 hR4 o4))
   ·refine bodyPost_ret (v := .tuple #[.agg C, .bool true]) (res40b Tryz.results32 rfl rfl hR4 hz) rfl ?_
    rw [fnd_first hal.out (by rw [hn.out]; exact hkn) hq.out]
    have hRo := hRl.out
    exact ⟨C, rfl, hC.laterK fun b hb => o4.block b (by have := hD b hb; omega), o4.below _ _ hRo hbw⟩
   ·go_roundw
    case rel => exact ⟨k + 1, by omega, by go_num, fn_succ hal.out hq.out, hb, hR, hbw⟩
    case measure => simp [intOf]; omega
  ·obtain rfl : k = n := by omega
   go_wp2_with (first
    | (with_reducible refine wpList_load1 (by kernel_rfl) _ _ rfl B _ rfl _ _ hb _ (by assumption) (by assumption) ?_)
    | ((with_reducible refine wpList_build rfl _ [] rfl zC ?hf ?_); (case hf => exact built_z))
    | ((with_reducible refine wpList_store_blk rfl _ _ _ rfl R rfl zC rfl zC hR (size40C zC_size) rfl (zC_d (fun _ => True) w).one ?_); intro W4 hR4 o4))
   have hx : fnd X i = none := fnd_none.2 fun x hx => by
    obtain ⟨q, hq, rfl⟩ := List.getElem_of_mem hx
    have := hal.out q (by rw [← hn.out]; exact hq)
    rwa [oat_get hq] at this
   refine bodyPost_ret (v := .tuple #[.agg zC, .bool false]) (res40b Tryz.results32 rfl rfl hR4 zC_size) rfl ?_
   rw [hx]
   exact ⟨zC, rfl, zC_d _ _, o4.below _ _ hRl.out hbw⟩
end Go.Proofs.YtnhjfjhbmekamaaGreat
