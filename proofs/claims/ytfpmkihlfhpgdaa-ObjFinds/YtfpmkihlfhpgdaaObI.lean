/-
  PROVED HERE: what the document's Find, Drop and Put return when they are called (contracts over this translation). The objects rise by their ids, and are fewer than 1024.
-/
import Derived.Test.YtfpmkihlfhpgdaaObH
import Derived.Test.YtfpmkihlfhpgdaaObF
namespace Go.Proofs.Ytfpmkihlfhpgdaa
section
open Go.RowKit Go.Shelf
set_option linter.unusedVariables false
attribute [local go_sem] Oper.semAt_some

section
variable {ops : Array Oper} {rest : List Oper} {op : Oper} {a : Act} {Q : Exit → Act → World → Prop} {w : World}
/-- A cell of a row's struct is read. -/
theorem wpList_loadc (hw : Region.wanted op (yielded ops a.tmps) = true) (ty : TypeId) (x : Operand) (ho : op.op = .load ty x) (b o : Nat) (hx : a.eval x = .pointer (some ⟨b, o, none⟩)) (v : Value) (hv : w.cell? ⟨b, o, none⟩ = some v) (hg : ∀ w, (isAgg ty).run Try.prog w = .ok false w) (h : wpList Try.prog ops Q rest (a.put op.dst v) w) : wpList Try.prog ops Q (op :: rest) a w := by
  refine wpList_val hw ?_ h
  have : (loadVar ty ⟨b, o, none⟩).run Try.prog w = .ok v w := by simp [loadVar, hg, hv]
  unfold execOp
  simp [ho, hx, Instr.loadAt, Instr.sureAddr, this]
end
theorem own_next {w w' : World} {base : Nat} {e : TypeId} {k : Nat} {v : Value} {n : Nat} {xs : List Value} (h : w.ownsRow base e k v n xs) (q : Below w.heap.size w w') : w'.ownsRow base e k v n xs := by
  refine ⟨h.1, ?_⟩
  rcases h.2 with r | ⟨g, c, cur, e1, e2, e3, e4⟩
  · exact .inl r
  · exact .inr ⟨g, c, cur, e1, e2, (q.block g (Array.getElem?_eq_some_iff.1 e3).1).trans e3, e4⟩
theorem own_one {w : World} {base : Nat} {e : TypeId} {k : Nat} {v : Value} {n : Nat} {xs : List Value} (h : w.ownsRow base e k v n xs) : v.cells = #[v] ∧ v.oneCell' = true := by
  rcases h.2 with ⟨q, _⟩ | ⟨g, c, cur, q, _⟩ <;> subst q <;> exact ⟨rfl, rfl⟩
theorem row_one {W : World} {B : Nat} {C : Array Value} (h : Blk W B C 40) (hz : C.size = 51) : RowC 51 (LtN W) W (some ⟨B, 0, none⟩) 1 1 C.toList :=
  ⟨by simpa using hz, Nat.le_refl _, ⟨by omega, fun e => by cases e⟩, fun _ => ⟨B, 0, rfl, h.lt, h.range0⟩⟩
theorem obC_one {D : Nat → Prop} {w : World} {C : Array Value} {x : Ob} (h : ObD D w C x) : ∀ u ∈ C.toList, u.oneCell' = true := (RowO.single h).one
theorem obs_atD {E D : Nat → Prop} {w : World} {ao : Option Addr} {n cap : Nat} {l : List Ob} (h : ObsD E D w ao n cap l) {i : Nat} (hi : i < n) : ∃ b off C, ao = some ⟨b, off, none⟩ ∧ E b ∧ ObD D w C (oat l i) ∧ w.rangeAt b (off + i * 51) C.toList := by
  obtain ⟨b, off, e, hb, hc⟩ := h.2.2.2 (by omega)
  obtain ⟨C, hC, hr⟩ := hc i hi
  exact ⟨b, off, C, e, hb, hC, hr⟩
set_option maxRecDepth 100000 in
set_option maxHeartbeats 4000000 in
theorem rfind_w {w : World} {t ke ro : Int} {ao : Option Addr} {n cap : Nat} {X : List Ob} {i : Int} (h : Obs w ao n cap X) (hs : Srt X) : Calls Try.prog 26 #[.agg #[.int .i64 t, .int .u64 ke, .int .u64 ro, .slice ao n cap], .int .u64 i] w fun e w' => ∃ C', e = .returned (.tuple #[.agg C', .bool (fnd X i).isSome]) ∧ ObD (LtN w') w' C' ((fnd X i).getD zOb) ∧ Below w.heap.size w w' := by
  have hn : Hid (X.length = n) := h.1
  have hnc := h.2.1
  have hcm := h.2.2.1.1
  have ga1 := Try.isAgg22
  have ga3 := Try.isAgg41
  have c3 : (#[.int .i64 t, .int .u64 ke, .int .u64 ro, .slice ao n cap] : Array Value)[3]? = some (.slice ao n cap) := rfl
  have hzG : (Try.prog.info? 43).map (·.size) = some (#[.int .i64 t, .int .u64 ke, .int .u64 ro, .slice ao n cap] : Array Value).size := size43
  have hsH : Hid (Srt X) := hs
  clear hs
  obtain ⟨G, hG⟩ : ∃ G : Array Value, G = #[.int .i64 t, .int .u64 ke, .int .u64 ro, .slice ao n cap] := ⟨_, rfl⟩
  rw [← hG] at c3 hzG
  rw [← hG]
  clear hG
  go_enter Try.func26, Try.ntmps26
  go_wp2_with (first
    | (with_reducible refine wpList_box rfl _ _ rfl G rfl ?_; intro B W hB hb hk)
    | ((with_reducible refine wpList_alloc rfl _ rfl zC zero40 ?_); intro R W1 hB1 hR hk1; replace hb := hb.next hk1; replace hk := hk.trans (hk1.mono hk.size)))
  have hRl : Hid (w.heap.size ≤ R) := by have := hB.out; have := hB1.out; show _ ≤ _; omega
  clear hB hB1 hk1
  go_loopw [6] (fun j wr => ∃ k : Nat, k ≤ n ∧ j = .int .i64 k ∧ Hid (∀ q, q < k → (oat X q).id ≠ i) ∧ Blk wr B G 43 ∧ Blk wr R zC 40 ∧ Below w.heap.size w wr) (fun j _ => n - (intOf j).toNat)
  case atStart => exact ⟨0, Nat.zero_le _, rfl, fun q hq => absurd hq (by omega), hb, hR, hk⟩
  case round =>
    clear hb hR hk
    obtain ⟨k, hk, rfl, hal, hb, hR, hbw⟩ := hrel
    have hbs := hbw.size
    by_cases hkn : k < n
    · obtain ⟨b, off, C, rfl, hbb, hC, hr⟩ := obs_atD (obsD_next h (fun _ hb => hb) hbw) hkn
      have hkn' : (k : Int) < n := by omega
      have hz := hC.size
      have hid : wr.cell? ⟨b, off + k * 51, none⟩ = some (.int .u64 (oat X k).id) := by simpa using hr 0 _ (by simpa using hC.id)
      go_wp2_with (first
        | (with_reducible refine wpList_load1 (by kernel_rfl) _ _ rfl B _ rfl _ _ hb _ (by assumption) (by assumption) ?_)
        | (with_reducible refine wpList_loadc (by kernel_rfl) _ _ rfl b _ rfl _ hid ga1 ?_)
        | ((with_reducible refine wpList_test (by kernel_rfl) .eql _ _ _ _ rfl _ _ rfl rfl (eqg_int _ _ _ _ _ _) ?_ ?_) <;> intro hq)
        | (with_reducible refine wpList_loadm (by kernel_rfl) 40 _ rfl b _ rfl C hr _ Try.underlying40 (by kernel_rfl) (size40C hz) ?_)
        | ((with_reducible refine wpList_store_blk rfl _ _ _ rfl R rfl C rfl zC hR (size40C hz) (zC_size.trans hz.symm) hC.one ?_); intro W4 hR4 o4))
      · refine bodyPost_ret (v := .tuple #[.agg C, .bool true]) (res40b Try.results26 rfl rfl hR4 hz) rfl ?_
        rw [(fnd_some hsH.out).2 ⟨oat_mem (by rw [hn.out]; exact hkn), hq.out⟩]
        have hRo := hRl.out
        exact ⟨C, rfl, (hC.laterK fun b hb => o4.block b (by have : b < w.heap.size := hb; omega)).wide fun b hb => by rw [LtN, o4.size]; exact Nat.lt_of_lt_of_le hb hbs, o4.below _ _ hRo hbw⟩
      · go_roundw
        case rel => exact ⟨k + 1, by omega, by go_num, fn_succ hal.out hq.out, hb, hR, hbw⟩
        case measure => simp [intOf]; omega
    · obtain rfl : k = n := by omega
      go_wp2_with (first
        | (with_reducible refine wpList_load1 (by kernel_rfl) _ _ rfl B _ rfl _ _ hb _ (by assumption) (by assumption) ?_)
        | ((with_reducible refine wpList_build rfl _ [] rfl zC ?hf ?_); (case hf => exact built_z))
        | ((with_reducible refine wpList_store_blk rfl _ _ _ rfl R rfl zC rfl zC hR (size40C zC_size) rfl (zC_d (fun _ => True) w).one ?_); intro W4 hR4 o4))
      have hx : fnd X i = none := fnd_none.2 fun x hx => by
        obtain ⟨q, hq, rfl⟩ := List.getElem_of_mem hx
        have := hal.out q (by rw [← hn.out]; exact hq)
        rwa [oat_get hq] at this
      refine bodyPost_ret (v := .tuple #[.agg zC, .bool false]) (res40b Try.results26 rfl rfl hR4 zC_size) rfl ?_
      rw [hx]
      exact ⟨zC, rfl, zC_d _ _, o4.below _ _ hRl.out hbw⟩
/-- The document's Drop. -/
def rdr (X : List Ob) (i : Int) : List Ob := X.filter fun x => decide (x.id ≠ i)
theorem rdr_eq {X : List Ob} (h : Srt X) (i : Int) : rdr X i = drpL X i := by
  refine srt_ext (h.filter _) (srt_drp h i) fun x => ?_
  unfold rdr
  rw [List.mem_filter, mem_drp, decide_eq_true_iff]
theorem rdr_succ {X : List Ob} {i : Int} {k : Nat} (hk : k < X.length) : rdr (X.take (k + 1)) i = rdr (X.take k) i ++ (if (oat X k).id ≠ i then [oat X k] else []) := by
  unfold rdr
  rw [List.take_add_one, List.filter_append, List.getElem?_eq_getElem hk, oat_get hk]
  congr 1
  simp only [Option.toList_some, List.filter_cons, List.filter_nil, decide_eq_true_iff]
set_option maxRecDepth 100000 in
set_option maxHeartbeats 4000000 in
theorem rdrop_w {w : World} {t ke ro : Int} {ao : Option Addr} {n cap : Nat} {X : List Ob} {i : Int} (h : Obs w ao n cap X) (hs : Srt X) (hn16 : n < 1024) : Calls Try.prog 30 #[.agg #[.int .i64 t, .int .u64 ke, .int .u64 ro, .slice ao n cap], .int .u64 i] w fun e w' => ∃ ao2 n2 cap2, e = .returned (.agg #[.int .i64 t, .int .u64 ke, .int .u64 ro, .slice ao2 n2 cap2]) ∧ Obs w' ao2 n2 cap2 (drpL X i) ∧ Below w.heap.size w w' := by
  rw [← rdr_eq hs i]
  clear hs
  have hn : Hid (X.length = n) := h.1
  have hnc := h.2.1
  have hcm := h.2.2.1.1
  have ga1 := Try.isAgg22
  have ga3 := Try.isAgg41
  have c3 : (#[.int .i64 t, .int .u64 ke, .int .u64 ro, .slice ao n cap] : Array Value)[3]? = some (.slice ao n cap) := rfl
  have hzG : (Try.prog.info? 43).map (·.size) = some (#[.int .i64 t, .int .u64 ke, .int .u64 ro, .slice ao n cap] : Array Value).size := size43
  have hz2 : ∀ v, (Try.prog.info? 43).map (·.size) = some (#[.int .i64 t, .int .u64 ke, .int .u64 ro, v] : Array Value).size := fun _ => size43
  have hs2 : ∀ v, zW.size = (#[.int .i64 t, .int .u64 ke, .int .u64 ro, v] : Array Value).size := fun _ => rfl
  have h12 : ∀ ao n cap, (#[.int .i64 t, .int .u64 ke, .int .u64 ro, .slice ao n cap] : Array Value).all (·.oneCell') = true := fun _ _ _ => by kernel_rfl
  have cS : ∀ v, (#[.int .i64 t, .int .u64 ke, .int .u64 ro, .slice ao n cap] : Array Value).setIfInBounds 3 v = #[.int .i64 t, .int .u64 ke, .int .u64 ro, v] := fun v => rfl
  have hzG4 : (#[.int .i64 t, .int .u64 ke, .int .u64 ro, .slice ao n cap] : Array Value).size = 4 := rfl
  obtain ⟨G, hG⟩ : ∃ G : Array Value, G = #[.int .i64 t, .int .u64 ke, .int .u64 ro, .slice ao n cap] := ⟨_, rfl⟩
  rw [← hG] at c3 hzG cS hzG4
  rw [← hG]
  clear hG
  go_enter Try.func30, Try.ntmps30
  go_wp2_with (first
    | (with_reducible refine wpList_box rfl _ _ rfl G rfl ?_; intro B W hB hb hk)
    | ((with_reducible refine wpList_alloc rfl _ rfl zW zero43 ?_); intro R W0 hB1 hR hk1; replace hb := hb.next hk1; replace hk := hk.trans (hk1.mono hk.size)))
  have hne : B ≠ R := by have := hB.out; have := hB1.out; omega
  have hBR0 : Hid (B < W0.heap.size ∧ R < W0.heap.size) := ⟨hb.lt, hR.lt⟩
  have hRl : Hid (w.heap.size ≤ R ∧ w.heap.size ≤ B) := by have := hB.out; have := hB1.out; refine (⟨?_, ?_⟩ : _ ∧ _) <;> omega
  clear hB hB1 hk1
  go_loopw [5, 6] (fun v j wr => ∃ (k : Nat) (cs : List Value), k ≤ n ∧ j = .int .i64 k ∧ wr.ownsRow W0.heap.size 40 51 v (rdr (X.take k) i).length cs ∧ RowO (LtN w) wr (rdr (X.take k) i) cs ∧ Below W0.heap.size W0 wr) (fun _ j _ => n - (intOf j).toNat)
  case atStart => exact ⟨0, [], Nat.zero_le _, rfl, World.ownsRow_nil _ _ _ _, rfl, Below.refl _ _⟩
  case round =>
    obtain ⟨k, cs, hkn1, rfl, hown, hro, hb0⟩ := hrel
    have hbw := hk.trans (hb0.mono hk.size)
    replace hb := hb.next hb0
    replace hR := hR.next hb0
    have hbs := hbw.size
    have hb0s := hb0.size
    by_cases hkn : k < n
    · obtain ⟨b, off, C, rfl, hbb, hC, hr⟩ := obs_atD (obsD_next h (fun _ hb => hb) hbw) hkn
      have hkn' : (k : Int) < n := by omega
      have hz := hC.size
      have hid : wr.cell? ⟨b, off + k * 51, none⟩ = some (.int .u64 (oat X k).id) := by simpa using hr 0 _ (by simpa using hC.id)
      have hl : (rdr (X.take k) i).length ≤ k := Nat.le_trans (List.length_filter_le ..) (by simp; omega)
      have hsu := rdr_succ (i := i) (show k < X.length by rw [hn.out]; exact hkn)
      go_wp2_with (first
        | (with_reducible refine wpList_load1 (by kernel_rfl) _ _ rfl B _ rfl _ _ hb _ (by assumption) (by assumption) ?_)
        | (with_reducible refine wpList_loadc (by kernel_rfl) _ _ rfl b _ rfl _ hid ga1 ?_)
        | ((with_reducible refine wpList_test (by kernel_rfl) .neq _ _ _ _ rfl _ _ rfl rfl (neg_int _ _ _ _ _ _) ?_ ?_) <;> intro hq)
        | (with_reducible refine wpList_loadm (by kernel_rfl) 40 _ rfl b _ rfl C hr _ Try.underlying40 (by kernel_rfl) (size40C hz) ?_)
        | ((with_reducible refine wpList_bs1 rfl _ rfl C rfl hz ?_); intro Bq W8 hBq hbq hk8; have hown8 := own_next hown hk8)
        | (at_builtin; refine wpList_append_row infoO Try.underlying41 zC_size (by omega) rfl _ _ rfl W0.heap.size _ _ cs rfl hown8 _ _ _ _ C.toList rfl (row_one hbq hz) (obC_one hC) (by unfold maxLen; omega) (by omega) (Nat.le_trans hb0s hk8.size) ?_; intro v' w2 hown' hgrow))
      · go_roundw
        case rel =>
          rw [if_pos hq.out] at hsu
          have hb2 : Below W0.heap.size W0 w2 := (hb0.trans (hk8.mono hb0s)).grown hgrow (Nat.le_trans hb0s hk8.size) (own_ge hown8)
          have hbw2 := hk.trans (hb2.mono hk.size)
          refine ⟨k + 1, cs ++ C.toList, by omega, by go_num, ?_, ?_, hb2⟩
          · rw [hsu, List.length_append]; exact hown'
          · rw [hsu]
            exact RowO.app (hro.laterK fun b hb => (hbw2.block b hb).trans (hbw.block b hb).symm) (RowO.single (hC.laterK fun b hb => (hbw2.block b hb).trans (hbw.block b hb).symm))
        case measure => simp [intOf]; omega
      · go_roundw
        case rel =>
          rw [if_neg hq.out, List.append_nil] at hsu
          exact ⟨k + 1, cs, by omega, by go_num, by rw [hsu]; exact hown, by rw [hsu]; exact hro, hb0⟩
        case measure => simp [intOf]; omega
    · obtain rfl : k = n := by omega
      obtain ⟨ao2, cap2, rfl, hrc⟩ := RowC.of_owns hown
      generalize (rdr (X.take k) i).length = m2 at hown hrc ⊢
      go_wp2_with (first
        | (with_reducible refine wpList_load1 (by kernel_rfl) _ _ rfl B _ rfl _ _ hb _ (by assumption) (by assumption) ?_)
        | ((with_reducible refine wpList_store_cell rfl _ _ _ rfl B 3 rfl (.slice ao2 m2 cap2) rfl rfl G _ hb (by kernel_rfl) (by rw [hzG4]; omega) rfl ?_); intro W4 hb4 o4; rw [cS] at hb4; have hR4 := hR.other o4 hne.symm)
        | (with_reducible refine wpList_load_blk rfl _ _ rfl B rfl _ hb4 _ Try.underlying43 rfl (hz2 _) ?_)
        | ((with_reducible refine wpList_store_blk rfl _ _ _ rfl R rfl _ rfl zW hR4 (hz2 _) (hs2 _) (h12 _ _ _) ?_); intro W5 hR5 o5))
      refine bodyPost_ret (v := .agg _) (res43 Try.results30 rfl hR5 rfl) rfl ?_
      have hRo := hRl.out
      have ht : X.take k = X := by rw [← hn.out]; exact List.take_length
      rw [ht] at hro
      have hlt := hb0.size
      have hBR := hBR0.out
      refine ⟨ao2, m2, cap2, rfl, ?_, o5.below _ _ hRo.1 (o4.below _ _ hRo.2 hbw)⟩
      have hob := hrc.obs hro
      refine (hob.laterK (w' := W5) (fun b hb => (o5.block b (by have : b < w.heap.size := hb; omega)).trans (o4.block b (by have : b < w.heap.size := hb; omega))) (fun b hb => (o5.block b (by have := hb.1; omega)).trans (o4.block b (by have := hb.1; omega)))).wide (fun b hb => ?_) (fun b hb => ?_)
      · have : b < w.heap.size := hb
        rw [LtN, o5.size, o4.size]; omega
      · rw [LtN, o5.size, o4.size]; exact hb.2
end
section
open Go.RowKit Go.Shelf
set_option linter.unusedVariables false
attribute [local go_sem] Oper.semAt_some

def stp (o : Ob) (s : List Ob × Bool) (x : Ob) : List Ob × Bool :=
  if s.2 = false ∧ o.id ≤ x.id then (if x.id ≠ o.id then (s.1 ++ [o] ++ [x], true) else (s.1 ++ [o], true)) else (if x.id ≠ o.id then (s.1 ++ [x], s.2) else s)
def stps (o : Ob) (l : List Ob) : List Ob × Bool := l.foldl (stp o) ([], false)
theorem stps_succ {o : Ob} {X : List Ob} {k : Nat} (hk : k < X.length) : stps o (X.take (k + 1)) = stp o (stps o (X.take k)) (oat X k) := by
  unfold stps
  rw [List.take_add_one, List.getElem?_eq_getElem hk, oat_get hk, Option.toList_some, List.foldl_append]
  rfl
theorem stps_len (o : Ob) : ∀ (l : List Ob) (s : List Ob × Bool), (l.foldl (stp o) s).1.length ≤ s.1.length + 2 * l.length
  | [], s => by simp
  | x :: l, s => by
    rw [List.foldl_cons]
    have h := stps_len o l (stp o s x)
    have h2 : (stp o s x).1.length ≤ s.1.length + 2 := by unfold stp; split <;> split <;> simp
    rw [List.length_cons]; omega
theorem stp_up (o : Ob) : ∀ (l : List Ob) (a : List Ob), (∀ x ∈ l, o.id < x.id) → l.foldl (stp o) (a, true) = (a ++ l, true)
  | [], a, _ => by simp
  | x :: l, a, h => by
    have hx := h x (List.mem_cons_self ..)
    rw [List.foldl_cons, show stp o (a, true) x = (a ++ [x], true) by unfold stp; rw [if_neg (by simp), if_pos (by omega)], stp_up o l _ fun y hy => h y (List.mem_cons_of_mem _ hy)]
    simp
def rpu (s : List Ob × Bool) (o : Ob) : List Ob := if s.2 = true then s.1 else s.1 ++ [o]
theorem rpu_go (o : Ob) : ∀ (l : List Ob) (a : List Ob), Srt l → rpu (l.foldl (stp o) (a, false)) o = a ++ puR l o
  | [], a, _ => by simp [rpu, puR, lowL, higL]
  | x :: l, a, h => by
    obtain ⟨h1, h2⟩ := List.pairwise_cons.1 h
    rw [List.foldl_cons]
    by_cases q : o.id ≤ x.id
    · have hl : ∀ y ∈ l, o.id < y.id := fun y hy => by have := h1 y hy; omega
      have e1 : lowL (x :: l) o.id = [] := by
        unfold lowL; rw [List.filter_eq_nil_iff]; intro y hy
        rcases List.mem_cons.1 hy with r | r
        · rw [r]; simp; omega
        · have := hl y r; simp; omega
      have e2 : higL l o.id = l := by
        unfold higL; rw [List.filter_eq_self]; intro y hy; have := hl y hy; simpa using this
      by_cases r : x.id = o.id
      · rw [show stp o (a, false) x = (a ++ [o], true) by unfold stp; rw [if_pos ⟨rfl, q⟩, if_neg (by simp [r])], stp_up o l _ hl]
        have e3 : higL (x :: l) o.id = l := by unfold higL at e2 ⊢; rw [List.filter_cons_of_neg (by simp; omega), e2]
        unfold puR rpu; rw [e1, e3]; simp
      · rw [show stp o (a, false) x = (a ++ [o] ++ [x], true) by unfold stp; rw [if_pos ⟨rfl, q⟩, if_pos r], stp_up o l _ hl]
        have e3 : higL (x :: l) o.id = x :: l := by unfold higL at e2 ⊢; rw [List.filter_cons_of_pos (by simp; omega), e2]
        unfold puR rpu; rw [e1, e3]; simp
    · rw [show stp o (a, false) x = (a ++ [x], false) by unfold stp; rw [if_neg (by simp; omega), if_pos (by omega)], rpu_go o l _ h2]
      have e1 : lowL (x :: l) o.id = x :: lowL l o.id := by unfold lowL; rw [List.filter_cons_of_pos (by simp; omega)]
      have e2 : higL (x :: l) o.id = higL l o.id := by unfold higL; rw [List.filter_cons_of_neg (by simp; omega)]
      unfold puR; rw [e1, e2]; simp
theorem rpu_eq {X : List Ob} (h : Srt X) (o : Ob) : rpu (stps o X) o = puR X o := by
  have := rpu_go o X [] h
  simpa [stps] using this
set_option maxRecDepth 100000 in
set_option maxHeartbeats 8000000 in
theorem rput_w {w : World} {t ke ro : Int} {ao : Option Addr} {n cap : Nat} {X : List Ob} {C : Array Value} {x : Ob} (h : Obs w ao n cap X) (hs : Srt X) (hn16 : n < 1024) (hx : ObD (LtN w) w C x) : Calls Try.prog 29 #[.agg #[.int .i64 t, .int .u64 ke, .int .u64 ro, .slice ao n cap], .agg C] w fun e w' => ∃ ao2 n2 cap2, e = .returned (.agg #[.int .i64 t, .int .u64 ke, .int .u64 ro, .slice ao2 n2 cap2]) ∧ Obs w' ao2 n2 cap2 (puR X x) ∧ Below w.heap.size w w' := by
  have hmx : Try.prog.follows .mixedOrders = true := by kernel_rfl
  have hn : Hid (X.length = n) := h.1
  have hnc := h.2.1
  have hcm := h.2.2.1.1
  have ga1 := Try.isAgg22
  have ga3 := Try.isAgg41
  have d0 := hx.id
  have hz := hx.size
  have hrp : Hid (rpu (stps x X) x = puR X x) := rpu_eq hs x
  have hln : Hid ((puR X x).length ≤ n + 1) := by have := puR_len X x; rw [hn.out] at this; exact this
  clear hs
  have c3 : (#[.int .i64 t, .int .u64 ke, .int .u64 ro, .slice ao n cap] : Array Value)[3]? = some (.slice ao n cap) := rfl
  have hz2 : ∀ v, (Try.prog.info? 43).map (·.size) = some (#[.int .i64 t, .int .u64 ke, .int .u64 ro, v] : Array Value).size := fun _ => size43
  have hs2 : ∀ v, zW.size = (#[.int .i64 t, .int .u64 ke, .int .u64 ro, v] : Array Value).size := fun _ => rfl
  have h12 : ∀ ao n cap, (#[.int .i64 t, .int .u64 ke, .int .u64 ro, .slice ao n cap] : Array Value).all (·.oneCell') = true := fun _ _ _ => by kernel_rfl
  have cS : ∀ v, (#[.int .i64 t, .int .u64 ke, .int .u64 ro, .slice ao n cap] : Array Value).setIfInBounds 3 v = #[.int .i64 t, .int .u64 ke, .int .u64 ro, v] := fun v => rfl
  have hzG4 : (#[.int .i64 t, .int .u64 ke, .int .u64 ro, .slice ao n cap] : Array Value).size = 4 := rfl
  obtain ⟨G, hG⟩ : ∃ G : Array Value, G = #[.int .i64 t, .int .u64 ke, .int .u64 ro, .slice ao n cap] := ⟨_, rfl⟩
  rw [← hG] at c3 cS hzG4
  rw [← hG]
  clear hG
  go_enter Try.func29, Try.ntmps29
  go_wp2_with (first
    | (with_reducible refine wpList_box rfl _ _ rfl G rfl ?_; intro B W hB hb hk)
    | (with_reducible refine wpList_box rfl _ _ rfl C rfl ?_; intro B2 W2 hB2 hb2 hk2; replace hb := hb.next hk2; replace hk := hk.trans (hk2.mono hk.size))
    | ((with_reducible refine wpList_alloc rfl _ rfl zW zero43 ?_); intro R W0 hB1 hRA hk1; have hbA := hb.next hk1; have hb2A := hb2.next hk1; replace hk := hk.trans (hk1.mono hk.size)))
  have hne : B ≠ R := by have := hB.out; have := hB1.out; have := hB2.out; omega
  have hRl : Hid (w.heap.size ≤ R ∧ w.heap.size ≤ B) := by have := hB.out; have := hB1.out; have := hB2.out; refine (⟨?_, ?_⟩ : _ ∧ _) <;> omega
  have hBR0 : Hid (B < W0.heap.size ∧ R < W0.heap.size) := ⟨hbA.lt, hRA.lt⟩
  clear hB hB1 hB2 hk1 hk2 hb hb2
  go_loopw [5, 6, 7] (fun v vd j wr => ∃ (k : Nat) (cs : List Value) (A : List Ob) (d : Bool), k ≤ n ∧ j = .int .i64 k ∧ vd = .bool d ∧ Hid (stps x (X.take k) = (A, d)) ∧ wr.ownsRow W0.heap.size 40 51 v A.length cs ∧ RowO (LtN w) wr A cs ∧ Below W0.heap.size W0 wr) (fun _ _ j _ => n - (intOf j).toNat)
  case atStart => exact ⟨0, [], [], false, Nat.zero_le _, rfl, rfl, rfl, World.ownsRow_nil _ _ _ _, rfl, Below.refl _ _⟩
  case round =>
    obtain ⟨k, cs, A, d, hkn1, rfl, rfl, hA, hown, hro, hb0⟩ := hrel
    have hbw := hk.trans (hb0.mono hk.size)
    have hb := hbA.next hb0
    have hb2 := hb2A.next hb0
    have hR := hRA.next hb0
    have hAl : A.length ≤ 2 * k := by have := stps_len x (X.take k) ([], false); rw [show (X.take k).foldl (stp x) ([], false) = stps x (X.take k) from rfl, hA.out] at this; simp at this; omega
    by_cases hkn : k < n
    · obtain ⟨b, off, C', rfl, hbw0, hC', hrw⟩ := obs_atD h hkn
      have hkX : k < X.length := by rw [hn.out]; exact hkn
      have hr := range_block hrw (hbw.block b hbw0)
      have hbb : b < wr.heap.size := Nat.lt_of_lt_of_le hbw0 hbw.size
      replace hC' := hC'.laterK (w' := wr) fun b hb => hbw.block b hb
      have hkn' : (k : Int) < n := by omega
      have hz' := hC'.size
      by_cases hne1 : (oat X k).id = x.id
      · have hne : Hid (¬ ¬ (oat X k).id = x.id) := fun q => q hne1
        have hge1 : x.id ≤ (oat X k).id := by omega
        have hge : Hid (x.id ≤ (oat X k).id) := hge1
        clear hne1
        cases d with
        | true =>
          go_wp2_with (first
            | (with_reducible refine wpList_load1 (by kernel_rfl) _ _ rfl B _ rfl _ _ hb _ c3 ga3 ?_))
          refine PgM.region_out (S := fun W => Blk W B G 43 ∧ Blk W B2 C 40 ∧ W.rangeAt b (off + k * 51) C'.toList) hmx ⟨hb.next (Below.refl _ _).drew, hb2.next (Below.refl _ _).drew, range_block hr ((Below.refl _ wr).drew.block b hbb)⟩ (fun hS => ?_)
          have hkd := (Below.refl wr.heap.size wr).drew
          replace hown := own_next hown hkd
          replace hb0 := hb0.trans (hkd.mono hb0.size)
          replace hbb := Nat.lt_of_lt_of_le hbb hkd.size
          generalize wr.drew = W1 at hS hown hb0 hbb ⊢
          clear hkd hb hb2 hr
          refine wpAnyH_sym (by kernel_rfl) (fun _ _ _ _ _ h => h) hS [(0, none), (1, none), (2, none), (3, none), (4, none), (5, none), (6, none), (7, none), (8, none), (9, none), (10, none), (11, none), (12, none)] (l' := #[true, true, true, true, true, true, true, true, true, true, true, true, true]) (a' := { tmps := #[.agg G, .agg C, .pointer (some ⟨B, 0, none⟩), .pointer (some ⟨B2, 0, none⟩), .pointer (some ⟨R, 0, none⟩), u5, .bool true, .int .i64 k, .int .i64 k, .pointer (some ⟨B, 3, none⟩), .slice (some ⟨b, off, none⟩) n cap, .int .i64 n, .bool true, u13, u14, .bool true, .bool false, .bool false, undef, undef, undef, undef, undef, undef, undef, undef, undef, .bool false, u28, u29, u30, u31, u32, u33, u34, u35, u36, u37, u38, u39, u40, u41, u42, u43, u44, u45, u46, u47, u48, undef, undef, undef, undef, undef, undef, undef, undef, undef, undef, undef, undef, undef], defers := [] }) (obs := []) (n := 0) (by kernel_rfl) (by kernel_rfl) trivial ?_
          refine wpAnyH_done (by kernel_rfl) ?_ _
          obtain ⟨hb, hb2, hr⟩ := hS
          go_wp2
          refine PgM.region_out (S := fun W => Blk W B G 43 ∧ Blk W B2 C 40 ∧ W.rangeAt b (off + k * 51) C'.toList) hmx ⟨hb.next (Below.refl _ _).drew, hb2.next (Below.refl _ _).drew, range_block hr ((Below.refl _ W1).drew.block b hbb)⟩ (fun hS => ?_)
          have hkd := (Below.refl W1.heap.size W1).drew
          replace hown := own_next hown hkd
          replace hb0 := hb0.trans (hkd.mono hb0.size)
          replace hbb := Nat.lt_of_lt_of_le hbb hkd.size
          generalize W1.drew = W4 at hS hown hb0 hbb ⊢
          clear hkd hb hb2 hr
          refine wpAnyH_sym (by kernel_rfl) (fun _ _ _ _ _ h => h) hS [(0, none), (1, some (.slice (some ⟨b, off, none⟩) n cap)), (2, none), (3, some (.pointer (some ⟨b, off + k * 51, none⟩))), (4, none), (5, some (.int .u64 (oat X k).id)), (6, none), (7, some (.int .u64 x.id)), (8, some (.bool false))] (l' := #[true, true, true, true, true, true, true, true, true]) (a' := { tmps := #[.agg G, .agg C, .pointer (some ⟨B, 0, none⟩), .pointer (some ⟨B2, 0, none⟩), .pointer (some ⟨R, 0, none⟩), u5, .bool true, .int .i64 k, .int .i64 k, .pointer (some ⟨B, 3, none⟩), .slice (some ⟨b, off, none⟩) n cap, .int .i64 n, .bool true, u13, u14, .bool true, .bool false, .bool false, undef, undef, undef, undef, undef, undef, undef, undef, undef, .bool false, u28, u29, u30, u31, .pointer (some ⟨B, 3, none⟩), .slice (some ⟨b, off, none⟩) n cap, .int .i64 k, .pointer (some ⟨b, off + k * 51, none⟩), .pointer (some ⟨b, off + k * 51 + 0, none⟩), .int .u64 (oat X k).id, .pointer (some ⟨B2, 0, none⟩), .int .u64 x.id, .bool false, u41, u42, u43, u44, u45, u46, u47, u48, undef, undef, undef, undef, undef, undef, undef, undef, undef, undef, undef, undef, undef], defers := [] }) (obs := [.load 41 B 3 (.slice (some ⟨b, off, none⟩) n cap), .ia 41 (.slice (some ⟨b, off, none⟩) n cap) (.int .i64 k) (.pointer (some ⟨b, off + k * 51, none⟩)), .load 22 b (off + k * 51 + 0) (.int .u64 (oat X k).id), .load 22 B2 0 (.int .u64 x.id), .test .neq 22 (.tmp 37) (.tmp 39) (.int .u64 (oat X k).id) (.int .u64 x.id) (.bool false)]) (n := 0) (by kernel_rfl) (by kernel_rfl) ⟨ob_load1 (fun _ h => h.1) c3 Try.isAgg41, ia_at hkn, ob_cell (j := 0) (fun _ h => h.2.2) hC'.id Try.isAgg22, ob_load1 (fun _ h => h.2.1) d0 Try.isAgg22, ob_no (fun _ => neg_int _ _ _ _ _ _) hne, trivial⟩ ?_
          refine wpAnyH_done (by kernel_rfl) ?_ _
          obtain ⟨hb, hb2, hr⟩ := hS
          go_wp2
          go_roundw
          case rel =>
            have hne1 := Classical.not_not.1 hne.out
            have hst : stps x (X.take (k + 1)) = (A, true) := by rw [stps_succ hkX, hA.out]; unfold stp; simp [hne1]
            have hbw2 := hk.trans (hb0.mono hk.size)
            refine ⟨k + 1, cs, A, true, by omega, by go_num, rfl, hst, ?_, ?_, hb0⟩
            · simpa [List.length_append] using hown
            · exact (hro.laterK fun b hb => (hbw2.block b hb).trans (hbw.block b hb).symm)
          case measure => simp [intOf]; omega
        | false =>
          go_wp2_with (first
            | (with_reducible refine wpList_load1 (by kernel_rfl) _ _ rfl B _ rfl _ _ hb _ c3 ga3 ?_))
          refine PgM.region_out (S := fun W => Blk W B G 43 ∧ Blk W B2 C 40 ∧ W.rangeAt b (off + k * 51) C'.toList) hmx ⟨hb.next (Below.refl _ _).drew, hb2.next (Below.refl _ _).drew, range_block hr ((Below.refl _ wr).drew.block b hbb)⟩ (fun hS => ?_)
          have hkd := (Below.refl wr.heap.size wr).drew
          replace hown := own_next hown hkd
          replace hb0 := hb0.trans (hkd.mono hb0.size)
          replace hbb := Nat.lt_of_lt_of_le hbb hkd.size
          generalize wr.drew = W1 at hS hown hb0 hbb ⊢
          clear hkd hb hb2 hr
          refine wpAnyH_sym (by kernel_rfl) (fun _ _ _ _ _ h => h) hS [(0, none), (1, none), (2, none), (3, none), (4, some (.slice (some ⟨b, off, none⟩) n cap)), (5, none), (6, some (.pointer (some ⟨b, off + k * 51, none⟩))), (7, none), (8, some (.int .u64 (oat X k).id)), (9, none), (10, some (.int .u64 x.id)), (11, some (.bool true)), (12, none)] (l' := #[true, true, true, true, true, true, true, true, true, true, true, true, true]) (a' := { tmps := #[.agg G, .agg C, .pointer (some ⟨B, 0, none⟩), .pointer (some ⟨B2, 0, none⟩), .pointer (some ⟨R, 0, none⟩), u5, .bool false, .int .i64 k, .int .i64 k, .pointer (some ⟨B, 3, none⟩), .slice (some ⟨b, off, none⟩) n cap, .int .i64 n, .bool true, u13, u14, .bool false, .bool true, .bool true, .pointer (some ⟨B, 3, none⟩), .slice (some ⟨b, off, none⟩) n cap, .int .i64 k, .pointer (some ⟨b, off + k * 51, none⟩), .pointer (some ⟨b, off + k * 51 + 0, none⟩), .int .u64 (oat X k).id, .pointer (some ⟨B2, 0, none⟩), .int .u64 x.id, .bool true, .bool true, u28, u29, u30, u31, u32, u33, u34, u35, u36, u37, u38, u39, u40, u41, u42, u43, u44, u45, u46, u47, u48, undef, undef, undef, undef, undef, undef, undef, undef, undef, undef, undef, undef, undef], defers := [] }) (obs := [.load 41 B 3 (.slice (some ⟨b, off, none⟩) n cap), .ia 41 (.slice (some ⟨b, off, none⟩) n cap) (.int .i64 k) (.pointer (some ⟨b, off + k * 51, none⟩)), .load 22 b (off + k * 51 + 0) (.int .u64 (oat X k).id), .load 22 B2 0 (.int .u64 x.id), .test .geq 22 (.tmp 23) (.tmp 25) (.int .u64 (oat X k).id) (.int .u64 x.id) (.bool true)]) (n := 0) (by kernel_rfl) (by kernel_rfl) ⟨ob_load1 (fun _ h => h.1) c3 Try.isAgg41, ia_at hkn, ob_cell (j := 0) (fun _ h => h.2.2) hC'.id Try.isAgg22, ob_load1 (fun _ h => h.2.1) d0 Try.isAgg22, ob_yes (fun _ => tge_int _ _ _ _ _ _) hge, trivial⟩ ?_
          refine wpAnyH_done (by kernel_rfl) ?_ _
          obtain ⟨hb, hb2, hr⟩ := hS
          go_wp2_with (first
            | (with_reducible refine wpList_load_blk rfl _ _ rfl B2 rfl _ hb2 _ Try.underlying40 rfl (size40C hz) ?_)
            | ((with_reducible refine wpList_bs1 rfl _ rfl C rfl hz ?_); intro Bq W2 hBq hbq hk2; replace hown := own_next hown hk2; replace hb0 := hb0.trans (hk2.mono hb0.size))
            | (at_builtin; refine wpList_append_row infoO Try.underlying41 zC_size (by omega) rfl _ _ rfl W0.heap.size _ _ cs rfl hown _ _ _ _ C.toList rfl (row_one hbq hz) (obC_one hx) (by unfold maxLen; omega) (by omega) hb0.size ?_; intro v1 W3 hown3 hgrow; replace hb0 := hb0.grown hgrow hb0.size (own_ge hown); replace hown := hown3; clear hown3))
          replace hb := hbA.next hb0
          replace hb2 := hb2A.next hb0
          replace hr : W3.rangeAt b (off + k * 51) C'.toList := range_block hrw ((hk.trans (hb0.mono hk.size)).block b hbw0)
          replace hbb : b < W3.heap.size := Nat.lt_of_lt_of_le hbw0 (hk.trans (hb0.mono hk.size)).size
          clear hgrow hbq hBq hk2
          refine PgM.region_out (S := fun W => Blk W B G 43 ∧ Blk W B2 C 40 ∧ W.rangeAt b (off + k * 51) C'.toList) hmx ⟨hb.next (Below.refl _ _).drew, hb2.next (Below.refl _ _).drew, range_block hr ((Below.refl _ W3).drew.block b hbb)⟩ (fun hS => ?_)
          have hkd := (Below.refl W3.heap.size W3).drew
          replace hown := own_next hown hkd
          replace hb0 := hb0.trans (hkd.mono hb0.size)
          replace hbb := Nat.lt_of_lt_of_le hbb hkd.size
          generalize W3.drew = W4 at hS hown hb0 hbb ⊢
          clear hkd hb hb2 hr
          refine wpAnyH_sym (by kernel_rfl) (fun _ _ _ _ _ h => h) hS [(0, none), (1, some (.slice (some ⟨b, off, none⟩) n cap)), (2, none), (3, some (.pointer (some ⟨b, off + k * 51, none⟩))), (4, none), (5, some (.int .u64 (oat X k).id)), (6, none), (7, some (.int .u64 x.id)), (8, some (.bool false))] (l' := #[true, true, true, true, true, true, true, true, true]) (a' := { tmps := #[.agg G, .agg C, .pointer (some ⟨B, 0, none⟩), .pointer (some ⟨B2, 0, none⟩), .pointer (some ⟨R, 0, none⟩), v1, .bool true, .int .i64 k, .int .i64 k, .pointer (some ⟨B, 3, none⟩), .slice (some ⟨b, off, none⟩) n cap, .int .i64 n, .bool true, u13, u14, .bool false, .bool true, .bool true, .pointer (some ⟨B, 3, none⟩), .slice (some ⟨b, off, none⟩) n cap, .int .i64 k, .pointer (some ⟨b, off + k * 51, none⟩), .pointer (some ⟨b, off + k * 51 + 0, none⟩), .int .u64 (oat X k).id, .pointer (some ⟨B2, 0, none⟩), .int .u64 x.id, .bool true, .bool true, u5, .agg C, .slice (some ⟨Bq, 0, none⟩) 1 1, v1, .pointer (some ⟨B, 3, none⟩), .slice (some ⟨b, off, none⟩) n cap, .int .i64 k, .pointer (some ⟨b, off + k * 51, none⟩), .pointer (some ⟨b, off + k * 51 + 0, none⟩), .int .u64 (oat X k).id, .pointer (some ⟨B2, 0, none⟩), .int .u64 x.id, .bool false, u41, u42, u43, u44, u45, u46, u47, u48, undef, undef, undef, undef, undef, undef, undef, undef, undef, undef, undef, undef, undef], defers := [] }) (obs := [.load 41 B 3 (.slice (some ⟨b, off, none⟩) n cap), .ia 41 (.slice (some ⟨b, off, none⟩) n cap) (.int .i64 k) (.pointer (some ⟨b, off + k * 51, none⟩)), .load 22 b (off + k * 51 + 0) (.int .u64 (oat X k).id), .load 22 B2 0 (.int .u64 x.id), .test .neq 22 (.tmp 37) (.tmp 39) (.int .u64 (oat X k).id) (.int .u64 x.id) (.bool false)]) (n := 0) (by kernel_rfl) (by kernel_rfl) ⟨ob_load1 (fun _ h => h.1) c3 Try.isAgg41, ia_at hkn, ob_cell (j := 0) (fun _ h => h.2.2) hC'.id Try.isAgg22, ob_load1 (fun _ h => h.2.1) d0 Try.isAgg22, ob_no (fun _ => neg_int _ _ _ _ _ _) hne, trivial⟩ ?_
          refine wpAnyH_done (by kernel_rfl) ?_ _
          obtain ⟨hb, hb2, hr⟩ := hS
          go_wp2
          go_roundw
          case rel =>
            have hne1 := Classical.not_not.1 hne.out
            have hst : stps x (X.take (k + 1)) = (A ++ [x], true) := by rw [stps_succ hkX, hA.out]; unfold stp; simp [hne1]
            have hbw2 := hk.trans (hb0.mono hk.size)
            refine ⟨k + 1, cs ++ C.toList, A ++ [x], true, by omega, by go_num, rfl, hst, ?_, ?_, hb0⟩
            · simpa [List.length_append] using hown
            · exact (RowO.app (hro.laterK fun b hb => (hbw2.block b hb).trans (hbw.block b hb).symm) (RowO.single (hx.laterK fun b hb => hbw2.block b hb)))
          case measure => simp [intOf]; omega
      · have hne : Hid (¬ (oat X k).id = x.id) := hne1
        clear hne1
        cases d with
        | true =>
          go_wp2_with (first
            | (with_reducible refine wpList_load1 (by kernel_rfl) _ _ rfl B _ rfl _ _ hb _ c3 ga3 ?_))
          refine PgM.region_out (S := fun W => Blk W B G 43 ∧ Blk W B2 C 40 ∧ W.rangeAt b (off + k * 51) C'.toList) hmx ⟨hb.next (Below.refl _ _).drew, hb2.next (Below.refl _ _).drew, range_block hr ((Below.refl _ wr).drew.block b hbb)⟩ (fun hS => ?_)
          have hkd := (Below.refl wr.heap.size wr).drew
          replace hown := own_next hown hkd
          replace hb0 := hb0.trans (hkd.mono hb0.size)
          replace hbb := Nat.lt_of_lt_of_le hbb hkd.size
          generalize wr.drew = W1 at hS hown hb0 hbb ⊢
          clear hkd hb hb2 hr
          refine wpAnyH_sym (by kernel_rfl) (fun _ _ _ _ _ h => h) hS [(0, none), (1, none), (2, none), (3, none), (4, none), (5, none), (6, none), (7, none), (8, none), (9, none), (10, none), (11, none), (12, none)] (l' := #[true, true, true, true, true, true, true, true, true, true, true, true, true]) (a' := { tmps := #[.agg G, .agg C, .pointer (some ⟨B, 0, none⟩), .pointer (some ⟨B2, 0, none⟩), .pointer (some ⟨R, 0, none⟩), u5, .bool true, .int .i64 k, .int .i64 k, .pointer (some ⟨B, 3, none⟩), .slice (some ⟨b, off, none⟩) n cap, .int .i64 n, .bool true, u13, u14, .bool true, .bool false, .bool false, undef, undef, undef, undef, undef, undef, undef, undef, undef, .bool false, u28, u29, u30, u31, u32, u33, u34, u35, u36, u37, u38, u39, u40, u41, u42, u43, u44, u45, u46, u47, u48, undef, undef, undef, undef, undef, undef, undef, undef, undef, undef, undef, undef, undef], defers := [] }) (obs := []) (n := 0) (by kernel_rfl) (by kernel_rfl) trivial ?_
          refine wpAnyH_done (by kernel_rfl) ?_ _
          obtain ⟨hb, hb2, hr⟩ := hS
          go_wp2
          refine PgM.region_out (S := fun W => Blk W B G 43 ∧ Blk W B2 C 40 ∧ W.rangeAt b (off + k * 51) C'.toList) hmx ⟨hb.next (Below.refl _ _).drew, hb2.next (Below.refl _ _).drew, range_block hr ((Below.refl _ W1).drew.block b hbb)⟩ (fun hS => ?_)
          have hkd := (Below.refl W1.heap.size W1).drew
          replace hown := own_next hown hkd
          replace hb0 := hb0.trans (hkd.mono hb0.size)
          replace hbb := Nat.lt_of_lt_of_le hbb hkd.size
          generalize W1.drew = W4 at hS hown hb0 hbb ⊢
          clear hkd hb hb2 hr
          refine wpAnyH_sym (by kernel_rfl) (fun _ _ _ _ _ h => h) hS [(0, none), (1, some (.slice (some ⟨b, off, none⟩) n cap)), (2, none), (3, some (.pointer (some ⟨b, off + k * 51, none⟩))), (4, none), (5, some (.int .u64 (oat X k).id)), (6, none), (7, some (.int .u64 x.id)), (8, some (.bool true))] (l' := #[true, true, true, true, true, true, true, true, true]) (a' := { tmps := #[.agg G, .agg C, .pointer (some ⟨B, 0, none⟩), .pointer (some ⟨B2, 0, none⟩), .pointer (some ⟨R, 0, none⟩), u5, .bool true, .int .i64 k, .int .i64 k, .pointer (some ⟨B, 3, none⟩), .slice (some ⟨b, off, none⟩) n cap, .int .i64 n, .bool true, u13, u14, .bool true, .bool false, .bool false, undef, undef, undef, undef, undef, undef, undef, undef, undef, .bool false, u28, u29, u30, u31, .pointer (some ⟨B, 3, none⟩), .slice (some ⟨b, off, none⟩) n cap, .int .i64 k, .pointer (some ⟨b, off + k * 51, none⟩), .pointer (some ⟨b, off + k * 51 + 0, none⟩), .int .u64 (oat X k).id, .pointer (some ⟨B2, 0, none⟩), .int .u64 x.id, .bool true, u41, u42, u43, u44, u45, u46, u47, u48, undef, undef, undef, undef, undef, undef, undef, undef, undef, undef, undef, undef, undef], defers := [] }) (obs := [.load 41 B 3 (.slice (some ⟨b, off, none⟩) n cap), .ia 41 (.slice (some ⟨b, off, none⟩) n cap) (.int .i64 k) (.pointer (some ⟨b, off + k * 51, none⟩)), .load 22 b (off + k * 51 + 0) (.int .u64 (oat X k).id), .load 22 B2 0 (.int .u64 x.id), .test .neq 22 (.tmp 37) (.tmp 39) (.int .u64 (oat X k).id) (.int .u64 x.id) (.bool true)]) (n := 0) (by kernel_rfl) (by kernel_rfl) ⟨ob_load1 (fun _ h => h.1) c3 Try.isAgg41, ia_at hkn, ob_cell (j := 0) (fun _ h => h.2.2) hC'.id Try.isAgg22, ob_load1 (fun _ h => h.2.1) d0 Try.isAgg22, ob_yes (fun _ => neg_int _ _ _ _ _ _) hne, trivial⟩ ?_
          refine wpAnyH_done (by kernel_rfl) ?_ _
          obtain ⟨hb, hb2, hr⟩ := hS
          go_wp2_with (first
            | (with_reducible refine wpList_load1 (by kernel_rfl) _ _ rfl B _ rfl _ _ hb _ c3 ga3 ?_)
            | (with_reducible refine wpList_loadm (by kernel_rfl) 40 _ rfl b _ rfl C' hr _ Try.underlying40 (by kernel_rfl) (size40C hz') ?_)
            | ((with_reducible refine wpList_bs1 rfl _ rfl C' rfl hz' ?_); intro Bp W5 hBp hbp hk5; replace hown := own_next hown hk5; replace hb0 := hb0.trans (hk5.mono hb0.size))
            | (at_builtin; refine wpList_append_row infoO Try.underlying41 zC_size (by omega) rfl _ _ rfl W0.heap.size _ _ _ rfl hown _ _ _ _ C'.toList rfl (row_one hbp hz') (obC_one hC') (by unfold maxLen; omega) (by omega) hb0.size ?_; intro v2 W6 hown6 hgrow; replace hb0 := hb0.grown hgrow hb0.size (own_ge hown); replace hown := hown6; clear hown6))
          go_roundw
          case rel =>
            have hne1 := hne.out
            have hst : stps x (X.take (k + 1)) = (A ++ [oat X k], true) := by rw [stps_succ hkX, hA.out]; unfold stp; simp [hne1]
            have hbw2 := hk.trans (hb0.mono hk.size)
            refine ⟨k + 1, cs ++ C'.toList, A ++ [oat X k], true, by omega, by go_num, rfl, hst, ?_, ?_, hb0⟩
            · simpa [List.length_append] using hown
            · exact (RowO.app (hro.laterK fun b hb => (hbw2.block b hb).trans (hbw.block b hb).symm) (RowO.single (hC'.laterK fun b hb => (hbw2.block b hb).trans (hbw.block b hb).symm)))
          case measure => simp [intOf]; omega
        | false =>
          by_cases hge1 : x.id ≤ (oat X k).id
          · have hge : Hid (x.id ≤ (oat X k).id) := hge1
            go_wp2_with (first
              | (with_reducible refine wpList_load1 (by kernel_rfl) _ _ rfl B _ rfl _ _ hb _ c3 ga3 ?_))
            refine PgM.region_out (S := fun W => Blk W B G 43 ∧ Blk W B2 C 40 ∧ W.rangeAt b (off + k * 51) C'.toList) hmx ⟨hb.next (Below.refl _ _).drew, hb2.next (Below.refl _ _).drew, range_block hr ((Below.refl _ wr).drew.block b hbb)⟩ (fun hS => ?_)
            have hkd := (Below.refl wr.heap.size wr).drew
            replace hown := own_next hown hkd
            replace hb0 := hb0.trans (hkd.mono hb0.size)
            replace hbb := Nat.lt_of_lt_of_le hbb hkd.size
            generalize wr.drew = W1 at hS hown hb0 hbb ⊢
            clear hkd hb hb2 hr
            refine wpAnyH_sym (by kernel_rfl) (fun _ _ _ _ _ h => h) hS [(0, none), (1, none), (2, none), (3, none), (4, some (.slice (some ⟨b, off, none⟩) n cap)), (5, none), (6, some (.pointer (some ⟨b, off + k * 51, none⟩))), (7, none), (8, some (.int .u64 (oat X k).id)), (9, none), (10, some (.int .u64 x.id)), (11, some (.bool true)), (12, none)] (l' := #[true, true, true, true, true, true, true, true, true, true, true, true, true]) (a' := { tmps := #[.agg G, .agg C, .pointer (some ⟨B, 0, none⟩), .pointer (some ⟨B2, 0, none⟩), .pointer (some ⟨R, 0, none⟩), u5, .bool false, .int .i64 k, .int .i64 k, .pointer (some ⟨B, 3, none⟩), .slice (some ⟨b, off, none⟩) n cap, .int .i64 n, .bool true, u13, u14, .bool false, .bool true, .bool true, .pointer (some ⟨B, 3, none⟩), .slice (some ⟨b, off, none⟩) n cap, .int .i64 k, .pointer (some ⟨b, off + k * 51, none⟩), .pointer (some ⟨b, off + k * 51 + 0, none⟩), .int .u64 (oat X k).id, .pointer (some ⟨B2, 0, none⟩), .int .u64 x.id, .bool true, .bool true, u28, u29, u30, u31, u32, u33, u34, u35, u36, u37, u38, u39, u40, u41, u42, u43, u44, u45, u46, u47, u48, undef, undef, undef, undef, undef, undef, undef, undef, undef, undef, undef, undef, undef], defers := [] }) (obs := [.load 41 B 3 (.slice (some ⟨b, off, none⟩) n cap), .ia 41 (.slice (some ⟨b, off, none⟩) n cap) (.int .i64 k) (.pointer (some ⟨b, off + k * 51, none⟩)), .load 22 b (off + k * 51 + 0) (.int .u64 (oat X k).id), .load 22 B2 0 (.int .u64 x.id), .test .geq 22 (.tmp 23) (.tmp 25) (.int .u64 (oat X k).id) (.int .u64 x.id) (.bool true)]) (n := 0) (by kernel_rfl) (by kernel_rfl) ⟨ob_load1 (fun _ h => h.1) c3 Try.isAgg41, ia_at hkn, ob_cell (j := 0) (fun _ h => h.2.2) hC'.id Try.isAgg22, ob_load1 (fun _ h => h.2.1) d0 Try.isAgg22, ob_yes (fun _ => tge_int _ _ _ _ _ _) hge, trivial⟩ ?_
            refine wpAnyH_done (by kernel_rfl) ?_ _
            obtain ⟨hb, hb2, hr⟩ := hS
            go_wp2_with (first
              | (with_reducible refine wpList_load_blk rfl _ _ rfl B2 rfl _ hb2 _ Try.underlying40 rfl (size40C hz) ?_)
              | ((with_reducible refine wpList_bs1 rfl _ rfl C rfl hz ?_); intro Bq W2 hBq hbq hk2; replace hown := own_next hown hk2; replace hb0 := hb0.trans (hk2.mono hb0.size))
              | (at_builtin; refine wpList_append_row infoO Try.underlying41 zC_size (by omega) rfl _ _ rfl W0.heap.size _ _ cs rfl hown _ _ _ _ C.toList rfl (row_one hbq hz) (obC_one hx) (by unfold maxLen; omega) (by omega) hb0.size ?_; intro v1 W3 hown3 hgrow; replace hb0 := hb0.grown hgrow hb0.size (own_ge hown); replace hown := hown3; clear hown3))
            replace hb := hbA.next hb0
            replace hb2 := hb2A.next hb0
            replace hr : W3.rangeAt b (off + k * 51) C'.toList := range_block hrw ((hk.trans (hb0.mono hk.size)).block b hbw0)
            replace hbb : b < W3.heap.size := Nat.lt_of_lt_of_le hbw0 (hk.trans (hb0.mono hk.size)).size
            clear hgrow hbq hBq hk2
            refine PgM.region_out (S := fun W => Blk W B G 43 ∧ Blk W B2 C 40 ∧ W.rangeAt b (off + k * 51) C'.toList) hmx ⟨hb.next (Below.refl _ _).drew, hb2.next (Below.refl _ _).drew, range_block hr ((Below.refl _ W3).drew.block b hbb)⟩ (fun hS => ?_)
            have hkd := (Below.refl W3.heap.size W3).drew
            replace hown := own_next hown hkd
            replace hb0 := hb0.trans (hkd.mono hb0.size)
            replace hbb := Nat.lt_of_lt_of_le hbb hkd.size
            generalize W3.drew = W4 at hS hown hb0 hbb ⊢
            clear hkd hb hb2 hr
            refine wpAnyH_sym (by kernel_rfl) (fun _ _ _ _ _ h => h) hS [(0, none), (1, some (.slice (some ⟨b, off, none⟩) n cap)), (2, none), (3, some (.pointer (some ⟨b, off + k * 51, none⟩))), (4, none), (5, some (.int .u64 (oat X k).id)), (6, none), (7, some (.int .u64 x.id)), (8, some (.bool true))] (l' := #[true, true, true, true, true, true, true, true, true]) (a' := { tmps := #[.agg G, .agg C, .pointer (some ⟨B, 0, none⟩), .pointer (some ⟨B2, 0, none⟩), .pointer (some ⟨R, 0, none⟩), v1, .bool true, .int .i64 k, .int .i64 k, .pointer (some ⟨B, 3, none⟩), .slice (some ⟨b, off, none⟩) n cap, .int .i64 n, .bool true, u13, u14, .bool false, .bool true, .bool true, .pointer (some ⟨B, 3, none⟩), .slice (some ⟨b, off, none⟩) n cap, .int .i64 k, .pointer (some ⟨b, off + k * 51, none⟩), .pointer (some ⟨b, off + k * 51 + 0, none⟩), .int .u64 (oat X k).id, .pointer (some ⟨B2, 0, none⟩), .int .u64 x.id, .bool true, .bool true, u5, .agg C, .slice (some ⟨Bq, 0, none⟩) 1 1, v1, .pointer (some ⟨B, 3, none⟩), .slice (some ⟨b, off, none⟩) n cap, .int .i64 k, .pointer (some ⟨b, off + k * 51, none⟩), .pointer (some ⟨b, off + k * 51 + 0, none⟩), .int .u64 (oat X k).id, .pointer (some ⟨B2, 0, none⟩), .int .u64 x.id, .bool true, u41, u42, u43, u44, u45, u46, u47, u48, undef, undef, undef, undef, undef, undef, undef, undef, undef, undef, undef, undef, undef], defers := [] }) (obs := [.load 41 B 3 (.slice (some ⟨b, off, none⟩) n cap), .ia 41 (.slice (some ⟨b, off, none⟩) n cap) (.int .i64 k) (.pointer (some ⟨b, off + k * 51, none⟩)), .load 22 b (off + k * 51 + 0) (.int .u64 (oat X k).id), .load 22 B2 0 (.int .u64 x.id), .test .neq 22 (.tmp 37) (.tmp 39) (.int .u64 (oat X k).id) (.int .u64 x.id) (.bool true)]) (n := 0) (by kernel_rfl) (by kernel_rfl) ⟨ob_load1 (fun _ h => h.1) c3 Try.isAgg41, ia_at hkn, ob_cell (j := 0) (fun _ h => h.2.2) hC'.id Try.isAgg22, ob_load1 (fun _ h => h.2.1) d0 Try.isAgg22, ob_yes (fun _ => neg_int _ _ _ _ _ _) hne, trivial⟩ ?_
            refine wpAnyH_done (by kernel_rfl) ?_ _
            obtain ⟨hb, hb2, hr⟩ := hS
            go_wp2_with (first
              | (with_reducible refine wpList_load1 (by kernel_rfl) _ _ rfl B _ rfl _ _ hb _ c3 ga3 ?_)
              | (with_reducible refine wpList_loadm (by kernel_rfl) 40 _ rfl b _ rfl C' hr _ Try.underlying40 (by kernel_rfl) (size40C hz') ?_)
              | ((with_reducible refine wpList_bs1 rfl _ rfl C' rfl hz' ?_); intro Bp W5 hBp hbp hk5; replace hown := own_next hown hk5; replace hb0 := hb0.trans (hk5.mono hb0.size))
              | (at_builtin; refine wpList_append_row infoO Try.underlying41 zC_size (by omega) rfl _ _ rfl W0.heap.size _ _ _ rfl hown _ _ _ _ C'.toList rfl (row_one hbp hz') (obC_one hC') (by unfold maxLen; omega) (by omega) hb0.size ?_; intro v2 W6 hown6 hgrow; replace hb0 := hb0.grown hgrow hb0.size (own_ge hown); replace hown := hown6; clear hown6))
            go_roundw
            case rel =>
              have hne1 := hne.out
              have hst : stps x (X.take (k + 1)) = (A ++ [x] ++ [oat X k], true) := by rw [stps_succ hkX, hA.out]; unfold stp; simp [hge1, hne1]
              have hbw2 := hk.trans (hb0.mono hk.size)
              refine ⟨k + 1, cs ++ C.toList ++ C'.toList, A ++ [x] ++ [oat X k], true, by omega, by go_num, rfl, hst, ?_, ?_, hb0⟩
              · simpa [List.length_append] using hown
              · exact (RowO.app (RowO.app (hro.laterK fun b hb => (hbw2.block b hb).trans (hbw.block b hb).symm) (RowO.single (hx.laterK fun b hb => hbw2.block b hb))) (RowO.single (hC'.laterK fun b hb => (hbw2.block b hb).trans (hbw.block b hb).symm)))
            case measure => simp [intOf]; omega
          · have hge : Hid (¬ x.id ≤ (oat X k).id) := hge1
            go_wp2_with (first
              | (with_reducible refine wpList_load1 (by kernel_rfl) _ _ rfl B _ rfl _ _ hb _ c3 ga3 ?_))
            refine PgM.region_out (S := fun W => Blk W B G 43 ∧ Blk W B2 C 40 ∧ W.rangeAt b (off + k * 51) C'.toList) hmx ⟨hb.next (Below.refl _ _).drew, hb2.next (Below.refl _ _).drew, range_block hr ((Below.refl _ wr).drew.block b hbb)⟩ (fun hS => ?_)
            have hkd := (Below.refl wr.heap.size wr).drew
            replace hown := own_next hown hkd
            replace hb0 := hb0.trans (hkd.mono hb0.size)
            replace hbb := Nat.lt_of_lt_of_le hbb hkd.size
            generalize wr.drew = W1 at hS hown hb0 hbb ⊢
            clear hkd hb hb2 hr
            refine wpAnyH_sym (by kernel_rfl) (fun _ _ _ _ _ h => h) hS [(0, none), (1, none), (2, none), (3, none), (4, some (.slice (some ⟨b, off, none⟩) n cap)), (5, none), (6, some (.pointer (some ⟨b, off + k * 51, none⟩))), (7, none), (8, some (.int .u64 (oat X k).id)), (9, none), (10, some (.int .u64 x.id)), (11, some (.bool false)), (12, none)] (l' := #[true, true, true, true, true, true, true, true, true, true, true, true, true]) (a' := { tmps := #[.agg G, .agg C, .pointer (some ⟨B, 0, none⟩), .pointer (some ⟨B2, 0, none⟩), .pointer (some ⟨R, 0, none⟩), u5, .bool false, .int .i64 k, .int .i64 k, .pointer (some ⟨B, 3, none⟩), .slice (some ⟨b, off, none⟩) n cap, .int .i64 n, .bool true, u13, u14, .bool false, .bool true, .bool true, .pointer (some ⟨B, 3, none⟩), .slice (some ⟨b, off, none⟩) n cap, .int .i64 k, .pointer (some ⟨b, off + k * 51, none⟩), .pointer (some ⟨b, off + k * 51 + 0, none⟩), .int .u64 (oat X k).id, .pointer (some ⟨B2, 0, none⟩), .int .u64 x.id, .bool false, .bool false, u28, u29, u30, u31, u32, u33, u34, u35, u36, u37, u38, u39, u40, u41, u42, u43, u44, u45, u46, u47, u48, undef, undef, undef, undef, undef, undef, undef, undef, undef, undef, undef, undef, undef], defers := [] }) (obs := [.load 41 B 3 (.slice (some ⟨b, off, none⟩) n cap), .ia 41 (.slice (some ⟨b, off, none⟩) n cap) (.int .i64 k) (.pointer (some ⟨b, off + k * 51, none⟩)), .load 22 b (off + k * 51 + 0) (.int .u64 (oat X k).id), .load 22 B2 0 (.int .u64 x.id), .test .geq 22 (.tmp 23) (.tmp 25) (.int .u64 (oat X k).id) (.int .u64 x.id) (.bool false)]) (n := 0) (by kernel_rfl) (by kernel_rfl) ⟨ob_load1 (fun _ h => h.1) c3 Try.isAgg41, ia_at hkn, ob_cell (j := 0) (fun _ h => h.2.2) hC'.id Try.isAgg22, ob_load1 (fun _ h => h.2.1) d0 Try.isAgg22, ob_no (fun _ => tge_int _ _ _ _ _ _) (by refine (?_ : ¬ x.id ≤ (oat X k).id); have := hge.out; omega), trivial⟩ ?_
            refine wpAnyH_done (by kernel_rfl) ?_ _
            obtain ⟨hb, hb2, hr⟩ := hS
            go_wp2
            refine PgM.region_out (S := fun W => Blk W B G 43 ∧ Blk W B2 C 40 ∧ W.rangeAt b (off + k * 51) C'.toList) hmx ⟨hb.next (Below.refl _ _).drew, hb2.next (Below.refl _ _).drew, range_block hr ((Below.refl _ W1).drew.block b hbb)⟩ (fun hS => ?_)
            have hkd := (Below.refl W1.heap.size W1).drew
            replace hown := own_next hown hkd
            replace hb0 := hb0.trans (hkd.mono hb0.size)
            replace hbb := Nat.lt_of_lt_of_le hbb hkd.size
            generalize W1.drew = W4 at hS hown hb0 hbb ⊢
            clear hkd hb hb2 hr
            refine wpAnyH_sym (by kernel_rfl) (fun _ _ _ _ _ h => h) hS [(0, none), (1, some (.slice (some ⟨b, off, none⟩) n cap)), (2, none), (3, some (.pointer (some ⟨b, off + k * 51, none⟩))), (4, none), (5, some (.int .u64 (oat X k).id)), (6, none), (7, some (.int .u64 x.id)), (8, some (.bool true))] (l' := #[true, true, true, true, true, true, true, true, true]) (a' := { tmps := #[.agg G, .agg C, .pointer (some ⟨B, 0, none⟩), .pointer (some ⟨B2, 0, none⟩), .pointer (some ⟨R, 0, none⟩), u5, .bool false, .int .i64 k, .int .i64 k, .pointer (some ⟨B, 3, none⟩), .slice (some ⟨b, off, none⟩) n cap, .int .i64 n, .bool true, u13, u14, .bool false, .bool true, .bool true, .pointer (some ⟨B, 3, none⟩), .slice (some ⟨b, off, none⟩) n cap, .int .i64 k, .pointer (some ⟨b, off + k * 51, none⟩), .pointer (some ⟨b, off + k * 51 + 0, none⟩), .int .u64 (oat X k).id, .pointer (some ⟨B2, 0, none⟩), .int .u64 x.id, .bool false, .bool false, u28, u29, u30, u31, .pointer (some ⟨B, 3, none⟩), .slice (some ⟨b, off, none⟩) n cap, .int .i64 k, .pointer (some ⟨b, off + k * 51, none⟩), .pointer (some ⟨b, off + k * 51 + 0, none⟩), .int .u64 (oat X k).id, .pointer (some ⟨B2, 0, none⟩), .int .u64 x.id, .bool true, u41, u42, u43, u44, u45, u46, u47, u48, undef, undef, undef, undef, undef, undef, undef, undef, undef, undef, undef, undef, undef], defers := [] }) (obs := [.load 41 B 3 (.slice (some ⟨b, off, none⟩) n cap), .ia 41 (.slice (some ⟨b, off, none⟩) n cap) (.int .i64 k) (.pointer (some ⟨b, off + k * 51, none⟩)), .load 22 b (off + k * 51 + 0) (.int .u64 (oat X k).id), .load 22 B2 0 (.int .u64 x.id), .test .neq 22 (.tmp 37) (.tmp 39) (.int .u64 (oat X k).id) (.int .u64 x.id) (.bool true)]) (n := 0) (by kernel_rfl) (by kernel_rfl) ⟨ob_load1 (fun _ h => h.1) c3 Try.isAgg41, ia_at hkn, ob_cell (j := 0) (fun _ h => h.2.2) hC'.id Try.isAgg22, ob_load1 (fun _ h => h.2.1) d0 Try.isAgg22, ob_yes (fun _ => neg_int _ _ _ _ _ _) hne, trivial⟩ ?_
            refine wpAnyH_done (by kernel_rfl) ?_ _
            obtain ⟨hb, hb2, hr⟩ := hS
            go_wp2_with (first
              | (with_reducible refine wpList_load1 (by kernel_rfl) _ _ rfl B _ rfl _ _ hb _ c3 ga3 ?_)
              | (with_reducible refine wpList_loadm (by kernel_rfl) 40 _ rfl b _ rfl C' hr _ Try.underlying40 (by kernel_rfl) (size40C hz') ?_)
              | ((with_reducible refine wpList_bs1 rfl _ rfl C' rfl hz' ?_); intro Bp W5 hBp hbp hk5; replace hown := own_next hown hk5; replace hb0 := hb0.trans (hk5.mono hb0.size))
              | (at_builtin; refine wpList_append_row infoO Try.underlying41 zC_size (by omega) rfl _ _ rfl W0.heap.size _ _ _ rfl hown _ _ _ _ C'.toList rfl (row_one hbp hz') (obC_one hC') (by unfold maxLen; omega) (by omega) hb0.size ?_; intro v2 W6 hown6 hgrow; replace hb0 := hb0.grown hgrow hb0.size (own_ge hown); replace hown := hown6; clear hown6))
            go_roundw
            case rel =>
              have hne1 := hne.out
              have hst : stps x (X.take (k + 1)) = (A ++ [oat X k], false) := by rw [stps_succ hkX, hA.out]; unfold stp; simp [hge1, hne1]
              have hbw2 := hk.trans (hb0.mono hk.size)
              refine ⟨k + 1, cs ++ C'.toList, A ++ [oat X k], false, by omega, by go_num, rfl, hst, ?_, ?_, hb0⟩
              · simpa [List.length_append] using hown
              · exact (RowO.app (hro.laterK fun b hb => (hbw2.block b hb).trans (hbw.block b hb).symm) (RowO.single (hC'.laterK fun b hb => (hbw2.block b hb).trans (hbw.block b hb).symm)))
            case measure => simp [intOf]; omega
    · obtain rfl : k = n := by omega
      have ht : X.take k = X := by rw [← hn.out]; exact List.take_length
      rw [ht] at hA
      cases d with
      | true =>
        have hput : Hid (A = puR X x) := by show _ = _; rw [← hrp.out, hA.out]; rfl
        have hAl2 : A.length ≤ k + 1 := by rw [hput.out]; exact hln.out
        obtain ⟨ao2, cap2, rfl, hrc⟩ := RowC.of_owns hown
        go_wp2_with (first
          | (with_reducible refine wpList_load1 (by kernel_rfl) _ _ rfl B _ rfl _ _ hb _ c3 ga3 ?_)
          | ((with_reducible refine wpList_test (by kernel_rfl) .gtr _ _ _ _ rfl _ _ rfl rfl (tgt_int _ _ _ _ _ _) ?_ ?_) <;> first | (intro hq2; exfalso; have h9 := hq2.out; omega) | (intro hq2))
          | ((with_reducible refine wpList_store_cell rfl _ _ _ rfl B 3 rfl (.slice ao2 (A.length) cap2) rfl rfl G _ hb (by kernel_rfl) (by rw [hzG4]; omega) rfl ?_); intro W7 hb7 o7; rw [cS] at hb7; have hR7 := hR.other o7 hne.symm)
          | (with_reducible refine wpList_load_blk rfl _ _ rfl B rfl _ hb7 _ Try.underlying43 rfl (hz2 _) ?_)
          | ((with_reducible refine wpList_store_blk rfl _ _ _ rfl R rfl _ rfl zW hR7 (hz2 _) (hs2 _) (h12 _ _ _) ?_); intro W8 hR8 o8))
        refine bodyPost_ret (v := .agg _) (res43 Try.results29 rfl hR8 rfl) rfl ?_
        have hbw2 := hk.trans (hb0.mono hk.size)
        have hRo := hRl.out
        have hBR := hBR0.out
        have hlt := hb0.size
        have hws := hbw2.size
        refine ⟨ao2, (A.length), cap2, rfl, ?_, o8.below _ _ hRo.1 (o7.below _ _ hRo.2 hbw2)⟩
        rw [← hput.out]
        have hob := hrc.obs (hro.laterK fun b hb => (hbw2.block b hb).trans (hbw.block b hb).symm)
        refine (hob.laterK (w' := W8) (fun b hb => (o8.block b (by have : b < w.heap.size := hb; omega)).trans (o7.block b (by have : b < w.heap.size := hb; omega))) (fun b hb => (o8.block b (by have := hb.1; omega)).trans (o7.block b (by have := hb.1; omega)))).wide (fun b hb => ?_) (fun b hb => ?_)
        · have : b < w.heap.size := hb
          rw [LtN, o8.size, o7.size]; omega
        · rw [LtN, o8.size, o7.size]; exact hb.2
      | false =>
        have hput : Hid (A ++ [x] = puR X x) := by show _ = _; rw [← hrp.out, hA.out]; rfl
        have hAl2 : A.length ≤ k := by have := hln.out; rw [← hput.out, List.length_append] at this; simp at this; exact this
        go_wp2_with (first
          | (with_reducible refine wpList_load1 (by kernel_rfl) _ _ rfl B _ rfl _ _ hb _ c3 ga3 ?_)
          | (with_reducible refine wpList_load_blk rfl _ _ rfl B2 rfl _ hb2 _ Try.underlying40 rfl (size40C hz) ?_)
          | ((with_reducible refine wpList_bs1 rfl _ rfl C rfl hz ?_); intro Bq W2 hBq hbq hk2; replace hown := own_next hown hk2; replace hb0 := hb0.trans (hk2.mono hb0.size))
          | (at_builtin; refine wpList_append_row infoO Try.underlying41 zC_size (by omega) rfl _ _ rfl W0.heap.size _ _ cs rfl hown _ _ _ _ C.toList rfl (row_one hbq hz) (obC_one hx) (by unfold maxLen; omega) (by omega) hb0.size ?_; intro v1 W3 hown3 hgrow; replace hb0 := hb0.grown hgrow hb0.size (own_ge hown); obtain ⟨ao2, cap2, rfl, hrc⟩ := RowC.of_owns hown3; replace hb := hbA.next hb0; replace hR := hRA.next hb0)
          | ((with_reducible refine wpList_test (by kernel_rfl) .gtr _ _ _ _ rfl _ _ rfl rfl (tgt_int _ _ _ _ _ _) ?_ ?_) <;> first | (intro hq2; exfalso; have h9 := hq2.out; omega) | (intro hq2))
          | ((with_reducible refine wpList_store_cell rfl _ _ _ rfl B 3 rfl (.slice ao2 (A.length + 1) cap2) rfl rfl G _ hb (by kernel_rfl) (by rw [hzG4]; omega) rfl ?_); intro W7 hb7 o7; rw [cS] at hb7; have hR7 := hR.other o7 hne.symm)
          | (with_reducible refine wpList_load_blk rfl _ _ rfl B rfl _ hb7 _ Try.underlying43 rfl (hz2 _) ?_)
          | ((with_reducible refine wpList_store_blk rfl _ _ _ rfl R rfl _ rfl zW hR7 (hz2 _) (hs2 _) (h12 _ _ _) ?_); intro W8 hR8 o8))
        refine bodyPost_ret (v := .agg _) (res43 Try.results29 rfl hR8 rfl) rfl ?_
        have hbw2 := hk.trans (hb0.mono hk.size)
        have hRo := hRl.out
        have hBR := hBR0.out
        have hlt := hb0.size
        have hws := hbw2.size
        refine ⟨ao2, (A.length + 1), cap2, rfl, ?_, o8.below _ _ hRo.1 (o7.below _ _ hRo.2 hbw2)⟩
        rw [← hput.out]
        have hob := hrc.obs (RowO.app (hro.laterK fun b hb => (hbw2.block b hb).trans (hbw.block b hb).symm) (RowO.single (hx.laterK fun b hb => hbw2.block b hb)))
        refine (hob.laterK (w' := W8) (fun b hb => (o8.block b (by have : b < w.heap.size := hb; omega)).trans (o7.block b (by have : b < w.heap.size := hb; omega))) (fun b hb => (o8.block b (by have := hb.1; omega)).trans (o7.block b (by have := hb.1; omega)))).wide (fun b hb => ?_) (fun b hb => ?_)
        · have : b < w.heap.size := hb
          rw [LtN, o8.size, o7.size]; omega
        · rw [LtN, o8.size, o7.size]; exact hb.2
end
end Go.Proofs.Ytfpmkihlfhpgdaa
