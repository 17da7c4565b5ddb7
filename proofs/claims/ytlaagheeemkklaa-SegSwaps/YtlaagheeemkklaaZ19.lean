/-
 PROVED HERE: plain facts on sound objects (no Go text): their lists are short, what is not their kind's is zero, what is sh. What is asked stands at each.
-/
import Derived.Deep.DeepCutAuto
import Derived.Deep.OwnRows
import Derived.Lib.AppendZerosOnto
import Derived.Great.BuildSlice
import Derived.Laws.ResultCell
import Derived.Test.YtlaagheeemkklaaZ16
import Derived.Test.YtlaagheeemkklaaZ17
import Derived.Test.YtlaagheeemkklaaZ18
namespace Go.Proofs.Ytlaagheeemkklaa
set_option maxRecDepth 100000
set_option maxHeartbeats 8000000

theorem alo_th {x : Ob} (h : aloO x = x) (hk : ¬ x.kind = 4) : x.th = zTh := by
 have e : (aloO x).th = zTh := by
  unfold aloO
  by_cases h1 : x.kind = 1
  ·rw [if_pos h1]
  rw [if_neg h1]
  by_cases h2 : x.kind = 2
  ·rw [if_pos h2]
  rw [if_neg h2]
  by_cases h3 : x.kind = 3
  ·rw [if_pos h3]
  rw [if_neg h3, if_neg hk]
  by_cases h5 : x.kind = 5
  ·rw [if_pos h5]
  rw [if_neg h5]
  by_cases h6 : x.kind = 6
  ·rw [if_pos h6]
  rw [if_neg h6]; rfl
 rw [h] at e; exact e
theorem alo_gt {x : Ob} (h : aloO x = x) (hk : ¬ x.kind = 5) : x.gt = zGt := by
 have e : (aloO x).gt = zGt := by
  unfold aloO
  by_cases h1 : x.kind = 1
  ·rw [if_pos h1]
  rw [if_neg h1]
  by_cases h2 : x.kind = 2
  ·rw [if_pos h2]
  rw [if_neg h2]
  by_cases h3 : x.kind = 3
  ·rw [if_pos h3]
  rw [if_neg h3]
  by_cases h4 : x.kind = 4
  ·rw [if_pos h4]
  rw [if_neg h4, if_neg hk]
  by_cases h6 : x.kind = 6
  ·rw [if_pos h6]
  rw [if_neg h6]; rfl
 rw [h] at e; exact e
end Go.Proofs.Ytlaagheeemkklaa
namespace Go.Proofs.Ytlaagheeemkklaa
set_option maxRecDepth 100000
set_option maxHeartbeats 8000000
open Go.ChangeShapes Go.WideShapes Go.ChangeAt Go.RowKit Go.Shelf
set_option linter.unusedVariables false
attribute [local go_sem] Oper.semAt_some

def oat (l : List Ob) (i : Nat) : Ob := l.getD i zOb
def ObsD (E D : Nat → Prop) (w : World) (ao : Option Addr) (n cap : Nat) (l : List Ob) : Prop :=
 l.length = n ∧ n ≤ cap ∧ (cap ≤ 9223372036854775807 ∧ (ao = none → cap = 0)) ∧
 (0 < n → ∃ b off, ao = some ⟨b, off, none⟩ ∧ E b ∧ ∀ i, i < n → ∃ C, ObD D w C (oat l i) ∧ w.rangeAt b (off + i * 51) C.toList)
theorem range_block {w w' : World} {b o : Nat} {cs : List Value} (h : w.rangeAt b o cs) (k : w'.heap[b]? = w.heap[b]?) : w'.rangeAt b o cs := fun j v hv => (World.cell?_of_block (w := w) (a := ⟨b, o + j, none⟩) k).trans (h j v hv)
section
variable {E E' D D' : Nat → Prop} {w w' : World} {ao : Option Addr} {n cap : Nat} {l : List Ob}
theorem ObsD.laterK (h : ObsD E D w ao n cap l) (k : ∀ b, D b → w'.heap[b]? = w.heap[b]?) (k' : ∀ b, E b → w'.heap[b]? = w.heap[b]?) : ObsD E D w' ao n cap l := by
 obtain ⟨h1, h2, h3, h4⟩ := h
 refine ⟨h1, h2, h3, fun hn => ?_⟩
 obtain ⟨b, off, e, hb, hc⟩ := h4 hn
 refine ⟨b, off, e, hb, fun i hi => ?_⟩
 obtain ⟨C, hC, hr⟩ := hc i hi
 exact ⟨C, hC.laterK k, range_block hr (k' b hb)⟩
theorem ObsD.wide (h : ObsD E D w ao n cap l) (k : ∀ b, D b → D' b) (k' : ∀ b, E b → E' b) : ObsD E' D' w ao n cap l := by
 obtain ⟨h1, h2, h3, h4⟩ := h
 refine ⟨h1, h2, h3, fun hn => ?_⟩
 obtain ⟨b, off, e, hb, hc⟩ := h4 hn
 refine ⟨b, off, e, k' b hb, fun i hi => ?_⟩
 obtain ⟨C, hC, hr⟩ := hc i hi
 exact ⟨C, hC.wide k, hr⟩
end
abbrev Obs (w : World) (ao : Option Addr) (n cap : Nat) (l : List Ob) : Prop := ObsD (LtN w) (LtN w) w ao n cap l
theorem obs_next {w w' : World} {ao : Option Addr} {n cap : Nat} {l : List Ob} (h : Obs w ao n cap l) (k : Below w.heap.size w w') : Obs w' ao n cap l :=
 (ObsD.laterK h (fun b hb => k.block b hb) (fun b hb => k.block b hb)).wide (fun b hb => Nat.lt_of_lt_of_le hb k.size) (fun b hb => Nat.lt_of_lt_of_le hb k.size)
theorem obs_at {w : World} {ao : Option Addr} {n cap : Nat} {l : List Ob} (h : Obs w ao n cap l) {i : Nat} (hi : i < n) : ∃ b off C, ao = some ⟨b, off, none⟩ ∧ b < w.heap.size ∧ ObD (LtN w) w C (oat l i) ∧ w.rangeAt b (off + i * 51) C.toList := by
 obtain ⟨b, off, e, hb, hc⟩ := h.2.2.2 (by omega)
 obtain ⟨C, hC, hr⟩ := hc i hi
 exact ⟨b, off, C, e, hb, hC, hr⟩
section
variable {P : Program} {ops : Array Oper} {rest : List Oper} {op : Oper} {a : Act} {Q : Exit → Act → World → Prop} {w : World}
theorem wpList_loadm (hw : Region.wanted op (yielded ops a.tmps) = true) (ty : TypeId) (x : Operand) (ho : op.op = .load ty x) (b o : Nat) (hx : a.eval x = .pointer (some ⟨b, o, none⟩)) (C : Array Value) (hr : w.rangeAt b o C.toList) (d : TypeDesc)
  (hu : P.underlying ty = some d) (hd : d.isRow = true) (hi : (P.info? ty).map (·.size) = some C.size) (h : wpList P ops Q rest (a.put op.dst (.agg C)) w) : wpList P ops Q (op :: rest) a w := by
 refine wpList_val hw ?_ h
 have := run_loadVar_mid (P := P) w b o ty C.toList d hr hu hd (by simpa using hi)
 rw [Array.toArray_toList] at this
 unfold execOp
 simp [ho, hx, Instr.loadAt, Instr.sureAddr, this]
end
theorem ob_loadm {S : World → Prop} {P : Program} {ty : TypeId} {b o : Nat} {C : Array Value} (hr : ∀ w, S w → w.rangeAt b o C.toList) {d : TypeDesc} (hu : P.underlying ty = some d) (hd : d.isRow = true) (hi : (P.info? ty).map (·.size) = some C.size) : Obl.holds P S (.load ty b o (.agg C)) := fun w hS => by
 have := run_loadVar_mid (P := P) w b o ty C.toList d (hr w hS) hu hd (by simpa using hi)
 rw [Array.toArray_toList] at this
 exact this
end Go.Proofs.Ytlaagheeemkklaa
namespace Go.Proofs.Ytlaagheeemkklaa
set_option maxRecDepth 100000
set_option maxHeartbeats 8000000
open Go.RowKit Go.Shelf
set_option linter.unusedVariables false
attribute [local go_sem] Oper.semAt_some

theorem oat_get {l : List Ob} {i : Nat} (h : i < l.length) : oat l i = l[i] := by unfold oat; rw [List.getD_eq_getElem?_getD, List.getElem?_eq_getElem h]; rfl
theorem oat_mem {l : List Ob} {i : Nat} (h : i < l.length) : oat l i ∈ l := by rw [oat_get h]; exact List.getElem_mem h
end Go.Proofs.Ytlaagheeemkklaa
namespace Go.Proofs.Ytlaagheeemkklaa
set_option maxRecDepth 100000
set_option maxHeartbeats 8000000
open Go.RowKit Go.Shelf
set_option linter.unusedVariables false
attribute [local go_sem] Oper.semAt_some

theorem objects1_any {w : World} {C : Array Value} {x : Ob} (h : ObD (LtN w) w C x) : Calls Try.prog 71 #[.agg C] w fun e w' => e = .returned (.int .u64 x.id) ∧ Below w.heap.size w w' := by
 have c0 := h.id
 have ga1 := Try.isAgg22
 go_enter Try.func71, Try.ntmps71
 go_wp2_with (first
  | (with_reducible refine wpList_box rfl _ _ rfl C rfl ?_; intro B W hB hb hk)
  | (with_reducible refine wpList_load1 (by kernel_rfl) _ _ rfl B _ rfl _ _ hb _ (by assumption) (by assumption) ?_))
 go_ret
 exact ⟨rfl, hk⟩
theorem ia_at {S : World → Prop} {b off i n cap : Nat} (hi : i < n) : Obl.holds Try.prog S (.ia 83 (.slice (some ⟨b, off, none⟩) n cap) (.int .i64 i) (.pointer (some ⟨b, off + i * 51, none⟩))) := fun w hS => by
 have hi' : (i : Int) < n := by omega
 go_simp
end Go.Proofs.Ytlaagheeemkklaa
namespace Go.Proofs.Ytlaagheeemkklaa
set_option maxRecDepth 100000
set_option maxHeartbeats 8000000
open Go.RowKit Go.Shelf
set_option linter.unusedVariables false
attribute [local go_sem] Oper.semAt_some

theorem objectsG_any {w : World} {G : Array Value} {ao : Option Addr} {n cap : Nat} (c3 : G[3]? = some (.slice ao n cap)) : Calls Try.prog 53 #[.agg G] w fun e w' => e = .returned (.agg #[.slice ao n cap, .func (.func 71) #[] #[]]) ∧ Below w.heap.size w w' := by
 go_enter Try.func53, Try.ntmps53
 go_wp2_with (first
  | (with_reducible refine wpList_box rfl _ _ rfl G rfl ?_; intro B W hB hb hk; have q6 := fun o => cellLater ((hb.cell 3).trans c3) o))
 refine bodyPost_ret (v := .agg #[.slice ao n cap, .func (.func 71) #[] #[]]) (by simp [results, Try.f53, go_sem]) rfl ?_
 exact ⟨rfl, hk.alloc hk.size _⟩
end Go.Proofs.Ytlaagheeemkklaa
namespace Go.Proofs.Ytlaagheeemkklaa
set_option maxRecDepth 100000
set_option maxHeartbeats 8000000

theorem mem_low {l : List Ob} {i : Int} {x : Ob} : x ∈ lowL l i ↔ x ∈ l ∧ x.id < i := by unfold lowL; simp
theorem srt_uniq {l : List Ob} (h : Srt l) {x y : Ob} (hx : x ∈ l) (hy : y ∈ l) (e : x.id = y.id) : x = y := by
 induction l with
 | nil => cases hx
 | cons z r ih =>
  obtain ⟨h1, h2⟩ := List.pairwise_cons.1 h
  rcases List.mem_cons.1 hx with rfl | hx
  ·rcases List.mem_cons.1 hy with rfl | hy
   ·rfl
   ·have := h1 y hy; omega
  ·rcases List.mem_cons.1 hy with q | hy
   ·have := h1 x hx; rw [q] at e; omega
   ·exact ih h2 hx hy
theorem fnd_some {l : List Ob} (h : Srt l) {i : Int} {x : Ob} : fnd l i = some x ↔ x ∈ l ∧ x.id = i := by
 unfold fnd
 constructor
 ·intro e
  have h1 := List.mem_of_find?_eq_some e
  have h2 := List.find?_some e
  exact ⟨h1, by simpa using h2⟩
 ·rintro ⟨hx, e⟩
  cases hf : l.find? fun x => decide (x.id = i) with
  | none =>
   have := List.find?_eq_none.1 hf x hx
   simp [e] at this
  | some y =>
   have h1 := List.mem_of_find?_eq_some hf
   have h2 : y.id = i := by have := List.find?_some hf; simpa using this
   rw [srt_uniq h hx h1 (by rw [e, h2])]
theorem fnd_none {l : List Ob} {i : Int} : fnd l i = none ↔ ∀ x ∈ l, x.id ≠ i := by
 unfold fnd; rw [List.find?_eq_none]; simp
theorem ahd_le (l : List Ob) (i : Int) : ahd l i ≤ l.length := by unfold ahd lowL; exact List.length_filter_le ..
theorem low_take {l : List Ob} (h : Srt l) (i : Int) : lowL l i = l.take (ahd l i) := by
 unfold ahd lowL
 induction l with
 | nil => rfl
 | cons x r ih =>
  obtain ⟨h1, h2⟩ := List.pairwise_cons.1 h
  by_cases hx : x.id < i
  ·rw [List.filter_cons_of_pos (by simpa using hx)]
   rw [List.length_cons, List.take_succ_cons, ← ih h2]
  ·have : r.filter (fun x => decide (x.id < i)) = [] := by
    rw [List.filter_eq_nil_iff]
    intro y hy
    have := h1 y hy
    simp; omega
   rw [List.filter_cons_of_neg (by simpa using hx), this]; rfl
theorem ahd_of {l : List Ob} {i : Int} {k : Nat} (hk : k ≤ l.length) (h1 : ∀ j, j < k → (oat l j).id < i) (h2 : ∀ j, k ≤ j → j < l.length → i ≤ (oat l j).id) : ahd l i = k := by
 have e1 : lowL (l.take k) i = l.take k := by
  unfold lowL
  rw [List.filter_eq_self]
  intro x hx
  obtain ⟨j, hj, rfl⟩ := List.getElem_of_mem hx
  have hj' : j < k := by simp at hj; omega
  have := h1 j hj'
  rw [oat_get (by simp at hj; omega)] at this
  simpa using this
 have e2 : lowL (l.drop k) i = [] := by
  unfold lowL
  rw [List.filter_eq_nil_iff]
  intro x hx
  obtain ⟨j, hj, rfl⟩ := List.getElem_of_mem hx
  have := h2 (k + j) (by omega) (by simp at hj; omega)
  rw [oat_get (by simp at hj; omega)] at this
  simpa using this
 have e : lowL l i = l.take k := by
  conv => lhs; rw [← List.take_append_drop k l]
  unfold lowL at e1 e2 ⊢
  rw [List.filter_append, e1, e2, List.append_nil]
 unfold ahd
 rw [e]; simp [hk]
theorem ahd_lt {l : List Ob} (h : Srt l) {i : Int} {j : Nat} (hj : j < ahd l i) : (oat l j).id < i := by
 have hl := ahd_le l i
 have hm : oat l j ∈ lowL l i := by
  rw [low_take h, oat_get (by omega)]
  exact List.mem_take_iff_getElem.2 ⟨j, by omega, rfl⟩
 exact (mem_low.1 hm).2
theorem ahd_ge {l : List Ob} (h : Srt l) {i : Int} {j : Nat} (hj : ahd l i ≤ j) (hl : j < l.length) : i ≤ (oat l j).id := by
 rcases Int.lt_or_le (oat l j).id i with q | q
 ·exfalso
  have hm : oat l j ∈ lowL l i := mem_low.2 ⟨oat_mem hl, q⟩
  rw [low_take h] at hm
  obtain ⟨k, hk, e⟩ := List.getElem_of_mem hm
  have hk' : k < ahd l i ∧ k < l.length := by simp at hk; omega
  rw [List.getElem_take, oat_get hl] at e
  have hs := List.pairwise_iff_getElem.1 h k j (by omega) hl (by omega)
  rw [e] at hs
  omega
 ·exact q
def fin (l : List Ob) (i : Int) : Nat := if (fnd l i).isSome then ahd l i + 1 else ahd l i
theorem fnd_at {l : List Ob} (h : Srt l) {i : Int} (hl : ahd l i < l.length) (e : (oat l (ahd l i)).id = i) : fnd l i = some (oat l (ahd l i)) := (fnd_some h).2 ⟨oat_mem hl, e⟩
theorem fnd_not {l : List Ob} (h : Srt l) {i : Int} (k : ¬ (ahd l i < l.length ∧ (oat l (ahd l i)).id = i)) : fnd l i = none := by
 rw [fnd_none]
 intro x hx e
 obtain ⟨j, hj, rfl⟩ := List.getElem_of_mem hx
 rw [← oat_get hj] at e
 have h1 : ahd l i ≤ j := by
  rcases Nat.lt_or_ge j (ahd l i) with q | q
  ·have := ahd_lt h q; omega
  ·exact q
 have hlt : ahd l i < l.length := by omega
 rcases Nat.lt_or_ge (ahd l i) j with q | q
 ·have hs := List.pairwise_iff_getElem.1 h _ j hlt hj q
  have := ahd_ge h (Nat.le_refl (ahd l i)) hlt
  rw [oat_get hlt] at this
  rw [oat_get hj] at e
  omega
 ·have : ahd l i = j := by omega
  exact k ⟨hlt, by rw [this]; exact e⟩
end Go.Proofs.Ytlaagheeemkklaa
namespace Go.Proofs.Ytlaagheeemkklaa
set_option maxRecDepth 100000
set_option maxHeartbeats 8000000
open Go.RowKit Go.Shelf
set_option linter.unusedVariables false
attribute [local go_sem] Oper.semAt_some

theorem infoO : (Try.prog.info? 40).map (fun i => (i.zero, i.size, i.bytes)) = some (some (.agg zC), 51, 632) := by kernel_rfl
theorem run_bs1 {C : Array Value} (hz : C.size = 51) (w : World) : (Instr.buildSlice 83 1 #[(0, .agg C)]).run Try.prog w = .ok (.slice (some ⟨w.heap.size, 0, none⟩) 1 1) (w.alloc (.cells C 40)) := by
 obtain ⟨i0, hi, hz0, hz1, hz2⟩ := info_parts infoO
 refine run_buildSlice w _ _ 1 _ C i0 _ Try.underlying83 hi hz0 (by rw [hz1]; omega) (by rw [hz1]; omega) ?_
 rw [hz1]
 have := Great.fill_whole (s := 51) (by omega) [.agg C] ((Array.range (1 * 51)).map ((Value.agg zC).cells[· % (Value.agg zC).cells.size]!)) (by simp [Value.cells, hz]) (by simp)
 simpa [Value.cells] using this
end Go.Proofs.Ytlaagheeemkklaa
namespace Go.Proofs.Ytlaagheeemkklaa
set_option maxRecDepth 100000
set_option maxHeartbeats 8000000
open Go.RowKit Go.Shelf
set_option linter.unusedVariables false
attribute [local go_sem] Oper.semAt_some

theorem ob_ln {S : World → Prop} {ao : Option Addr} {n cap : Nat} : Obl.holds Try.prog S (.ln 83 3 (.slice ao n cap) (.int .i64 n)) := fun w hS => by
 go_simp
theorem aheadO_any {w : World} {ao : Option Addr} {n cap : Nat} {X : List Ob} {i : Int} (h : Obs w ao n cap X) (hs : Srt X) (hn16 : n ≤ 4096) : Calls Try.prog 72 #[.agg #[.slice ao n cap, .func (.func 71) #[] #[]], .int .u64 i] w fun e w' => e = .returned (.int .i64 (ahd X i : Nat)) ∧ Below w.heap.size w w' := by
 have hmx : Try.prog.follows .mixedOrders = true := by kernel_rfl
 have hn : Hid (X.length = n) := h.1
 have hnc := h.2.1
 have hcm := h.2.2.1.1
 have hsH : Hid (Srt X) := hs
 clear hs
 go_enter Try.func72, Try.ntmps72
 go_wp2
 have hA := (Below.refl w.heap.size w).alloc (Nat.le_refl _) (.cells #[.slice ao n cap, .func (.func 71) #[] #[]] 94)
 have hBk := Blk.new w #[.slice ao n cap, .func (.func 71) #[] #[]] 94
 generalize w.alloc (.cells #[.slice ao n cap, .func (.func 71) #[] #[]] 94) = W0 at hA hBk ⊢
 obtain ⟨B, hB⟩ : ∃ B, w.heap.size = B := ⟨_, rfl⟩
 have hBh : Hid (w.heap.size = B) := hB
 rw [hB] at hBk hA ⊢
 clear hB
 refine PgM.region_out (S := fun W => Blk W B #[.slice ao n cap, .func (.func 71) #[] #[]] 94) hmx (hBk.next (Below.refl _ _).drew) (fun hS => ?_)
 replace hA := hA.trans ((Below.refl W0.heap.size W0).drew.mono (by have := hA.size; have := hBh.out; omega))
 generalize W0.drew = W1 at hS hA ⊢
 clear hBk
 refine wpAnyH_sym (by kernel_rfl) (fun _ _ _ _ _ h => h) hS [(0, none), (1, some (.slice ao n cap)), (2, some (.int .i64 n)), (3, none), (4, none)] (l' := #[true, true, true, true, true]) (a' := { tmps := #[.agg #[.slice ao n cap, .func (.func 71) #[] #[]], .int .u64 i, .pointer (some ⟨B, 0, none⟩), undef, .int .i64 0, .int .i64 0, .int .i64 n, undef, .pointer (some ⟨B, 0, none⟩), .slice ao n cap, .int .i64 n, ud, ud, ud, ud, ud, ud, ud, ud, ud, ud, ud, ud, ud, ud, ud, ud, ud, ud, ud, ud, ud, ud, undef], defers := [] }) (obs := [.load 83 B 0 (.slice ao n cap), .ln 83 3 (.slice ao n cap) (.int .i64 n)]) (n := 0) (by kernel_rfl) (by kernel_rfl) ⟨ob_load1 (fun _ h => h) rfl Try.isAgg83, ob_ln, trivial⟩ ?_
 refine wpAnyH_done (by kernel_rfl) ?_ _
 go_wp2
 go_loopw [5, 6] (fun vl vh wr => ∃ lo hi : Nat, lo ≤ hi ∧ hi ≤ n ∧ vl = .int .i64 lo ∧ vh = .int .i64 hi ∧ Hid (∀ j, j < lo → (oat X j).id < i) ∧ Hid (∀ j, hi ≤ j → j < n → i ≤ (oat X j).id) ∧ Blk wr B #[.slice ao n cap, .func (.func 71) #[] #[]] 94 ∧ Below B w wr) (fun vl vh _ => (intOf vh).toNat - (intOf vl).toNat)
 case atStart => exact ⟨0, n, Nat.zero_le _, Nat.le_refl _, rfl, rfl, fun j hj => absurd hj (by omega), fun j h1 h2 => absurd h2 (by omega), hS, hA⟩
 case round =>
  clear hS hA
  obtain ⟨lo, hi, hlh, hhn, rfl, rfl, hlo, hhi, hbk, hb⟩ := hrel
  by_cases hlt : lo < hi
  ·obtain ⟨d, hd⟩ : ∃ d : Nat, d = (hi - lo) / 2 := ⟨_, rfl⟩
   have hdi : ((hi : Int) - lo) / 2 = d := by omega
   obtain ⟨m, hm⟩ : ∃ m : Nat, m = lo + d := ⟨_, rfl⟩
   have hmi : (lo : Int) + d = m := by omega
   have hmn : m < n := by omega
   have hm1 : lo ≤ m := by omega
   have hm2 : m < hi := by omega
   have hbs : B ≤ wr.heap.size := by have := hb.size; have := hBh.out; omega
   have hbw : Below w.heap.size w wr := by rw [hBh.out]; exact hb
   obtain ⟨b, off, C, rfl, hbb, hC, hr⟩ := obs_at (obs_next h hbw) hmn
   have hz := hC.size
   clear hd hm
   by_cases hxi : (oat X m).id < i
   ·have hd : Hid ((oat X m).id < i) := hxi
    have hlo2 : Hid (∀ j, j < m + 1 → (oat X j).id < i) := by
     refine (?_ : ∀ j, j < m + 1 → (oat X j).id < i)
     intro j hj
     rcases Nat.lt_or_ge j m with q | q
     ·have hl := hn.out
      have := List.pairwise_iff_getElem.1 hsH.out j m (by omega) (by omega) q
      rw [← oat_get (by omega), ← oat_get (by omega)] at this
      omega
     ·obtain rfl : j = m := by omega
      exact hxi
    clear hxi
    go_wp2
    refine PgM.region_out (S := fun W => Blk W B #[.slice (some ⟨b, off, none⟩) n cap, .func (.func 71) #[] #[]] 94 ∧ W.rangeAt b (off + m * 51) C.toList) hmx ⟨hbk.next (Below.refl _ _).drew, range_block hr ((Below.refl _ wr).drew.block b hbb)⟩ (fun hS => ?_)
    have hkd := (Below.refl wr.heap.size wr).drew
    have hC0 := hC.next hkd
    have hb1 := hb.trans (hkd.mono hbs)
    have hbb1 : b < wr.drew.heap.size := Nat.lt_of_lt_of_le hbb hkd.size
    generalize wr.drew = W1 at hS hC0 hb1 hbb1 ⊢
    clear hkd
    refine wpAnyH_sym (by kernel_rfl) (fun _ _ _ _ _ h => h) hS [(0, none), (1, some (.func (.func 71) #[] #[])), (2, none), (3, some (.slice (some ⟨b, off, none⟩) n cap)), (4, none), (5, some (.pointer (some ⟨b, off + m * 51, none⟩))), (6, some (.agg C)), (8, none)] (l' := #[true, true, true, true, true, true, true, false, true, false]) (a' := { tmps := #[.agg #[.slice (some ⟨b, off, none⟩) n cap, .func (.func 71) #[] #[]], .int .u64 i, .pointer (some ⟨B, 0, none⟩), undef, .int .i64 0, .int .i64 lo, .int .i64 hi, .int .i64 m, .pointer (some ⟨B, 0, none⟩), .slice (some ⟨b, off, none⟩) n cap, .int .i64 n, .int .i64 lo, .int .i64 hi, .bool true, .int .i64 lo, .int .i64 hi, .int .i64 lo, .int .i64 (↑hi - ↑lo), .int .i64 ((↑hi - ↑lo) / 2), .int .i64 m, .pointer (some ⟨B, 1, none⟩), .func (.func 71) #[] #[], .pointer (some ⟨B, 0, none⟩), .slice (some ⟨b, off, none⟩) n cap, .int .i64 m, .pointer (some ⟨b, off + m * 51, none⟩), .agg C, u27, .int .u64 i, u29, u30, u31, u32, undef], defers := [] }) (obs := [.load 92 B 1 (.func (.func 71) #[] #[]), .load 83 B 0 (.slice (some ⟨b, off, none⟩) n cap), .ia 83 (.slice (some ⟨b, off, none⟩) n cap) (.int .i64 m) (.pointer (some ⟨b, off + m * 51, none⟩)), .load 40 b (off + m * 51) (.agg C)]) (n := 2) (by kernel_rfl) (by kernel_rfl) ⟨ob_load1 (fun _ h => h.1) rfl Try.isAgg92, ob_load1 (fun _ h => h.1) rfl Try.isAgg83, ia_at hmn, ob_loadm (fun _ h => h.2) Try.underlying40 (by kernel_rfl) (size40C hz), trivial⟩ ?_
    refine wpAnyH_callL (i := 7) (fuel := 1) (f := 71) (vs := [.agg C]) (d := some 27) (by kernel_rfl) (by kernel_rfl) (by kernel_rfl) Try.call71 (objects1_any hC0) ?_
    rintro e W2 ⟨rfl, hk2⟩
    have hS2 : Blk W2 B #[.slice (some ⟨b, off, none⟩) n cap, .func (.func 71) #[] #[]] 94 ∧ W2.rangeAt b (off + m * 51) C.toList := ⟨hS.1.next hk2, range_block hS.2 (hk2.block b hbb1)⟩
    refine ⟨_, rfl, hS2, ?_⟩
    have hb2 := hb1.trans (hk2.mono (by have := hb1.size; have := hBh.out; omega))
    refine wpAnyH_sym (by kernel_rfl) (fun _ _ _ _ _ h => h) hS2 [(9, some (.bool true))] (l' := #[true, true, true, true, true, true, true, true, true, true]) (a' := { tmps := #[.agg #[.slice (some ⟨b, off, none⟩) n cap, .func (.func 71) #[] #[]], .int .u64 i, .pointer (some ⟨B, 0, none⟩), undef, .int .i64 0, .int .i64 lo, .int .i64 hi, .int .i64 m, .pointer (some ⟨B, 0, none⟩), .slice (some ⟨b, off, none⟩) n cap, .int .i64 n, .int .i64 lo, .int .i64 hi, .bool true, .int .i64 lo, .int .i64 hi, .int .i64 lo, .int .i64 (↑hi - ↑lo), .int .i64 ((↑hi - ↑lo) / 2), .int .i64 m, .pointer (some ⟨B, 1, none⟩), .func (.func 71) #[] #[], .pointer (some ⟨B, 0, none⟩), .slice (some ⟨b, off, none⟩) n cap, .int .i64 m, .pointer (some ⟨b, off + m * 51, none⟩), .agg C, .int .u64 (oat X m).id, .int .u64 i, .bool true, u30, u31, u32, undef], defers := [] }) (obs := [.test .lss 22 (.tmp 27) (.tmp 28) (.int .u64 (oat X m).id) (.int .u64 i) (.bool true)]) (n := 0) (by kernel_rfl) (by kernel_rfl) ⟨ob_yes (fun _ => tlt_int _ _ _ _ _ _) hd, trivial⟩ ?_
    refine wpAnyH_done (by kernel_rfl) ?_ _
    have hbk3 := hS2.1
    clear hS hS2 hC0 hb1 hbb1 hk2
    go_wp2
    go_roundw
    case rel => exact ⟨m + 1, hi, by omega, hhn, by go_num, rfl, hlo2, hhi, hbk3, hb2⟩
    case measure => simp [intOf]; omega
   ·have hd : Hid (¬ (oat X m).id < i) := hxi
    have hhi2 : Hid (∀ j, m ≤ j → j < n → i ≤ (oat X j).id) := by
     refine (?_ : ∀ j, m ≤ j → j < n → i ≤ (oat X j).id)
     intro j hj hjn
     rcases Nat.lt_or_ge m j with q | q
     ·have hl := hn.out
      have := List.pairwise_iff_getElem.1 hsH.out m j (by omega) (by omega) q
      rw [← oat_get (by omega), ← oat_get (by omega)] at this
      omega
     ·obtain rfl : j = m := by omega
      omega
    clear hxi
    go_wp2
    refine PgM.region_out (S := fun W => Blk W B #[.slice (some ⟨b, off, none⟩) n cap, .func (.func 71) #[] #[]] 94 ∧ W.rangeAt b (off + m * 51) C.toList) hmx ⟨hbk.next (Below.refl _ _).drew, range_block hr ((Below.refl _ wr).drew.block b hbb)⟩ (fun hS => ?_)
    have hkd := (Below.refl wr.heap.size wr).drew
    have hC0 := hC.next hkd
    have hb1 := hb.trans (hkd.mono hbs)
    have hbb1 : b < wr.drew.heap.size := Nat.lt_of_lt_of_le hbb hkd.size
    generalize wr.drew = W1 at hS hC0 hb1 hbb1 ⊢
    clear hkd
    refine wpAnyH_sym (by kernel_rfl) (fun _ _ _ _ _ h => h) hS [(0, none), (1, some (.func (.func 71) #[] #[])), (2, none), (3, some (.slice (some ⟨b, off, none⟩) n cap)), (4, none), (5, some (.pointer (some ⟨b, off + m * 51, none⟩))), (6, some (.agg C)), (8, none)] (l' := #[true, true, true, true, true, true, true, false, true, false]) (a' := { tmps := #[.agg #[.slice (some ⟨b, off, none⟩) n cap, .func (.func 71) #[] #[]], .int .u64 i, .pointer (some ⟨B, 0, none⟩), undef, .int .i64 0, .int .i64 lo, .int .i64 hi, .int .i64 m, .pointer (some ⟨B, 0, none⟩), .slice (some ⟨b, off, none⟩) n cap, .int .i64 n, .int .i64 lo, .int .i64 hi, .bool true, .int .i64 lo, .int .i64 hi, .int .i64 lo, .int .i64 (↑hi - ↑lo), .int .i64 d, .int .i64 m, .pointer (some ⟨B, 1, none⟩), .func (.func 71) #[] #[], .pointer (some ⟨B, 0, none⟩), .slice (some ⟨b, off, none⟩) n cap, .int .i64 m, .pointer (some ⟨b, off + m * 51, none⟩), .agg C, u27, .int .u64 i, u29, u30, u31, u32, undef], defers := [] }) (obs := [.load 92 B 1 (.func (.func 71) #[] #[]), .load 83 B 0 (.slice (some ⟨b, off, none⟩) n cap), .ia 83 (.slice (some ⟨b, off, none⟩) n cap) (.int .i64 m) (.pointer (some ⟨b, off + m * 51, none⟩)), .load 40 b (off + m * 51) (.agg C)]) (n := 2) (by kernel_rfl) (by kernel_rfl) ⟨ob_load1 (fun _ h => h.1) rfl Try.isAgg92, ob_load1 (fun _ h => h.1) rfl Try.isAgg83, ia_at hmn, ob_loadm (fun _ h => h.2) Try.underlying40 (by kernel_rfl) (size40C hz), trivial⟩ ?_
    refine wpAnyH_callL (i := 7) (fuel := 1) (f := 71) (vs := [.agg C]) (d := some 27) (by kernel_rfl) (by kernel_rfl) (by kernel_rfl) Try.call71 (objects1_any hC0) ?_
    rintro e W2 ⟨rfl, hk2⟩
    have hS2 : Blk W2 B #[.slice (some ⟨b, off, none⟩) n cap, .func (.func 71) #[] #[]] 94 ∧ W2.rangeAt b (off + m * 51) C.toList := ⟨hS.1.next hk2, range_block hS.2 (hk2.block b hbb1)⟩
    refine ⟨_, rfl, hS2, ?_⟩
    have hb2 := hb1.trans (hk2.mono (by have := hb1.size; have := hBh.out; omega))
    refine wpAnyH_sym (by kernel_rfl) (fun _ _ _ _ _ h => h) hS2 [(9, some (.bool false))] (l' := #[true, true, true, true, true, true, true, true, true, true]) (a' := { tmps := #[.agg #[.slice (some ⟨b, off, none⟩) n cap, .func (.func 71) #[] #[]], .int .u64 i, .pointer (some ⟨B, 0, none⟩), undef, .int .i64 0, .int .i64 lo, .int .i64 hi, .int .i64 m, .pointer (some ⟨B, 0, none⟩), .slice (some ⟨b, off, none⟩) n cap, .int .i64 n, .int .i64 lo, .int .i64 hi, .bool true, .int .i64 lo, .int .i64 hi, .int .i64 lo, .int .i64 (↑hi - ↑lo), .int .i64 d, .int .i64 m, .pointer (some ⟨B, 1, none⟩), .func (.func 71) #[] #[], .pointer (some ⟨B, 0, none⟩), .slice (some ⟨b, off, none⟩) n cap, .int .i64 m, .pointer (some ⟨b, off + m * 51, none⟩), .agg C, .int .u64 (oat X m).id, .int .u64 i, .bool false, u30, u31, u32, undef], defers := [] }) (obs := [.test .lss 22 (.tmp 27) (.tmp 28) (.int .u64 (oat X m).id) (.int .u64 i) (.bool false)]) (n := 0) (by kernel_rfl) (by kernel_rfl) ⟨ob_no (fun _ => tlt_int _ _ _ _ _ _) (by refine (?_ : ¬ (oat X m).id < i); have := hd.out; omega), trivial⟩ ?_
    refine wpAnyH_done (by kernel_rfl) ?_ _
    have hbk3 := hS2.1
    clear hS hS2 hC0 hb1 hbb1 hk2
    go_wp2
    go_roundw
    case rel => exact ⟨lo, m, by omega, by omega, rfl, rfl, hlo, hhi2, hbk3, hb2⟩
    case measure => simp [intOf]; omega
  ·obtain rfl : lo = hi := by omega
   have hr : Hid (ahd X i = lo) := ahd_of (by rw [hn.out]; exact hhn) hlo.out (fun j h1 h2 => hhi.out j h1 (by rw [← hn.out]; exact h2))
   go_wp2
   go_ret
   exact ⟨by rw [hr.out]; rfl, by rw [hBh.out]; exact hb⟩
end Go.Proofs.Ytlaagheeemkklaa
namespace Go.Proofs.Ytlaagheeemkklaa
set_option maxRecDepth 100000
set_option maxHeartbeats 8000000
open Go.RowKit Go.Shelf
set_option linter.unusedVariables false
attribute [local go_sem] Oper.semAt_some

theorem whereO_any {w : World} {ao : Option Addr} {n cap : Nat} {X : List Ob} {i : Int} (h : Obs w ao n cap X) (hs : Srt X) (hn16 : n ≤ 4096) : Calls Try.prog 54 #[.agg #[.slice ao n cap, .func (.func 71) #[] #[]], .int .u64 i] w fun e w' => e = .returned (.tuple #[.int .i64 (ahd X i : Nat), .int .i64 (fin X i : Nat)]) ∧ Below w.heap.size w w' := by
 have hmx : Try.prog.follows .mixedOrders = true := by kernel_rfl
 have hn : Hid (X.length = n) := h.1
 have hsH : Hid (Srt X) := hs
 have hle : ahd X i ≤ n := by rw [← hn.out]; exact ahd_le X i
 have hah := fun (W : World) (hk : Below w.heap.size w W) => aheadO_any (i := i) (obs_next h hk) hs hn16
 have c0 : (#[.slice ao n cap, .func (.func 71) #[] #[]] : Array Value)[0]? = some (.slice ao n cap) := rfl
 have c1 : (#[.slice ao n cap, .func (.func 71) #[] #[]] : Array Value)[1]? = some (.func (.func 71) #[] #[]) := rfl
 have hzG : (Try.prog.info? 94).map (·.size) = some (#[.slice ao n cap, .func (.func 71) #[] #[]] : Array Value).size := by kernel_rfl
 obtain ⟨G, hG⟩ : ∃ G : Array Value, G = #[.slice ao n cap, .func (.func 71) #[] #[]] := ⟨_, rfl⟩
 rw [← hG] at c0 c1 hzG
 rw [← hG] at hah ⊢
 clear hG
 obtain ⟨k, hke⟩ : ∃ k, Hid (ahd X i = k) := ⟨_, rfl⟩
 rw [hke.out] at hah hle
 clear hs
 go_enter Try.func54, Try.ntmps54
 go_wp2_with (first
  | (with_reducible refine wpList_box rfl _ _ rfl G rfl ?_; intro B W hB hb hk)
  | (with_reducible refine wpList_load_blk rfl _ _ rfl B rfl _ hb _ Try.underlying94 rfl hzG ?_)
  | (go_at_call 72; (with_reducible refine (hah _ hk).mono ?_); rintro e w1 ⟨rfl, hb1⟩; replace hb := hb.next hb1; replace hk := hk.trans (hb1.mono hk.size)))
 clear hah hB hb1
 by_cases hkn : k < n
 ·have hkn1 : Hid ((k : Int) < n) := by show _ < _; omega
  obtain ⟨b, off, C, rfl, hbb, hC, hr⟩ := obs_at (obs_next h hk) hkn
  have hz := hC.size
  refine PgM.region_out (S := fun W => Blk W B G 94 ∧ W.rangeAt b (off + k * 51) C.toList) hmx ⟨hb.next (Below.refl _ _).drew, range_block hr ((Below.refl _ w1).drew.block b hbb)⟩ (fun hS => ?_)
  have hkd := (Below.refl w1.heap.size w1).drew
  have hC0 := hC.next hkd
  replace hk := hk.trans (hkd.mono hk.size)
  have hbb1 : b < w1.drew.heap.size := Nat.lt_of_lt_of_le hbb hkd.size
  generalize w1.drew = W1 at hS hC0 hk hbb1 ⊢
  clear hkd hb
  refine wpAnyH_sym (by kernel_rfl) (fun _ _ _ _ _ h => h) hS [(0, none), (1, none), (2, some (.slice (some ⟨b, off, none⟩) n cap)), (3, some (.int .i64 n)), (4, some (.bool true)), (5, none), (6, none), (7, some (.func (.func 71) #[] #[])), (8, none), (9, some (.slice (some ⟨b, off, none⟩) n cap)), (10, none), (11, some (.pointer (some ⟨b, off + k * 51, none⟩))), (12, some (.agg C)), (14, none)] (l' := #[true, true, true, true, true, true, true, true, true, true, true, true, true, false, true, false, false]) (a' := { tmps := #[.agg G, .int .u64 i, .pointer (some ⟨B, 0, none⟩), undef, .int .i64 0, .int .i64 0, .int .i64 k, .agg G, .int .u64 i, .int .i64 k, .int .i64 k, .pointer (some ⟨B, 0, none⟩), .slice (some ⟨b, off, none⟩) n cap, .int .i64 n, .bool true, .bool true, .pointer (some ⟨B, 1, none⟩), .func (.func 71) #[] #[], .pointer (some ⟨B, 0, none⟩), .slice (some ⟨b, off, none⟩) n cap, .int .i64 k, .pointer (some ⟨b, off + k * 51, none⟩), .agg C, undef, .int .u64 i, ud, ud, ud, ud, ud, ud, undef], defers := [] }) (obs := [.load 83 B 0 (.slice (some ⟨b, off, none⟩) n cap), .ln 83 3 (.slice (some ⟨b, off, none⟩) n cap) (.int .i64 n), .test .lss 3 (.tmp 10) (.tmp 13) (.int .i64 k) (.int .i64 n) (.bool true), .load 92 B 1 (.func (.func 71) #[] #[]), .load 83 B 0 (.slice (some ⟨b, off, none⟩) n cap), .ia 83 (.slice (some ⟨b, off, none⟩) n cap) (.int .i64 k) (.pointer (some ⟨b, off + k * 51, none⟩)), .load 40 b (off + k * 51) (.agg C)]) (n := 3) (by kernel_rfl) (by kernel_rfl) ⟨ob_load1 (fun _ h => h.1) c0 Try.isAgg83, ob_ln, ob_yes (fun _ => tlt_int _ _ _ _ _ _) hkn1, ob_load1 (fun _ h => h.1) c1 Try.isAgg92, ob_load1 (fun _ h => h.1) c0 Try.isAgg83, ia_at hkn, ob_loadm (fun _ h => h.2) Try.underlying40 (by kernel_rfl) (size40C hz), trivial⟩ ?_
  refine wpAnyH_callL (i := 13) (fuel := 2) (f := 71) (vs := [.agg C]) (d := some 23) (by kernel_rfl) (by kernel_rfl) (by kernel_rfl) Try.call71 (objects1_any hC0) ?_
  rintro e W2 ⟨rfl, hk2⟩
  have hS2 : Blk W2 B G 94 ∧ W2.rangeAt b (off + k * 51) C.toList := ⟨hS.1.next hk2, range_block hS.2 (hk2.block b hbb1)⟩
  refine ⟨_, rfl, hS2, ?_⟩
  replace hk := hk.trans (hk2.mono hk.size)
  by_cases hxi : (oat X k).id = i
  ·have hd : Hid ((oat X k).id = i) := hxi
   refine wpAnyH_sym (by kernel_rfl) (fun _ _ _ _ _ h => h) hS2 [(15, some (.bool true)), (16, none)] (l' := #[true, true, true, true, true, true, true, true, true, true, true, true, true, true, true, true, true]) (a' := { tmps := #[.agg G, .int .u64 i, .pointer (some ⟨B, 0, none⟩), undef, .int .i64 0, .int .i64 0, .int .i64 k, .agg G, .int .u64 i, .int .i64 k, .int .i64 k, .pointer (some ⟨B, 0, none⟩), .slice (some ⟨b, off, none⟩) n cap, .int .i64 n, .bool true, .bool true, .pointer (some ⟨B, 1, none⟩), .func (.func 71) #[] #[], .pointer (some ⟨B, 0, none⟩), .slice (some ⟨b, off, none⟩) n cap, .int .i64 k, .pointer (some ⟨b, off + k * 51, none⟩), .agg C, .int .u64 (oat X k).id, .int .u64 i, .bool true, .bool true, ud, ud, ud, ud, undef], defers := [] }) (obs := [.test .eql 22 (.tmp 23) (.tmp 24) (.int .u64 (oat X k).id) (.int .u64 i) (.bool true)]) (n := 0) (by kernel_rfl) (by kernel_rfl) ⟨ob_yes (fun _ => eqg_int _ _ _ _ _ _) hd, trivial⟩ ?_
   refine wpAnyH_done (by kernel_rfl) ?_ _
   clear hS hS2 hC0 hbb1 hk2
   go_wp2
   go_ret2
   have hf : fin X i = k + 1 := by unfold fin; rw [fnd_at hsH.out (by rw [hke.out, hn.out]; exact hkn) (by rw [hke.out]; exact hxi), hke.out]; rfl
   refine ⟨?_, hk⟩
   rw [hf, hke.out]
   go_num
  ·have hd : Hid (¬ (oat X k).id = i) := hxi
   refine wpAnyH_sym (by kernel_rfl) (fun _ _ _ _ _ h => h) hS2 [(15, some (.bool false)), (16, none)] (l' := #[true, true, true, true, true, true, true, true, true, true, true, true, true, true, true, true, true]) (a' := { tmps := #[.agg G, .int .u64 i, .pointer (some ⟨B, 0, none⟩), undef, .int .i64 0, .int .i64 0, .int .i64 k, .agg G, .int .u64 i, .int .i64 k, .int .i64 k, .pointer (some ⟨B, 0, none⟩), .slice (some ⟨b, off, none⟩) n cap, .int .i64 n, .bool true, .bool true, .pointer (some ⟨B, 1, none⟩), .func (.func 71) #[] #[], .pointer (some ⟨B, 0, none⟩), .slice (some ⟨b, off, none⟩) n cap, .int .i64 k, .pointer (some ⟨b, off + k * 51, none⟩), .agg C, .int .u64 (oat X k).id, .int .u64 i, .bool false, .bool false, ud, ud, ud, ud, undef], defers := [] }) (obs := [.test .eql 22 (.tmp 23) (.tmp 24) (.int .u64 (oat X k).id) (.int .u64 i) (.bool false)]) (n := 0) (by kernel_rfl) (by kernel_rfl) ⟨ob_no (fun _ => eqg_int _ _ _ _ _ _) hd, trivial⟩ ?_
   refine wpAnyH_done (by kernel_rfl) ?_ _
   clear hS hS2 hC0 hbb1 hk2
   go_wp2
   go_ret2
   have hf : fin X i = k := by unfold fin; rw [fnd_not hsH.out (by rw [hke.out]; exact fun q => hxi q.2), hke.out]; rfl
   refine ⟨?_, hk⟩
   rw [hf, hke.out]; rfl
 ·have hkn1 : Hid (¬ (k : Int) < n) := by show ¬ _; omega
  refine PgM.region_out (S := fun W => Blk W B G 94) hmx (hb.next (Below.refl _ _).drew) (fun hS => ?_)
  have hkd := (Below.refl w1.heap.size w1).drew
  replace hk := hk.trans (hkd.mono hk.size)
  generalize w1.drew = W1 at hS hk ⊢
  clear hkd hb
  refine wpAnyH_sym (by kernel_rfl) (fun _ _ _ _ _ h => h) hS [(0, none), (1, none), (2, some (.slice ao n cap)), (3, some (.int .i64 n)), (4, some (.bool false)), (5, none), (6, none), (7, none), (8, none), (9, none), (10, none), (11, none), (12, none), (13, none), (14, none), (15, none), (16, none)] (l' := #[true, true, true, true, true, true, true, true, true, true, true, true, true, true, true, true, true]) (a' := { tmps := #[.agg G, .int .u64 i, .pointer (some ⟨B, 0, none⟩), undef, .int .i64 0, .int .i64 0, .int .i64 k, .agg G, .int .u64 i, .int .i64 k, .int .i64 k, .pointer (some ⟨B, 0, none⟩), .slice ao n cap, .int .i64 n, .bool false, .bool false, ud, ud, ud, ud, ud, ud, ud, ud, ud, undef, .bool false, ud, ud, ud, ud, undef], defers := [] }) (obs := [.load 83 B 0 (.slice ao n cap), .ln 83 3 (.slice ao n cap) (.int .i64 n), .test .lss 3 (.tmp 10) (.tmp 13) (.int .i64 k) (.int .i64 n) (.bool false)]) (n := 0) (by kernel_rfl) (by kernel_rfl) ⟨ob_load1 (fun _ h => h) c0 Try.isAgg83, ob_ln, ob_no (fun _ => tlt_int _ _ _ _ _ _) hkn1, trivial⟩ ?_
  refine wpAnyH_done (by kernel_rfl) ?_ _
  clear hS
  go_wp2
  go_ret2
  have hf : fin X i = k := by unfold fin; rw [fnd_not hsH.out (by rw [hke.out, hn.out]; exact fun q => hkn q.1), hke.out]; rfl
  refine ⟨?_, hk⟩
  rw [hf, hke.out]; rfl
theorem res40b {fn : Func} {p u : Tmp} (h : fn.results = #[.cell p 40, .tmp u]) {tmps : Array Value} {w : World} {B : Nat} {C : Array Value} {v : Value} (hp : tmps.getD p undef = .pointer (some ⟨B, 0, none⟩)) (hu : tmps.getD u undef = v) (hB : Blk w B C 40) (hs : C.size = 51) : (results fn tmps).run Try.prog w = .ok (.tuple #[.agg C, v]) w := by
 rw [results_cell_tmp h, hp, hu]
 have := run_loadVar_mid (P := Try.prog) w B 0 40 C.toList _ hB.range0 Try.underlying40 rfl (by simpa using size40C hs)
 rw [Array.toArray_toList] at this
 simp [asAddr, this, Result.andThen]
theorem built_z : Try.prog.built 40 [] = some zC := by kernel_rfl
def Smalls (X : List Ob) : Prop := ∀ x ∈ X, Small x
theorem find_n {w : World} {t ke ro : Int} {ao : Option Addr} {n cap : Nat} {X : List Ob} {i : Int} (h : Obs w ao n cap X) (hs : Srt X) (hn16 : n ≤ 4096) (hsm : Smalls X) : Calls Try.prog 43 #[.agg #[.int .i64 t, .int .u64 ke, .int .u64 ro, .slice ao n cap], .int .u64 i] w fun e w' => ∃ C', e = .returned (.tuple #[.agg C', .bool (fnd X i).isSome]) ∧ ObD (New w w') w' C' ((fnd X i).getD zOb) ∧ Below w.heap.size w w' ∧ ∃ M, LbV (fun b => New w w' b ∧ b < M) w' C'[2]? ((fnd X i).getD zOb).label ∧ (∃ ao n cap, C'[6]? = some (.slice ao n cap) ∧ w'.ownsRow M 22 1 (.slice ao n cap) n (wordsC ((fnd X i).getD zOb).data)) ∧ w.heap.size ≤ M := by
 have hn : Hid (X.length = n) := h.1
 have hsH : Hid (Srt X) := hs
 have hsmH : Hid (Smalls X) := hsm
 have hle : ahd X i ≤ n := by rw [← hn.out]; exact ahd_le X i
 have ga3 := Try.isAgg83
 have hwh := fun (W : World) (hk : Below w.heap.size w W) => whereO_any (i := i) (obs_next h hk) hs hn16
 have c3 : (#[.int .i64 t, .int .u64 ke, .int .u64 ro, .slice ao n cap] : Array Value)[3]? = some (.slice ao n cap) := rfl
 have hzG : (Try.prog.info? 85).map (·.size) = some (#[.int .i64 t, .int .u64 ke, .int .u64 ro, .slice ao n cap] : Array Value).size := by kernel_rfl
 obtain ⟨G, hG⟩ : ∃ G : Array Value, G = #[.int .i64 t, .int .u64 ke, .int .u64 ro, .slice ao n cap] := ⟨_, rfl⟩
 rw [← hG] at c3 hzG
 rw [← hG]
 clear hG
 obtain ⟨k, hke⟩ : ∃ k, Hid (ahd X i = k) := ⟨_, rfl⟩
 obtain ⟨f, hfe⟩ : ∃ f, Hid (fin X i = f) := ⟨_, rfl⟩
 rw [hke.out, hfe.out] at hwh
 rw [hke.out] at hle
 clear hs hsm
 by_cases hf : (fnd X i).isSome = true
 ·obtain ⟨x, hx⟩ := Option.isSome_iff_exists.1 hf
  have hq : ahd X i < X.length ∧ (oat X (ahd X i)).id = i := Classical.byContradiction fun q => by rw [fnd_not hsH.out q] at hx; cases hx
  have hxx : x = oat X k := by rw [fnd_at hsH.out hq.1 hq.2] at hx; rw [← hke.out]; injection hx with e; exact e.symm
  have hkn : k < n := by have := hq.1; rw [hke.out, hn.out] at this; exact this
  have hfk : Hid (f = k + 1) := by have := hfe.out; unfold fin at this; rw [if_pos hf, hke.out] at this; exact this.symm
  have hfi : ((k : Int) == (f : Int)) = false := by have := hfk.out; rw [beq_eq_false_iff_ne]; omega
  have hxs : Small (oat X k) := hsmH.out _ (oat_mem (by rw [hn.out]; exact hkn))
  rw [hx]
  simp only [Option.isSome_some, Option.getD_some]
  rw [hxx]
  clear hx hxx hq hf
  go_enter Try.func43, Try.ntmps43
  go_wp2_with (first
   | (with_reducible refine wpList_box rfl _ _ rfl G rfl ?_; intro B W hB hb hk)
   | ((with_reducible refine wpList_alloc rfl _ rfl zC zero40 ?_); intro R W1 hB1 hR hk1; replace hb := hb.next hk1; replace hk := hk.trans (hk1.mono hk.size))
   | (with_reducible refine wpList_load_blk rfl _ _ rfl B rfl _ hb _ Try.underlying85 rfl hzG ?_)
   | (go_at_call 53; (with_reducible refine (objectsG_any c3).mono ?_); rintro e w1 ⟨rfl, hb1⟩; replace hb := hb.next hb1; replace hR := hR.next hb1; replace hk := hk.trans (hb1.mono hk.size))
   | (go_at_call 54; (with_reducible refine (hwh _ hk).mono ?_); rintro e w2 ⟨rfl, hb2⟩; replace hb := hb.next hb2; replace hR := hR.next hb2; replace hk := hk.trans (hb2.mono hk.size); obtain ⟨b, off, C, rfl, hbb, hC, hr⟩ := obs_at (obs_next h hk) hkn; have hkn' : (k : Int) < n := (by omega); have hz := hC.size)
   | (with_reducible refine wpList_load1 (by kernel_rfl) _ _ rfl B _ rfl _ _ hb _ (by assumption) (by assumption) ?_)
   | (with_reducible refine wpList_loadm (by kernel_rfl) 40 _ rfl b _ rfl C hr _ Try.underlying40 (by kernel_rfl) (size40C hz) ?_)
   | (go_at_call 55; (with_reducible refine (copiedOne_ap hC hxs).mono ?_); rintro e w3 ⟨C', rfl, hC', hb3, M, hM2, ⟨am, nm, cm, e6, hM6⟩, hMw⟩; replace hR := hR.next hb3; replace hk := hk.trans (hb3.mono hk.size))
   | ((with_reducible refine wpList_store_blk rfl _ _ _ rfl R rfl C' rfl zC hR (size40C hC'.size) (zC_size.trans hC'.size.symm) hC'.one ?_); intro W4 hR4 o4))
  have hRl : w.heap.size ≤ R ∧ R < w2.heap.size := by have := hB.out; have := hB1.out; have := hb1.size; have := hb2.size; omega
  refine bodyPost_ret (v := .tuple #[.agg C', .bool true]) (res40b Try.results43 rfl rfl hR4 hC'.size) rfl ?_
  have hnw : w.heap.size ≤ w2.heap.size := by omega
  have hnn : ∀ b, New w2 w3 b → New w W4 b := fun b hb => ⟨Nat.le_trans hnw hb.1, by rw [o4.size]; exact hb.2⟩
  exact ⟨C', rfl, (hC'.laterK fun b hb => o4.block b (by have := hb.1; omega)).wide hnn, o4.below _ _ hRl.1 hk, M, (LbV.laterK hM2 fun b hb => o4.block b (by have := hb.1.1; omega)).wide fun b hb => ⟨hnn b hb.1, hb.2⟩, ⟨am, nm, cm, e6, owns_later hM6 fun b hb _ => o4.block b (by omega)⟩, Nat.le_trans hnw hMw⟩
 ·have hx : fnd X i = none := by cases hq : fnd X i with | none => rfl | some x => rw [hq] at hf; exact absurd rfl hf
  have hfk : Hid (f = k) := by have := hfe.out; unfold fin at this; rw [if_neg hf, hke.out] at this; exact this.symm
  obtain rfl : f = k := hfk.out
  rw [hx]
  simp only [Option.isSome_none, Option.getD_none]
  clear hx hf
  go_enter Try.func43, Try.ntmps43
  go_wp2_with (first
   | (with_reducible refine wpList_box rfl _ _ rfl G rfl ?_; intro B W hB hb hk)
   | ((with_reducible refine wpList_alloc rfl _ rfl zC zero40 ?_); intro R W1 hB1 hR hk1; replace hb := hb.next hk1; replace hk := hk.trans (hk1.mono hk.size))
   | (with_reducible refine wpList_load_blk rfl _ _ rfl B rfl _ hb _ Try.underlying85 rfl hzG ?_)
   | (go_at_call 53; (with_reducible refine (objectsG_any c3).mono ?_); rintro e w1 ⟨rfl, hb1⟩; replace hb := hb.next hb1; replace hR := hR.next hb1; replace hk := hk.trans (hb1.mono hk.size))
   | (go_at_call 54; (with_reducible refine (hwh _ hk).mono ?_); rintro e w2 ⟨rfl, hb2⟩; replace hb := hb.next hb2; replace hR := hR.next hb2; replace hk := hk.trans (hb2.mono hk.size))
   | ((with_reducible refine wpList_build rfl _ [] rfl zC ?hf ?_); (case hf => exact built_z))
   | ((with_reducible refine wpList_store_blk rfl _ _ _ rfl R rfl zC rfl zC hR (size40C zC_size) rfl (zC_d (fun _ => True) w).one ?_); intro W4 hR4 o4))
  have hRl : w.heap.size ≤ R := by have := hB.out; have := hB1.out; omega
  refine bodyPost_ret (v := .tuple #[.agg zC, .bool false]) (res40b Try.results43 rfl rfl hR4 zC_size) rfl ?_
  exact ⟨zC, rfl, zC_d _ _, o4.below _ _ hRl hk, w.heap.size, LbV.zero _ _, ⟨none, 0, 0, rfl, World.ownsRow_nil _ _ _ _⟩, Nat.le_refl _⟩
end Go.Proofs.Ytlaagheeemkklaa
namespace Go.Proofs.Ytlaagheeemkklaa
set_option maxRecDepth 100000
set_option maxHeartbeats 8000000
open Go.RowKit Go.Shelf
set_option linter.unusedVariables false
attribute [local go_sem] Oper.semAt_some

section
variable {ops : Array Oper} {rest : List Oper} {op : Oper} {a : Act} {Q : Exit → Act → World → Prop} {w : World}
theorem wpList_bs1 (hgd : op.guard = none) (x : Operand) (ho : op.op = .buildSlice 83 1 #[(0, x)]) (C : Array Value) (hx : a.eval x = .agg C) (hz : C.size = 51)
  (h : ∀ B W, Hid (w.heap.size = B ∧ W.heap.size = B + 1) → Blk W B C 40 → Below w.heap.size w W → wpList Try.prog ops Q rest (a.put op.dst (.slice (some ⟨B, 0, none⟩) 1 1)) W) : wpList Try.prog ops Q (op :: rest) a w :=
 wpList_plain hgd fun K hK => by
  have e : (#[(0, x)].map fun ((i : Nat), x) => (i, a.eval x)) = #[(0, Value.agg C)] := by simp [hx]
  unfold Oper.wp execOp
  simp only [ho, e, Sem.run_bind, run_bs1 hz, Result.andThen_ok]
  exact hK _ _ (h _ _ ⟨rfl, by simp⟩ (Blk.new w C 40) ((Below.refl _ w).alloc (Nat.le_refl _) _))
end
theorem obs_one {W : World} {B : Nat} {C : Array Value} {x : Ob} {D : Nat → Prop} (h : Blk W B C 40) (k : ObD D W C x) : ObsD (LtN W) D W (some ⟨B, 0, none⟩) 1 1 [x] :=
 ⟨rfl, Nat.le_refl _, ⟨by omega, fun e => by cases e⟩, fun _ => ⟨B, 0, rfl, h.lt, fun i hi => by
  obtain rfl : i = 0 := by omega
  exact ⟨C, k, by simpa using h.range0⟩⟩⟩
end Go.Proofs.Ytlaagheeemkklaa
namespace Go.Proofs.Ytlaagheeemkklaa
set_option maxRecDepth 100000
set_option maxHeartbeats 8000000
open Go.RowKit Go.Shelf
set_option linter.unusedVariables false
attribute [local go_sem] Oper.semAt_some

theorem srt_one (x : Ob) : Srt [x] := by unfold Srt; simp
theorem fnd_one (x : Ob) : fnd [x] x.id = some x := by unfold fnd; simp
def Alo (w w' : World) (C' : Array Value) (x : Ob) : Prop := ObD (New w w') w' C' x ∧ ∃ M, LbV (fun b => New w w' b ∧ b < M) w' C'[2]? x.label ∧ (∃ ao n cap, C'[6]? = some (.slice ao n cap) ∧ w'.ownsRow M 22 1 (.slice ao n cap) n (wordsC x.data)) ∧ w.heap.size ≤ M
theorem Alo.oth {w W W' : World} {C' : Array Value} {x : Ob} {P : Nat} (h : Alo w W C' x) (o : Oth P W W') (hP : P < w.heap.size) : Alo w W' C' x := by
 obtain ⟨h1, M, h2, ⟨ao, n, cap, h3, h4⟩, h5⟩ := h
 have hn : ∀ b, New w W b → New w W' b := fun b hb => ⟨hb.1, by rw [o.size]; exact hb.2⟩
 exact ⟨(h1.laterK fun b hb => o.block b (by have := hb.1; omega)).wide hn, M, (LbV.laterK h2 fun b hb => o.block b (by have := hb.1.1; omega)).wide fun b hb => ⟨hn b hb.1, hb.2⟩, ⟨ao, n, cap, h3, owns_later h4 fun b hb _ => o.block b (by omega)⟩, h5⟩
theorem Alo.next {w W W' : World} {C' : Array Value} {x : Ob} (h : Alo w W C' x) (k : Below W.heap.size W W') : Alo w W' C' x := by
 obtain ⟨h1, M, h2, ⟨ao, n, cap, h3, h4⟩, h5⟩ := h
 have hn : ∀ b, New w W b → New w W' b := fun b hb => ⟨hb.1, Nat.lt_of_lt_of_le hb.2 k.size⟩
 exact ⟨(h1.laterK fun b hb => k.block b hb.2).wide hn, M, (LbV.laterK h2 fun b hb => k.block b hb.1.2).wide fun b hb => ⟨hn b hb.1, hb.2⟩, ⟨ao, n, cap, h3, owns_later h4 fun b _ hl => k.block b hl⟩, h5⟩
theorem Alo.from {w v W : World} {C' : Array Value} {x : Ob} (h : Alo v W C' x) (hs : w.heap.size ≤ v.heap.size) : Alo w W C' x := by
 obtain ⟨h1, M, h2, h3, h5⟩ := h
 have hn : ∀ b, New v W b → New w W b := fun b hb => ⟨Nat.le_trans hs hb.1, hb.2⟩
 exact ⟨h1.wide hn, M, h2.wide fun b hb => ⟨hn b hb.1, hb.2⟩, h3, Nat.le_trans hs h5⟩
theorem find_one {w : World} {t ke ro : Int} {ao : Option Addr} {x : Ob} (h : Obs w ao 1 1 [x]) (hs : Small x) : Calls Try.prog 43 #[.agg #[.int .i64 t, .int .u64 ke, .int .u64 ro, .slice ao 1 1], .int .u64 x.id] w fun e w' => ∃ C', e = .returned (.tuple #[.agg C', .bool true]) ∧ Alo w w' C' x ∧ Below w.heap.size w w' := by
 have hsm : Smalls [x] := fun y hy => by rw [List.mem_singleton.1 hy]; exact hs
 refine (find_n (i := x.id) h (srt_one x) (by omega) hsm).mono ?_
 rintro e w' ⟨C', rfl, h1, h2, h3⟩
 rw [fnd_one] at h1 h3 ⊢
 exact ⟨C', rfl, ⟨h1, h3⟩, h2⟩
theorem alone_any {w : World} {C : Array Value} {x : Ob} (h : ObD (LtN w) w C x) (hs : Small x) : Calls Try.prog 24 #[.agg C] w fun e w' => ∃ C', e = .returned (.agg C') ∧ Alo w w' C' x ∧ Below w.heap.size w w' := by
 have ga1 := Try.isAgg22
 have hid := h.id
 have hz := h.size
 go_enter Try.func24, Try.ntmps24
 go_wp2_with (first
  | (with_reducible refine wpList_box rfl _ _ rfl C rfl ?_; intro B W hB hb hk)
  | ((with_reducible refine wpList_alloc rfl _ rfl zC zero40 ?_); intro P W5 hB5 hP hk5; have hPl : w3.heap.size = P := hB5.out.1; have hne : R ≠ P := (by have := hR.lt; omega); replace hR := hR.next hk5; replace hk := hk.trans (hk5.mono hk.size))
  | ((with_reducible refine wpList_alloc rfl _ rfl zC zero40 ?_); intro R W1 hB1 hR hk1; replace hb := hb.next hk1; replace hk := hk.trans (hk1.mono hk.size))
  | (with_reducible refine wpList_load_blk rfl _ _ rfl B rfl _ hb _ Try.underlying40 rfl (size40C hz) ?_)
  | ((with_reducible refine wpList_bs1 rfl _ rfl C rfl hz ?_); intro Bq W2 hBq hbq hk2; have hRl := hR.lt; replace hb := hb.next hk2; replace hR := hR.next hk2; replace hk := hk.trans (hk2.mono hk.size); have hO := obs_one hbq (h.next hk))
  | ((with_reducible refine wpList_build rfl _ [(3, _)] rfl _ ?hf ?_); (case hf => exact built_w3 _ _ _))
  | (with_reducible refine wpList_load1 (by kernel_rfl) _ _ rfl B 0 rfl _ _ hb _ hid ga1 ?_)
  | (go_at_call 43; (with_reducible refine (find_one hO hs).mono ?_); rintro e w3 ⟨C', rfl, hA, hk3⟩; have hz' := hA.1.size; have ho' := hA.1.one; have hw2 := hk.size; replace hR := hR.next hk3; replace hk := hk.trans (hk3.mono hk.size))
  | (with_reducible refine wpList_load_blk rfl _ _ rfl P rfl _ hP _ Try.underlying40 rfl (size40C hz') ?_)
  | ((with_reducible refine wpList_store_blk rfl _ _ _ rfl P rfl C' rfl zC hP (size40C hz') (zC_size.trans hz'.symm) ho' ?_); intro W6 hP6 o6; have hA6 := hA.next (o6.below _ _ (by omega) hk5))
  | (with_reducible refine wpList_load_blk rfl _ _ rfl P rfl _ hP6 _ Try.underlying40 rfl (size40C hz') ?_)
  | ((with_reducible refine wpList_store_blk rfl _ _ _ rfl R rfl C' rfl zC (hR.other o6 hne) (size40C hz') (zC_size.trans hz'.symm) ho' ?_); intro W7 hR7 o7))
 have hRw : w.heap.size ≤ R ∧ w.heap.size ≤ P := by have := hB1.out; have := hB.out; have := hk3.size; omega
 refine bodyPost_ret (v := .agg _) (res40 Try.results24 rfl hR7 hz') rfl ?_
 have hRW : R < W2.heap.size := by have := hk2.size; omega
 exact ⟨C', rfl, (hA6.oth o7 hRW).from hw2, o7.below _ _ hRw.1 (o6.below _ _ hRw.2 hk)⟩
end Go.Proofs.Ytlaagheeemkklaa
namespace Go.Proofs.Ytlaagheeemkklaa
set_option maxRecDepth 100000
set_option maxHeartbeats 8000000
open Go.RowKit Go.Shelf
set_option linter.unusedVariables false
attribute [local go_sem] Oper.semAt_some

def rsz (x : Ob) (n : Int) : Ob := if wsz x n = 0 then { x with data := ws x.data 0 n.toNat } else x
theorem wsz_cases (x : Ob) (n : Int) : wsz x n = 0 ∧ x.kind = 1 ∧ 0 ≤ n ∧ n ≤ rooN x.quota ∨ ¬ wsz x n = 0 := by
 unfold wsz
 by_cases h1 : x.kind = 1
 ·rw [if_pos h1]
  by_cases h2 : n < 0
  ·rw [if_pos h2]; exact .inr (by omega)
  ·rw [if_neg h2]
   by_cases h3 : rooN x.quota < n
   ·rw [if_pos h3]; exact .inr (by omega)
   ·rw [if_neg h3]; exact .inl ⟨rfl, h1, by omega, by omega⟩
 ·rw [if_neg h1]; exact .inr (by omega)
theorem rooN_le (q : Int) : rooN q ≤ 65520 := by unfold rooN; omega
theorem resize_any {w : World} {C : Array Value} {x : Ob} (h : ObD (LtN w) w C x) (hs : Small x) {n : Int} : Calls Try.prog 9 #[.agg C, .int .i64 n] w fun e w' => ∃ C', e = .returned (.tuple #[.agg C', .int .i64 (wsz x n)]) ∧ Alo w w' C' (rsz x n) ∧ Below w.heap.size w w' := by
 have hz := h.size
 have hws := fun (W : World) (hk : Below w.heap.size w W) => wrongSize_any (n := n) (h.next hk)
 unfold rsz
 obtain ⟨r, hr⟩ : ∃ r, wsz x n = r := ⟨_, rfl⟩
 have hcs := wsz_cases x n
 rw [hr] at hws hcs ⊢
 clear hr
 rcases hcs with ⟨rfl, h1, h2, h3⟩ | h1
 ·rw [if_pos rfl]
  obtain ⟨m, rfl⟩ := Int.eq_ofNat_of_zero_le h2
  have hm : m ≤ 1000000 := by have := rooN_le x.quota; omega
  rw [Int.toNat_natCast]
  have hsx : Small { x with data := ws x.data 0 m } := ⟨hs.c2, hs.c5, by show (ws x.data 0 m).length < _; rw [ws_len]; omega, hs.c7, hs.c25, hs.c36, hs.c39, hs.c40, hs.c41, hs.c42, hs.c43, hs.c44, hs.c49, hs.c50⟩
  clear h3 h2
  have hmH : Hid (m ≤ 1000000) := hm
  clear hm
  go_enter Try.func9, Try.ntmps9
  go_wp2_with (first
   | (with_reducible refine wpList_box rfl _ _ rfl C rfl ?_; intro B W hB hb hk)
   | ((with_reducible refine wpList_alloc rfl _ rfl zC zero40 ?_); intro R W1 hB1 hR hk1; have hBl := hb.lt; replace hb := hb.next hk1; replace hk := hk.trans (hk1.mono hk.size))
   | (go_at_call 22; (with_reducible refine (hws _ hk).mono ?_); rintro e w2 ⟨rfl, hk2⟩; replace hb := hb.next hk2; have hRl := hR.lt; replace hR := hR.next hk2; replace hk := hk.trans (hk2.mono hk.size))
   | (go_at_call 23; (with_reducible refine (first_any (h.next hk) h1 hmH.out).mono ?_); rintro e w3 ⟨ao, cap, rfl, hct, hk3⟩; replace hb := hb.next hk3; replace hR := hR.next hk3; have hws2 := hk2.size; have hwk := hk.size; replace hk := hk.trans (hk3.mono hk.size))
   | ((with_reducible refine wpList_store_cell rfl _ _ _ rfl B 6 rfl (.slice ao m cap) rfl rfl _ _ hb size25 (by rw [hz]; omega) rfl ?_); intro W4 hb4 o4; have hne : R ≠ B := (by have := hB1.out.1; omega); replace hR := hR.other o4 hne; have hBw : w.heap.size ≤ B := (by have := hB.out; omega); replace hk := o4.below _ _ hBw hk; have hC1 : ObD (LtN W4) W4 (C.setIfInBounds 6 (.slice ao m cap)) { x with data := ws x.data 0 m } := (h.next hk).set6 ⟨ao, m, cap, rfl, (CtD.laterK hct fun b hb => o4.block b (by have := hb.1; have := hk1.size; omega)).wide fun b hb => by rw [LtN, o4.size]; exact hb.2⟩ rfl; have hz1 := hC1.size)
   | (with_reducible refine wpList_load_blk rfl _ _ rfl B rfl _ hb4 _ Try.underlying40 rfl (size40C hz1) ?_)
   | (with_reducible refine wpList_load_blk rfl _ _ rfl B rfl _ hb _ Try.underlying40 rfl (size40C hz) ?_)
   | (go_at_call 24; (with_reducible refine (alone_any hC1 hsx).mono ?_); rintro e w5 ⟨C', rfl, hA, hk5⟩; have hRl4 := hR.lt; replace hR := hR.next hk5; have hz' := hA.1.size; have ho' := hA.1.one; have hw4 := hk.size; replace hk := hk.trans (hk5.mono hk.size))
   | ((with_reducible refine wpList_store_blk rfl _ _ _ rfl R rfl C' rfl zC hR (size40C hz') (zC_size.trans hz'.symm) ho' ?_); intro W7 hR7 o7))
  have hRw : w.heap.size ≤ R := by have := hB1.out; have := hB.out; omega
  refine bodyPost_ret (v := .tuple #[.agg C', .int .i64 0]) (res40b Try.results9 rfl rfl hR7 hz') rfl ?_
  exact ⟨C', rfl, (hA.oth o7 hRl4).from hw4, o7.below _ _ hRw hk⟩
 ·have h1' : (r == 0) = false := by simpa using h1
  rw [if_neg h1]
  go_enter Try.func9, Try.ntmps9
  go_wp2_with (first
   | (with_reducible refine wpList_box rfl _ _ rfl C rfl ?_; intro B W hB hb hk)
   | ((with_reducible refine wpList_alloc rfl _ rfl zC zero40 ?_); intro R W1 hB1 hR hk1; have hBl := hb.lt; replace hb := hb.next hk1; replace hk := hk.trans (hk1.mono hk.size))
   | (go_at_call 22; (with_reducible refine (hws _ hk).mono ?_); rintro e w2 ⟨rfl, hk2⟩; replace hb := hb.next hk2; have hRl := hR.lt; replace hR := hR.next hk2; replace hk := hk.trans (hk2.mono hk.size))
   | (with_reducible refine wpList_load_blk rfl _ _ rfl B rfl _ hb _ Try.underlying40 rfl (size40C hz) ?_)
   | (go_at_call 24; (with_reducible refine (alone_any (h.next hk) hs).mono ?_); rintro e w5 ⟨C', rfl, hA, hk5⟩; have hRl4 := hR.lt; replace hR := hR.next hk5; have hz' := hA.1.size; have ho' := hA.1.one; have hw4 := hk.size; replace hk := hk.trans (hk5.mono hk.size))
   | ((with_reducible refine wpList_store_blk rfl _ _ _ rfl R rfl C' rfl zC hR (size40C hz') (zC_size.trans hz'.symm) ho' ?_); intro W7 hR7 o7))
  have hRw : w.heap.size ≤ R := by have := hB1.out; have := hB.out; omega
  refine bodyPost_ret (v := .tuple #[.agg C', .int .i64 r]) (res40b Try.results9 rfl rfl hR7 hz') rfl ?_
  exact ⟨C', rfl, (hA.oth o7 hRl4).from hw4, o7.below _ _ hRw hk⟩
end Go.Proofs.Ytlaagheeemkklaa
namespace Go.Proofs.Ytlaagheeemkklaa
set_option maxRecDepth 100000
set_option maxHeartbeats 8000000
open Go.RowKit Go.Shelf
set_option linter.unusedVariables false
attribute [local go_sem] Oper.semAt_some

def sgO (i : Int) (l : Lb) (q : Int) (f : Bool) (d : List Int) : Ob := ⟨i, 1, l, q, f, [], d, [], zTh, zGt, [], []⟩
theorem sg_of {x : Ob} (h : soundB x = true) (k : x.kind = 1) : x = sgO x.id x.label x.quota x.fixed x.data := by
 unfold soundB at h
 rw [Bool.and_eq_true, Bool.and_eq_true, sameO_iff, alone_iff] at h
 have e := h.2.2
 unfold aloO at e
 rw [if_pos k] at e
 unfold sgO
 rw [← k]
 exact e.symm
section
variable {D D' : Nat → Prop} {w w' : World} {v : Option Value}
theorem CtV.none (h : CtV D w v []) : CtV D' w' v [] := by
 obtain ⟨a, n, c, e, h1, h2, h3, _⟩ := h
 exact ⟨a, n, c, e, h1, h2, h3, fun h0 => absurd h0 (by have : n = 0 := h1.symm; omega)⟩
theorem LbV.none (h : LbV D w v []) : LbV D' w' v [] := by
 obtain ⟨a, n, c, e, h1, h2, h3, _⟩ := h
 exact ⟨a, n, c, e, h1, h2, h3, fun h0 => absurd h0 (by have : n = 0 := h1.symm; omega)⟩
theorem MpV.none (h : MpV D w v []) : MpV D' w' v [] := by
 obtain ⟨a, n, c, e, h1, h2, h3, _⟩ := h
 exact ⟨a, n, c, e, h1, h2, h3, fun h0 => absurd h0 (by have : n = 0 := h1.symm; omega)⟩
theorem ObD.reseg {C : Array Value} {i q : Int} {l : Lb} {f : Bool} {d d' : List Int} (h : ObD D w C (sgO i l q f d)) (hl : LbV D' w' C[2]? l) (hd : CtV D' w' C[6]? d') : ObD D' w' C (sgO i l q f d') :=
 ⟨h.size, h.one, h.id, h.kind, hl, h.quota, h.fixed, h.links.none, hd, h.maps.none,
  ⟨h.th.rlen, h.th.regs, h.th.pc, LbV.none h.th.clear, h.th.sc, h.th.si, h.th.handler, h.th.vector, h.th.state, h.th.wc, h.th.wi, h.th.wx, h.th.wv, h.th.wd, CtV.none h.th.alerts, h.th.lo, h.th.hi, LbV.none h.th.l0, LbV.none h.th.l1, LbV.none h.th.l2, LbV.none h.th.l3⟩,
  ⟨LbV.none h.gt.grant, LbV.none h.gt.clear, h.gt.sc, h.gt.si, h.gt.pc, h.gt.arg⟩, h.inn.none, h.out.none⟩
end
def putO (x : Ob) (p : Nat) (v : Int) : Ob := if wpl x p = 0 then { x with data := x.data.set p v } else x
theorem ct_set {W W' : World} {g n cap p : Nat} {cur : Array Value} {L : List Int} {v : Int} (hg : Blk W' g (cur.setIfInBounds p (.int .u64 v)) 22) (hn : L.length = n) (hnc : n ≤ cap) (hcm : cap ≤ maxLen) (hcs : cur.size = cap * 1) (ht : cur.toList.take (n * 1) = wordsC L) (hp : p < n) : CtD (fun b => b = g) W' (some ⟨g, 0, none⟩) n cap (L.set p v) := by
 refine ⟨by rw [List.length_set]; exact hn, hnc, ⟨by unfold maxLen at hcm; omega, fun e => by cases e⟩, fun _ => ⟨g, 0, rfl, rfl, fun i hi => ?_⟩⟩
 rw [Nat.zero_add, hg.cell, set_at (by omega)]
 by_cases e : p = i
 ·subst e
  rw [if_pos rfl, List.getD_eq_getElem?_getD, List.getElem?_set_self (by omega)]; rfl
 ·rw [if_neg e, List.getD_eq_getElem?_getD, List.getElem?_set_ne e]
  have h1 : (cur.toList.take (n * 1))[i]? = (wordsC L)[i]? := by rw [ht]
  rw [List.getElem?_take_of_lt (by omega)] at h1
  rw [← Array.getElem?_toList, h1]
  unfold wordsC
  rw [List.getElem?_map, List.getElem?_eq_getElem (by omega)]; rfl
theorem put_any {w : World} {C : Array Value} {x : Ob} (h : ObD (LtN w) w C x) (hs : Small x) (hx : x.kind = 1 → x = sgO x.id x.label x.quota x.fixed x.data) {p : Nat} (hp : p < 18446744073709551616) {v : Int} : Calls Try.prog 13 #[.agg C, .int .u64 (p : Int), .int .u64 v] w fun e w' => ∃ C', e = .returned (.tuple #[.agg C', .int .i64 (wpl x p)]) ∧ ObD (LtN w') w' C' (putO x p v) ∧ Below w.heap.size w w' := by
  have hz := h.size
  have ga4 := Try.isAgg25
  have hws := fun (W : World) (hk : Below w.heap.size w W) => wrongPlace_any (h.next hk) hp
  unfold putO
  obtain ⟨r, hr⟩ : ∃ r, wpl x p = r := ⟨_, rfl⟩
  have hcs := wpl_cases x p
  rw [hr] at hws hcs ⊢
  clear hr
  rcases hcs with ⟨rfl, h1, h2⟩ | ⟨h1, _⟩
  · rw [if_pos rfl]
    have hxs : Hid (x = sgO x.id x.label x.quota x.fixed x.data) := hx h1
    clear hx
    go_enter Try.func13, Try.ntmps13
    go_wp2_with (first
      | (with_reducible refine wpList_box rfl _ _ rfl C rfl ?_; intro B W hB hb hk)
      | ((with_reducible refine wpList_alloc rfl _ rfl zC zero40 ?_); intro R W1 hB1 hR hk1; have hBl := hb.lt; replace hb := hb.next hk1; replace hk := hk.trans (hk1.mono hk.size))
      | (go_at_call 26; (with_reducible refine (hws _ hk).mono ?_); rintro e w2 ⟨rfl, hk2⟩; replace hb := hb.next hk2; have hRl := hR.lt; replace hR := hR.next hk2; replace hk := hk.trans (hk2.mono hk.size))
      | (with_reducible refine wpList_load_blk rfl _ _ rfl B rfl _ hb _ Try.underlying40 rfl (size40C hz) ?_)
      | (go_at_call 24; (with_reducible refine (alone_any (h.next hk) hs).mono ?_); rintro e w5 ⟨C', rfl, hA, hk5⟩; have hRl4 := hR.lt; have hBl4 := hb.lt; replace hb := hb.next hk5; replace hR := hR.next hk5; have hz' := hA.1.size; have ho' := hA.1.one; have hw4 := hk.size; replace hk := hk.trans (hk5.mono hk.size))
      | ((with_reducible refine wpList_store_blk rfl _ _ _ rfl B rfl C' rfl C hb (size40C hz') (hz.trans hz'.symm) ho' ?_); intro W6 hb6 o6; replace hA := hA.oth o6 hBl4; have hne : R ≠ B := (by have := hB1.out.1; omega); replace hR := hR.other o6 hne; have hBw : w.heap.size ≤ B := (by have := hB.out; omega); replace hk := o6.below _ _ hBw hk; obtain ⟨hob, M, hlb, ⟨ao, n6, c6, e6, hown⟩, hM⟩ := hA; have hn6 : n6 = x.data.length := (by have := hown.1; unfold wordsC at this; rw [List.length_map] at this; omega); have hp6 : p < n6 := (by omega); have hp6' : (p : Int) < n6 := (by omega); obtain ⟨g, cur, rfl, hgM, hgb, hgc, hgm, hgs, hgt⟩ : ∃ g cur, ao = some ⟨g, 0, none⟩ ∧ M ≤ g ∧ Blk W6 g cur 22 ∧ n6 ≤ c6 ∧ c6 ≤ maxLen ∧ cur.size = c6 * 1 ∧ Hid (cur.toList.take (n6 * 1) = wordsC x.data) := (by
            rcases hown.2 with ⟨_, h0⟩ | ⟨g, c, cur, e, q1, q2, q3, q4, q5, q6⟩
            · omega
            · cases e; exact ⟨g, cur, rfl, q1, q2, q3, q4, q5, q6⟩); have hpc : p < cur.size := (by omega))
      | (with_reducible refine wpList_load1 (by kernel_rfl) _ _ rfl B 6 rfl _ _ hb6 _ e6 ga4 ?_)
      | ((with_reducible refine wpList_store_cell rfl _ _ _ rfl g p rfl (.int .u64 v) rfl rfl _ _ hgb sizeU hpc rfl ?_); intro W7 hg7 o7; have hgB : B ≠ g := (by omega); have hb7 := hb6.other o7 hgB; have hR7 := hR.other o7 (by omega))
      | (with_reducible refine wpList_load_blk rfl _ _ rfl B rfl _ hb7 _ Try.underlying40 rfl (size40C hz') ?_)
      | ((with_reducible refine wpList_store_blk rfl _ _ _ rfl R rfl C' rfl zC hR7 (size40C hz') (zC_size.trans hz'.symm) ho' ?_); intro W8 hR8 o8))
    have hRw : w.heap.size ≤ R := by have := hB1.out; have := hB.out; omega
    refine bodyPost_ret (v := .tuple #[.agg C', .int .i64 0]) (res40b Try.results13 rfl rfl hR8 hz') rfl ?_
    have hsz : W8.heap.size = W6.heap.size := by rw [o8.size, o7.size]
    refine ⟨C', rfl, ?_, o8.below _ _ hRw (o7.below _ _ (by omega) hk)⟩
    rw [hxs.out] at hob ⊢
    refine hob.reseg ?_ ?_
    · refine (LbV.laterK hlb fun b hb => (o8.block b (by have := hb.1.1; omega)).trans (o7.block b (by have := hb.2; omega))).wide fun b hb => ?_
      rw [LtN, hsz]; exact hb.1.2
    · have hct := ct_set (W := W6) hg7 hn6.symm hgc hgm hgs hgt.out hp6
      refine ⟨_, _, _, e6, (CtD.laterK hct fun b hb => o8.block b (by omega)).wide fun b hb => ?_⟩
      rw [LtN, hsz, hb]; exact hgb.lt
  · have h1' : (r == 0) = false := by simpa using h1
    rw [if_neg h1]
    go_enter Try.func13, Try.ntmps13
    go_wp2_with (first
      | (with_reducible refine wpList_box rfl _ _ rfl C rfl ?_; intro B W hB hb hk)
      | ((with_reducible refine wpList_alloc rfl _ rfl zC zero40 ?_); intro R W1 hB1 hR hk1; have hBl := hb.lt; replace hb := hb.next hk1; replace hk := hk.trans (hk1.mono hk.size))
      | (go_at_call 26; (with_reducible refine (hws _ hk).mono ?_); rintro e w2 ⟨rfl, hk2⟩; replace hb := hb.next hk2; have hRl := hR.lt; replace hR := hR.next hk2; replace hk := hk.trans (hk2.mono hk.size))
      | (with_reducible refine wpList_load_blk rfl _ _ rfl B rfl _ hb _ Try.underlying40 rfl (size40C hz) ?_)
      | (go_at_call 24; (with_reducible refine (alone_any (h.next hk) hs).mono ?_); rintro e w5 ⟨C', rfl, hA, hk5⟩; have hRl4 := hR.lt; have hBl4 := hb.lt; replace hb := hb.next hk5; replace hR := hR.next hk5; have hz' := hA.1.size; have ho' := hA.1.one; have hw4 := hk.size; replace hk := hk.trans (hk5.mono hk.size))
      | ((with_reducible refine wpList_store_blk rfl _ _ _ rfl B rfl C' rfl C hb (size40C hz') (hz.trans hz'.symm) ho' ?_); intro W6 hb6 o6; replace hA := hA.oth o6 hBl4; have hne : R ≠ B := (by have := hB1.out.1; omega); replace hR := hR.other o6 hne; have hBw : w.heap.size ≤ B := (by have := hB.out; omega); replace hk := o6.below _ _ hBw hk)
      | (with_reducible refine wpList_load_blk rfl _ _ rfl B rfl _ hb6 _ Try.underlying40 rfl (size40C hz') ?_)
      | ((with_reducible refine wpList_store_blk rfl _ _ _ rfl R rfl C' rfl zC hR (size40C hz') (zC_size.trans hz'.symm) ho' ?_); intro W8 hR8 o8))
    have hRw : w.heap.size ≤ R := by have := hB1.out; have := hB.out; omega
    refine bodyPost_ret (v := .tuple #[.agg C', .int .i64 r]) (res40b Try.results13 rfl rfl hR8 hz') rfl ?_
    exact ⟨C', rfl, (hA.oth o8 hRl4).1.wide fun b hb => hb.2, o8.below _ _ hRw hk⟩
end Go.Proofs.Ytlaagheeemkklaa
