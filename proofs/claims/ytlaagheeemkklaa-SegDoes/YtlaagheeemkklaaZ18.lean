/-
 PROVED HERE: plain words for segments, and what package seg's room and the document's room return when they are called (con. What is asked stands at each.
-/
import Derived.Laws.CopyOwn
import Derived.Deep.RegionLaw
import Derived.Test.YtlaagheeemkklaaZ9
import Derived.Test.YtlaagheeemkklaaZ16
namespace Go.Proofs.Ytlaagheeemkklaa
set_option maxRecDepth 100000
set_option maxHeartbeats 8000000
open Go.RowKit Go.Shelf
set_option linter.unusedVariables false
attribute [local go_sem] Oper.semAt_some

def ws (L : List Int) (a n : Nat) : List Int := (List.range n).map fun i => L.getD (a + i) 0
theorem ws_len (L : List Int) (a n : Nat) : (ws L a n).length = n := by unfold ws; simp
theorem ws_at {L : List Int} {a n i : Nat} (h : i < n) : (ws L a n).getD i 0 = L.getD (a + i) 0 := by
 unfold ws; rw [List.getD_eq_getElem?_getD, List.getElem?_map, List.getElem?_range h]; rfl
theorem ws_app (L : List Int) (a n m : Nat) : ws L a n ++ ws L (a + n) m = ws L a (n + m) := by
 unfold ws
 rw [List.range_add, List.map_append, List.map_map]
 congr 1
 apply List.map_congr_left
 intro i _
 show L.getD (a + n + i) 0 = L.getD (a + (n + i)) 0
 rw [Nat.add_assoc]
theorem ws_take {L : List Int} {a n m : Nat} (h : m ≤ n) : (ws L a n).take m = ws L a m := by
 unfold ws
 rw [← List.map_take, List.take_range, Nat.min_eq_left h]
theorem ws_none {L : List Int} {a n : Nat} (h : L.length ≤ a) : ws L a n = List.replicate n 0 := by
 unfold ws
 apply List.ext_getElem
 ·simp
 ·intro i h1 h2
  rw [List.getElem_map, List.getElem_replicate, List.getElem_range, List.getD_eq_getElem?_getD, List.getElem?_eq_none (by omega)]; rfl
theorem ws_succ (L : List Int) (n : Nat) : ws L 0 (n + 1) = ws L 0 n ++ [L.getD n 0] := by
 rw [← ws_app L 0 n 1, Nat.zero_add]; rfl
theorem ws_split {L : List Int} {a n : Nat} (h : a ≤ L.length) : ws L a n = (L.drop a).take n ++ List.replicate (n - (L.length - a)) 0 := by
 apply List.ext_getElem
 ·rw [ws_len, List.length_append, List.length_take, List.length_drop, List.length_replicate]; omega
 ·intro i h1 h2
  unfold ws at h1 ⊢
  rw [List.getElem_map, List.getElem_range, List.getD_eq_getElem?_getD, List.getElem_append]
  rw [List.length_map, List.length_range] at h1
  split
  ·next q =>
   rw [List.getElem_take, List.getElem_drop]
   rw [List.length_take, List.length_drop] at q
   rw [List.getElem?_eq_getElem (by omega)]; rfl
  ·next q =>
   rw [List.length_take, List.length_drop] at q
   rw [List.getElem_replicate, List.getElem?_eq_none (by omega)]; rfl
def rooN (q : Int) : Int := 16 * (min (max q 1) 4096 - 1)
def wsz (x : Ob) (n : Int) : Int := if x.kind = 1 then (if n < 0 then 4 else if rooN x.quota < n then 5 else 0) else 3
def wpl (x : Ob) (p : Int) : Int := if x.kind = 1 then (if (x.data.length : Int) ≤ p then 13 else 0) else 3
def pgL (x : Ob) (n : Int) : List Int := if x.kind = 1 ∧ 0 ≤ n then ws x.data (16 * n.toNat) 16 else List.replicate 16 0
theorem room_any (q : Int) (w : World) : Calls Try.prog 27 #[.int .i64 q] w fun e w' => e = .returned (.int .i64 (rooN q)) ∧ w' = w := by
 go_enter Try.func27, Try.ntmps27
 go_wp2
 all_goals go_ret
 all_goals (refine ⟨?_, rfl⟩; unfold rooN; show Ending.returned (.int .i64 _) = Ending.returned (.int .i64 _); congr 2; omega)
theorem rroom_any (n q : Int) (w : World) (hq : 1 ≤ q ∧ q ≤ 4096) : Calls Try.prog 25 #[.int .i64 n, .int .i64 q] w fun e w' => e = .returned (.bool (decide (n ≤ 16 * (q - 1)))) ∧ w' = w := by
 go_enter Try.func25, Try.ntmps25
 go_wp2
 all_goals go_ret
 all_goals exact ⟨rfl, rfl⟩
end Go.Proofs.Ytlaagheeemkklaa
namespace Go.Proofs.Ytlaagheeemkklaa
set_option maxRecDepth 100000
set_option maxHeartbeats 8000000
open Go.RowKit Go.Shelf
set_option linter.unusedVariables false
attribute [local go_sem] Oper.semAt_some

theorem wrongPlace_any {w : World} {C : Array Value} {x : Ob} (h : ObD (LtN w) w C x) {p : Nat} (hp : p < 18446744073709551616) : Calls Try.prog 26 #[.agg C, .int .u64 (p : Int)] w fun e w' => e = .returned (.int .i64 (wpl x p)) ∧ Below w.heap.size w w' := by
 have ga2 := Try.isAgg3
 have ga4 := Try.isAgg25
 have hki := h.kind
 have hz := h.size
 obtain ⟨a6, n6, c6, e6, l6⟩ := h.data
 have hn6 : Hid (x.data.length = n6) := l6.1
 have hc6 : n6 < 9223372036854775808 := by have := l6.2.1; have := l6.2.2.1.1; omega
 clear l6 h
 unfold wpl
 rw [hn6.out]
 by_cases h1 : x.kind = 1
 ·rw [h1] at hki
  rw [if_pos h1]
  go_enter Try.func26, Try.ntmps26
  go_wp2_with (first
   | (with_reducible refine wpList_box rfl _ _ rfl C rfl ?_; intro B W hB hb hk)
   | (with_reducible refine wpList_load1 (by kernel_rfl) _ _ rfl B 1 rfl _ _ hb _ hki ga2 ?_)
   | (with_reducible refine wpList_load1 (by kernel_rfl) _ _ rfl B 6 rfl _ _ hb _ e6 ga4 ?_))
  all_goals go_ret
  all_goals exact ⟨rfl, hk⟩
 ·rw [if_neg h1]
  have h1' : (x.kind == 1) = false := by simpa using h1
  go_enter Try.func26, Try.ntmps26
  go_wp2_with (first
   | (with_reducible refine wpList_box rfl _ _ rfl C rfl ?_; intro B W hB hb hk)
   | (with_reducible refine wpList_load1 (by kernel_rfl) _ _ rfl B 1 rfl _ _ hb _ hki ga2 ?_)
   | (with_reducible refine wpList_load1 (by kernel_rfl) _ _ rfl B 6 rfl _ _ hb _ e6 ga4 ?_))
  all_goals go_ret
  all_goals exact ⟨rfl, hk⟩
theorem wrongSize_any {w : World} {C : Array Value} {x : Ob} (h : ObD (LtN w) w C x) {n : Int} : Calls Try.prog 22 #[.agg C, .int .i64 n] w fun e w' => e = .returned (.int .i64 (wsz x n)) ∧ Below w.heap.size w w' := by
 have ga2 := Try.isAgg3
 have hki := h.kind
 have hqu := h.quota
 clear h
 obtain ⟨r, hr⟩ : ∃ r, rooN x.quota = r := ⟨_, rfl⟩
 have hroom := fun w => room_any x.quota w
 rw [hr] at hroom
 unfold wsz
 rw [hr]
 clear hr
 by_cases h1 : x.kind = 1
 ·rw [h1] at hki
  rw [if_pos h1]
  go_enter Try.func22, Try.ntmps22
  go_wp2_with (first
   | (with_reducible refine wpList_box rfl _ _ rfl C rfl ?_; intro B W hB hb hk)
   | (with_reducible refine wpList_load1 (by kernel_rfl) _ _ rfl B 1 rfl _ _ hb _ hki ga2 ?_)
   | (with_reducible refine wpList_load1 (by kernel_rfl) _ _ rfl B 3 rfl _ _ hb _ hqu ga2 ?_)
   | (go_at_call 27; (with_reducible refine (hroom _).mono ?_); rintro e w1 ⟨rfl, rfl⟩))
  all_goals go_ret
  all_goals exact ⟨rfl, hk⟩
 ·rw [if_neg h1]
  have h1' : (x.kind == 1) = false := by simpa using h1
  go_enter Try.func22, Try.ntmps22
  go_wp2_with (first
   | (with_reducible refine wpList_box rfl _ _ rfl C rfl ?_; intro B W hB hb hk)
   | (with_reducible refine wpList_load1 (by kernel_rfl) _ _ rfl B 1 rfl _ _ hb _ hki ga2 ?_)
   | (with_reducible refine wpList_load1 (by kernel_rfl) _ _ rfl B 3 rfl _ _ hb _ hqu ga2 ?_)
   | (go_at_call 27; (with_reducible refine (hroom _).mono ?_); rintro e w1 ⟨rfl, rfl⟩))
  all_goals go_ret
  all_goals exact ⟨rfl, hk⟩
def gtV (x : Ob) (p : Nat) : Int := if wpl x p = 0 then x.data.getD p 0 else 0
theorem wpl_cases (x : Ob) (p : Nat) : wpl x p = 0 ∧ x.kind = 1 ∧ p < x.data.length ∨ ¬ wpl x p = 0 ∧ ¬ (x.kind = 1 ∧ p < x.data.length) := by
 unfold wpl
 by_cases h1 : x.kind = 1
 ·rw [if_pos h1]
  by_cases h2 : (x.data.length : Int) ≤ p
  ·rw [if_pos h2]; exact .inr ⟨by omega, fun q => by omega⟩
  ·rw [if_neg h2]; exact .inl ⟨rfl, h1, by omega⟩
 ·rw [if_neg h1]; exact .inr ⟨by omega, fun q => h1 q.1⟩
theorem get_any {w : World} {C : Array Value} {x : Ob} (h : ObD (LtN w) w C x) {p : Nat} (hp : p < 18446744073709551616) : Calls Try.prog 11 #[.agg C, .int .u64 (p : Int)] w fun e w' => e = .returned (.tuple #[.int .u64 (gtV x p), .int .i64 (wpl x p)]) ∧ Below w.heap.size w w' := by
 have ga2 := Try.isAgg3
 have ga4 := Try.isAgg25
 have hki := h.kind
 have hz := h.size
 obtain ⟨a6, n6, c6, e6, l6⟩ := h.data
 have hn6 : Hid (x.data.length = n6) := l6.1
 have hc6 : n6 < 9223372036854775808 := by have := l6.2.1; have := l6.2.2.1.1; omega
 obtain ⟨r, hr⟩ : ∃ r, wpl x p = r := ⟨_, rfl⟩
 unfold gtV
 rw [hr]
 rcases wpl_cases x p with ⟨h1, h2, h3⟩ | ⟨h1, h2⟩
 ·have hp6 : p < n6 := by rw [← hn6.out]; exact h3
  obtain ⟨b, off, rfl, hbl, hcl⟩ := l6.2.2.2 (by omega)
  have hce := hcl p hp6
  have hp6' : (p : Int) < n6 := by omega
  have hpe : Hid ((p : Int).toNat = p) := by show _ = _; omega
  rw [hr] at h1
  subst h1
  rw [if_pos rfl]
  obtain ⟨u, hu⟩ : ∃ u, x.data.getD p 0 = u := ⟨_, rfl⟩
  rw [hu] at hce ⊢
  clear hcl l6
  go_enter Try.func11, Try.ntmps11
  go_wp2_with (first
   | (with_reducible refine wpList_box rfl _ _ rfl C rfl ?_; intro B W hB hb hk)
   | (with_reducible refine wpList_load_blk rfl _ _ rfl B rfl _ hb _ Try.underlying40 rfl (size40C hz) ?_)
   | (go_at_call 26; (with_reducible refine (wrongPlace_any (h.next hk) hp).mono ?_); rintro e w1 ⟨rfl, hk1⟩; replace hb := hb.next hk1; replace hk := hk.trans (hk1.mono hk.size); simp only [hr]; have hce1 : w1.cell? ⟨b, off + p, none⟩ = some (.int .u64 u) := (hk.cell (p := ⟨b, off + p, none⟩) hbl).trans hce)
   | (with_reducible refine wpList_load1 (by kernel_rfl) _ _ rfl B 6 rfl _ _ hb _ e6 ga4 ?_))
  exact bodyPost_ret (results_tmp2 Try.results11 _ _ _) rfl ⟨rfl, hk⟩
 ·rw [hr] at h1
  have h1' : (r == 0) = false := by simpa using h1
  rw [if_neg h1]
  go_enter Try.func11, Try.ntmps11
  go_wp2_with (first
   | (with_reducible refine wpList_box rfl _ _ rfl C rfl ?_; intro B W hB hb hk)
   | (with_reducible refine wpList_load_blk rfl _ _ rfl B rfl _ hb _ Try.underlying40 rfl (size40C hz) ?_)
   | (go_at_call 26; (with_reducible refine (wrongPlace_any (h.next hk) hp).mono ?_); rintro e w1 ⟨rfl, hk1⟩; replace hb := hb.next hk1; replace hk := hk.trans (hk1.mono hk.size); simp only [hr])
   | (with_reducible refine wpList_load1 (by kernel_rfl) _ _ rfl B 6 rfl _ _ hb _ e6 ga4 ?_))
  exact bodyPost_ret (results_tmp2 Try.results11 _ _ _) rfl ⟨rfl, hk⟩
theorem rsget_any {w : World} {C : Array Value} {x : Ob} (h : ObD (LtN w) w C x) {p : Nat} (hp : p < 18446744073709551616) : Calls Try.prog 12 #[.agg C, .int .u64 (p : Int)] w fun e w' => e = .returned (.tuple #[.int .u64 (gtV x p), .int .i64 (wpl x p)]) ∧ Below w.heap.size w w' := by
 have ga2 := Try.isAgg3
 have ga4 := Try.isAgg25
 have hki := h.kind
 have hz := h.size
 obtain ⟨a6, n6, c6, e6, l6⟩ := h.data
 have hn6 : Hid (x.data.length = n6) := l6.1
 have hc6 : n6 < 9223372036854775808 := by have := l6.2.1; have := l6.2.2.1.1; omega
 unfold gtV wpl
 rw [hn6.out]
 by_cases h1 : x.kind = 1
 ·rw [h1] at hki
  rw [if_pos h1]
  by_cases h2 : (n6 : Int) ≤ p
  ·rw [if_pos h2, if_neg (by omega)]
   go_enter Try.func12, Try.ntmps12
   go_wp2_with (first
    | (with_reducible refine wpList_box rfl _ _ rfl C rfl ?_; intro B W hB hb hk)
    | (with_reducible refine wpList_load1 (by kernel_rfl) _ _ rfl B 1 rfl _ _ hb _ hki ga2 ?_)
    | (with_reducible refine wpList_load1 (by kernel_rfl) _ _ rfl B 6 rfl _ _ hb _ e6 ga4 ?_))
   exact bodyPost_ret (results_tmp2 Try.results12 _ _ _) rfl ⟨rfl, hk⟩
  ·have hp6 : p < n6 := by omega
   rw [if_neg h2, if_pos rfl]
   obtain ⟨b, off, rfl, hbl, hcl⟩ := l6.2.2.2 (by omega)
   have hce := hcl p hp6
   have hp6' : (p : Int) < n6 := by omega
   obtain ⟨u, hu⟩ : ∃ u, x.data.getD p 0 = u := ⟨_, rfl⟩
   rw [hu] at hce ⊢
   clear hcl l6
   go_enter Try.func12, Try.ntmps12
   go_wp2_with (first
    | (with_reducible refine wpList_box rfl _ _ rfl C rfl ?_; intro B W hB hb hk; have hce1 : W.cell? ⟨b, off + p, none⟩ = some (.int .u64 u) := (hk.cell (p := ⟨b, off + p, none⟩) hbl).trans hce)
    | (with_reducible refine wpList_load1 (by kernel_rfl) _ _ rfl B 1 rfl _ _ hb _ hki ga2 ?_)
    | (with_reducible refine wpList_load1 (by kernel_rfl) _ _ rfl B 6 rfl _ _ hb _ e6 ga4 ?_))
   exact bodyPost_ret (results_tmp2 Try.results12 _ _ _) rfl ⟨rfl, hk⟩
 ·rw [if_neg h1, if_neg (by omega)]
  have h1' : (x.kind == 1) = false := by simpa using h1
  go_enter Try.func12, Try.ntmps12
  go_wp2_with (first
   | (with_reducible refine wpList_box rfl _ _ rfl C rfl ?_; intro B W hB hb hk)
   | (with_reducible refine wpList_load1 (by kernel_rfl) _ _ rfl B 1 rfl _ _ hb _ hki ga2 ?_)
   | (with_reducible refine wpList_load1 (by kernel_rfl) _ _ rfl B 6 rfl _ _ hb _ e6 ga4 ?_))
  exact bodyPost_ret (results_tmp2 Try.results12 _ _ _) rfl ⟨rfl, hk⟩
end Go.Proofs.Ytlaagheeemkklaa
namespace Go.Proofs.Ytlaagheeemkklaa
set_option maxRecDepth 100000
set_option maxHeartbeats 8000000
open Go.RowKit Go.Shelf
set_option linter.unusedVariables false
attribute [local go_sem] Oper.semAt_some

def zP : Array Value := #[.int .u64 0, .int .u64 0, .int .u64 0, .int .u64 0, .int .u64 0, .int .u64 0, .int .u64 0, .int .u64 0, .int .u64 0, .int .u64 0, .int .u64 0, .int .u64 0, .int .u64 0, .int .u64 0, .int .u64 0, .int .u64 0]
theorem zeroP (w : World) : (zeroValue 27).run Try.prog w = .ok (.agg zP) w := by kernel_rfl
theorem sizeP {C : Array Value} (h : C.size = 16) : (Try.prog.info? 27).map (·.size) = some C.size := by rw [h]; kernel_rfl
theorem zP_size : zP.size = 16 := rfl
theorem zP_one : zP.all (·.oneCell') = true := by kernel_rfl
theorem sizeU : (Try.prog.info? 22).map (·.size) = some 1 := by kernel_rfl
def pgC (x : Ob) (n : Int) : Array Value := (wordsC (pgL x n)).toArray
theorem pgL_len (x : Ob) (n : Int) : (pgL x n).length = 16 := by unfold pgL; split; exact ws_len _ _ _; simp
theorem pgC_size (x : Ob) (n : Int) : (pgC x n).size = 16 := by unfold pgC wordsC; simp [pgL_len]
theorem pgC_one (x : Ob) (n : Int) : (pgC x n).all (·.oneCell') = true := by
 refine all_ext fun j v hv => ?_
 refine wordsC_one (pgL x n) v ?_
 unfold pgC at hv
 rw [List.getElem?_toArray] at hv
 exact List.mem_of_getElem? hv
theorem pgC_zero {x : Ob} {n : Int} (h : x.kind = 1 → 0 ≤ n → (x.data.length : Int) / 16 < n) : pgC x n = zP := by
 have e : pgL x n = List.replicate 16 0 := by
  unfold pgL
  split
  ·next q => exact ws_none (by have := h q.1 q.2; omega)
  ·rfl
 unfold pgC
 rw [e]
 rfl
theorem pgC_copy {x : Ob} {k : Nat} (h : x.kind = 1) (hk : 16 * k ≤ x.data.length) : (splice zP.toList 0 (((wordsC x.data).drop (16 * k)).take 16)).toArray = pgC x (k : Int) := by
 unfold pgC pgL
 rw [if_pos ⟨h, by omega⟩, Int.toNat_natCast, ws_split hk]
 unfold splice wordsC
 rw [List.take_zero, List.nil_append, List.map_append, List.map_take, List.map_drop]
 congr 2
 rw [Nat.zero_add, List.length_take, List.length_drop, List.length_map, show zP.toList = List.replicate 16 (.int .u64 0) from rfl, List.drop_replicate, List.map_replicate]
 congr 1
 omega
theorem resP {fn : Func} {p : Tmp} (h : fn.results = #[.cell p 27]) {tmps : Array Value} {w : World} {B : Nat} {C : Array Value} (hp : tmps.getD p undef = .pointer (some ⟨B, 0, none⟩)) (hB : Blk w B C 27) (hs : C.size = 16) : (results fn tmps).run Try.prog w = .ok (.agg C) w :=
 results_cell_row h tmps w B 27 C (0, 0) _ hp hB Try.underlying27 rfl (sizeP hs)
theorem page_any {w : World} {C : Array Value} {x : Ob} (h : ObD (LtN w) w C x) {n : Int} : Calls Try.prog 18 #[.agg C, .int .i64 n] w fun e w' => e = .returned (.agg (pgC x n)) ∧ Below w.heap.size w w' := by
 have ga2 := Try.isAgg3
 have ga4 := Try.isAgg25
 have hki := h.kind
 have hz := h.size
 obtain ⟨a6, n6, c6, e6, l6⟩ := h.data
 have hn6 : Hid (x.data.length = n6) := l6.1
 have hc6 : n6 < 9223372036854775808 := by have := l6.2.1; have := l6.2.2.1.1; omega
 by_cases hc : x.kind = 1 ∧ 0 ≤ n ∧ n ≤ (n6 : Int) / 16
 ·obtain ⟨h1, h2, h3⟩ := hc
  obtain ⟨k, rfl⟩ := Int.eq_ofNat_of_zero_le h2
  rw [h1] at hki
  have hk6 : 16 * k ≤ n6 := by omega
  have hpg : Hid ((splice zP.toList 0 (((wordsC x.data).drop (16 * k)).take 16)).toArray = pgC x (k : Int)) := pgC_copy h1 (k := k) (by rw [hn6.out]; exact hk6)
  obtain ⟨cs, hcs⟩ : ∃ cs, Hid (((wordsC x.data).drop (16 * k)).take 16 = cs) := ⟨_, rfl⟩
  have hcl : cs.length = Nat.min (n6 - 16 * k) 16 := by rw [← hcs.out, List.length_take, List.length_drop]; unfold wordsC; rw [List.length_map, hn6.out]; exact Nat.min_comm _ _
  have hc1 : ∀ u ∈ cs, u.oneCell' = true := by rw [← hcs.out]; exact fun u hu => wordsC_one x.data u (List.mem_of_mem_drop (List.mem_of_mem_take hu))
  rw [hcs.out] at hpg
  go_enter Try.func18, Try.ntmps18
  go_wp2_with (first
   | (with_reducible refine wpList_box rfl _ _ rfl C rfl ?_; intro B W hB hb hk)
   | ((with_reducible refine wpList_alloc rfl _ rfl zP zeroP ?_); intro G W2 hB2 hG hk2; replace hb := hb.next hk2; have hR0 := hR; replace hR := hR.next hk2; replace hk := hk.trans (hk2.mono hk.size))
   | ((with_reducible refine wpList_alloc rfl _ rfl zP zeroP ?_); intro R W1 hB1 hR hk1; replace hb := hb.next hk1; replace hk := hk.trans (hk1.mono hk.size))
   | (with_reducible refine wpList_load1 (by kernel_rfl) _ _ rfl B 1 rfl _ _ hb _ hki ga2 ?_)
   | (with_reducible refine wpList_load1 (by kernel_rfl) _ _ rfl B 6 rfl _ _ hb _ e6 ga4 ?_))
  have hg : W2.drew.heap[G]? = some (.cells zP.toList.toArray 27 (0, 0)) := hG
  have h6c : W2.cell? ⟨B, 6, none⟩ = some (.slice a6 n6 c6) := (hb.cell 6).trans e6
  have hGw : w.heap.size ≤ G := by have := hB2.out; have := hk.size; have := hB.out; have := hB1.out; omega
  have hGl := hG.lt
  have hRw : w.heap.size ≤ R := by have := hB1.out; have := hB.out; omega
  have hkd : Below w.heap.size w W2.drew := hk.drew
  obtain ⟨j, hj⟩ : ∃ j, Hid (16 * k = j) := ⟨_, rfl⟩
  have hw : IntKind.i64.wrap (16 * (k : Int)) = (j : Int) := by rw [← hj.out, IntKind.wrap_i64]; omega
  have hj6 : (j : Int) ≤ n6 := by rw [← hj.out]; omega
  have hj0 : 0 ≤ (j : Int) := by omega
  have hcl' : cs.length = Nat.min (n6 - j) 16 := by rw [← hj.out]; exact hcl
  have hfit : 0 + cs.length ≤ zP.toList.length := by rw [hcl', show zP.toList.length = 16 from rfl]; have := Nat.min_le_right (n6 - j) 16; simp only [Nat.min_def] at this ⊢; split <;> omega
  have hpos : 0 < cs.length → (some ⟨G, 0, none⟩ : Option Addr) = some ⟨G, 0, none⟩ ∧ ∃ ad, (if c6 = j then a6 else Option.map (fun x => x.add j) a6) = some ad ∧ ∀ i v, cs[i]? = some v → W2.drew.cell? (ad.add i) = some v := by
   intro h0
   have hn0 : j < n6 := by rw [hcl'] at h0; simp only [Nat.min_def] at h0; split at h0 <;> omega
   obtain ⟨b, off, rfl, hbl, hce⟩ := l6.2.2.2 (by omega)
   refine ⟨rfl, ⟨b, off + j, none⟩, ?_, fun i v hv => ?_⟩
   ·rw [if_neg (by have := l6.2.1; omega), Option.map_some, Addr.add_mid]
   ·rw [Addr.add_mid]
    rw [← hcs.out] at hv
    have hi : i < 16 := by
     have := (List.getElem?_eq_some_iff.1 hv).1
     rw [List.length_take] at this; omega
    rw [List.getElem?_take_of_lt hi, List.getElem?_drop] at hv
    unfold wordsC at hv
    rw [List.getElem?_map, Option.map_eq_some_iff] at hv
    obtain ⟨u, hu, rfl⟩ := hv
    have hlt := (List.getElem?_eq_some_iff.1 hu).1
    rw [hn6.out] at hlt
    rw [hj.out] at hlt hu
    have := hce (j + i) hlt
    rw [List.getD_eq_getElem?_getD, hu] at this
    rw [Nat.add_assoc]
    exact (hkd.cell (p := ⟨b, off + (j + i), none⟩) hbl).trans this
  clear hcs hcl l6
  go_region_law (refine step_copy_splice rfl (.tmp 21) (.tmp 26) 25 25 rfl 22 Try.underlying25 sizeU (some ⟨G, 0, none⟩) (if c6 = j then a6 else Option.map (fun x => x.add j) a6) 16 16 (n6 - j) (c6 - j) rfl rfl G 0 zP.toList 27 hg cs hcl' hpos hfit hc1 G W2.drew (Below.refl _ _) (Nat.le_refl _) ?_; intro w4 hg4 hb4)
  have hg5 : Blk w4 G (pgC x (k : Int)) 27 := by rw [← hpg.out]; exact hg4.out
  have hRG : R < G := by have := hB2.out; have := hR0.lt; omega
  have hR5 : Blk w4 R zP 27 := (hb4.block R hRG).trans hR
  have hk5 : Below w.heap.size w w4 := hkd.trans (hb4.mono hGw)
  clear hg4 hpg
  go_wp2_with (first
   | (with_reducible refine wpList_load_blk rfl _ _ rfl G rfl _ hg5 _ Try.underlying27 rfl (sizeP (pgC_size _ _)) ?_)
   | ((with_reducible refine wpList_store_blk rfl _ _ _ rfl R rfl (pgC x (k : Int)) rfl zP hR5 (sizeP (pgC_size _ _)) (zP_size.trans (pgC_size _ _).symm) (pgC_one _ _) ?_); intro W6 hR6 o6))
  all_goals exact bodyPost_ret (v := .agg _) (resP Try.results18 rfl hR6 (pgC_size _ _)) rfl ⟨rfl, o6.below _ _ hRw hk5⟩
 ·have hpz := pgC_zero (x := x) (n := n) (fun q1 q2 => by rw [hn6.out]; exact Int.not_le.1 fun q3 => hc ⟨q1, q2, q3⟩)
  rw [hpz]
  by_cases h1 : x.kind = 1
  ·rw [h1] at hki
   by_cases h2 : 0 ≤ n
   ·have h3 : ¬ n ≤ (n6 : Int) / 16 := fun q => hc ⟨h1, h2, q⟩
    go_enter Try.func18, Try.ntmps18
    go_wp2_with (first
     | (with_reducible refine wpList_box rfl _ _ rfl C rfl ?_; intro B W hB hb hk)
     | ((with_reducible refine wpList_alloc rfl _ rfl zP zeroP ?_); intro G W2 hB2 hG hk2; replace hb := hb.next hk2; replace hR := hR.next hk2; replace hk := hk.trans (hk2.mono hk.size))
     | ((with_reducible refine wpList_alloc rfl _ rfl zP zeroP ?_); intro R W1 hB1 hR hk1; replace hb := hb.next hk1; replace hk := hk.trans (hk1.mono hk.size))
     | (with_reducible refine wpList_load1 (by kernel_rfl) _ _ rfl B 1 rfl _ _ hb _ hki ga2 ?_)
     | (with_reducible refine wpList_load1 (by kernel_rfl) _ _ rfl B 6 rfl _ _ hb _ e6 ga4 ?_)
     | (with_reducible refine wpList_load_blk rfl _ _ rfl G rfl _ hG _ Try.underlying27 rfl (sizeP zP_size) ?_)
     | ((with_reducible refine wpList_store_blk rfl _ _ _ rfl R rfl zP rfl zP hR (sizeP zP_size) rfl zP_one ?_); intro W6 hR6 o6))
    have hRw : w.heap.size ≤ R := by have := hB1.out; have := hB.out; omega
    exact bodyPost_ret (v := .agg _) (resP Try.results18 rfl hR6 zP_size) rfl ⟨rfl, o6.below _ _ hRw hk⟩
   ·go_enter Try.func18, Try.ntmps18
    go_wp2_with (first
     | (with_reducible refine wpList_box rfl _ _ rfl C rfl ?_; intro B W hB hb hk)
     | ((with_reducible refine wpList_alloc rfl _ rfl zP zeroP ?_); intro G W2 hB2 hG hk2; replace hb := hb.next hk2; replace hR := hR.next hk2; replace hk := hk.trans (hk2.mono hk.size))
     | ((with_reducible refine wpList_alloc rfl _ rfl zP zeroP ?_); intro R W1 hB1 hR hk1; replace hb := hb.next hk1; replace hk := hk.trans (hk1.mono hk.size))
     | (with_reducible refine wpList_load1 (by kernel_rfl) _ _ rfl B 1 rfl _ _ hb _ hki ga2 ?_)
     | (with_reducible refine wpList_load1 (by kernel_rfl) _ _ rfl B 6 rfl _ _ hb _ e6 ga4 ?_)
     | (with_reducible refine wpList_load_blk rfl _ _ rfl G rfl _ hG _ Try.underlying27 rfl (sizeP zP_size) ?_)
     | ((with_reducible refine wpList_store_blk rfl _ _ _ rfl R rfl zP rfl zP hR (sizeP zP_size) rfl zP_one ?_); intro W6 hR6 o6))
    have hRw : w.heap.size ≤ R := by have := hB1.out; have := hB.out; omega
    exact bodyPost_ret (v := .agg _) (resP Try.results18 rfl hR6 zP_size) rfl ⟨rfl, o6.below _ _ hRw hk⟩
  ·have h1' : (x.kind == 1) = false := by simpa using h1
   go_enter Try.func18, Try.ntmps18
   go_wp2_with (first
    | (with_reducible refine wpList_box rfl _ _ rfl C rfl ?_; intro B W hB hb hk)
    | ((with_reducible refine wpList_alloc rfl _ rfl zP zeroP ?_); intro G W2 hB2 hG hk2; replace hb := hb.next hk2; replace hR := hR.next hk2; replace hk := hk.trans (hk2.mono hk.size))
    | ((with_reducible refine wpList_alloc rfl _ rfl zP zeroP ?_); intro R W1 hB1 hR hk1; replace hb := hb.next hk1; replace hk := hk.trans (hk1.mono hk.size))
    | (with_reducible refine wpList_load1 (by kernel_rfl) _ _ rfl B 1 rfl _ _ hb _ hki ga2 ?_)
    | (with_reducible refine wpList_load1 (by kernel_rfl) _ _ rfl B 6 rfl _ _ hb _ e6 ga4 ?_)
    | (with_reducible refine wpList_load_blk rfl _ _ rfl G rfl _ hG _ Try.underlying27 rfl (sizeP zP_size) ?_)
    | ((with_reducible refine wpList_store_blk rfl _ _ _ rfl R rfl zP rfl zP hR (sizeP zP_size) rfl zP_one ?_); intro W6 hR6 o6))
   have hRw : w.heap.size ≤ R := by have := hB1.out; have := hB.out; omega
   exact bodyPost_ret (v := .agg _) (resP Try.results18 rfl hR6 zP_size) rfl ⟨rfl, o6.below _ _ hRw hk⟩
end Go.Proofs.Ytlaagheeemkklaa
namespace Go.Proofs.Ytlaagheeemkklaa
set_option maxRecDepth 100000
set_option maxHeartbeats 8000000
open Go.RowKit Go.Shelf
set_option linter.unusedVariables false
attribute [local go_sem] Oper.semAt_some

def PgK (x : Ob) (n : Int) (k : Nat) (A : Array Value) : Prop := A.size = 16 ∧ ∀ i, i < 16 → A[i]? = some (.int .u64 (if i < k then (pgL x n).getD i 0 else 0))
theorem PgK.zero (x : Ob) (n : Int) : PgK x n 0 zP := ⟨rfl, fun i hi => by
 rw [if_neg (by omega)]
 rcases i with _ | _ | _ | _ | _ | _ | _ | _ | _ | _ | _ | _ | _ | _ | _ | _ | i
 all_goals first | rfl | (exfalso; omega)⟩
theorem PgK.all {x : Ob} {n : Int} {A : Array Value} (h : PgK x n 16 A) : A = pgC x n := by
 apply Array.ext_getElem?
 intro i
 by_cases hi : i < 16
 ·rw [h.2 i hi, if_pos hi]
  unfold pgC wordsC
  rw [List.getElem?_toArray, List.getElem?_map, List.getElem?_eq_getElem (by rw [pgL_len]; exact hi), List.getD_eq_getElem?_getD, List.getElem?_eq_getElem (by rw [pgL_len]; exact hi)]; rfl
 ·rw [Array.getElem?_eq_none (by rw [h.1]; omega), Array.getElem?_eq_none (by rw [pgC_size]; omega)]
theorem PgK.set {x : Ob} {n : Int} {k : Nat} {A : Array Value} {u : Int} (h : PgK x n k A) (hk : k < 16) (hu : (pgL x n).getD k 0 = u) : PgK x n (k + 1) (A.setIfInBounds k (.int .u64 u)) := by
 refine ⟨by simpa using h.1, fun i hi => ?_⟩
 rw [set_at (by rw [h.1]; exact hk)]
 by_cases e : k = i
 ·subst e
  rw [if_pos rfl, if_pos (by omega), hu]
 ·rw [if_neg e, h.2 i hi]
  by_cases q : i < k
  ·rw [if_pos q, if_pos (by omega)]
  ·rw [if_neg q, if_neg (by omega)]
theorem PgK.skip {x : Ob} {n : Int} {k : Nat} {A : Array Value} (h : PgK x n k A) (hu : (pgL x n).getD k 0 = 0) : PgK x n (k + 1) A := by
 refine ⟨h.1, fun i hi => ?_⟩
 rw [h.2 i hi]
 by_cases q : i < k
 ·rw [if_pos q, if_pos (by omega)]
 ·rw [if_neg q]
  by_cases e : i = k
  ·subst e; rw [if_pos (by omega), hu]
  ·rw [if_neg (by omega)]
theorem pg_no {x : Ob} {n : Int} {k : Nat} (h : ¬ (x.kind = 1 ∧ 0 ≤ n ∧ 16 * n + k < x.data.length)) (hk : k < 16) : (pgL x n).getD k 0 = 0 := by
 unfold pgL
 split
 ·next q =>
  rw [ws_at hk, List.getD_eq_getElem?_getD, List.getElem?_eq_none]; rfl
  have := fun r => h ⟨q.1, q.2, r⟩
  omega
 ·rw [List.getD_eq_getElem?_getD, List.getElem?_replicate]; split <;> rfl
theorem pg_yes {x : Ob} {m k : Nat} (h : x.kind = 1) (hk : k < 16) : (pgL x (m : Int)).getD k 0 = x.data.getD (16 * m + k) 0 := by
 unfold pgL
 rw [if_pos ⟨h, by omega⟩, ws_at hk, Int.toNat_natCast]
theorem rpage_any {w : World} {C : Array Value} {x : Ob} (h : ObD (LtN w) w C x) {n : Int} (hl : x.data.length ≤ 16777216) : Calls Try.prog 19 #[.agg C, .int .i64 n] w fun e w' => e = .returned (.agg (pgC x n)) ∧ Below w.heap.size w w' := by
 have ga2 := Try.isAgg3
 have ga4 := Try.isAgg25
 have hki := h.kind
 have hz := h.size
 obtain ⟨a6, n6, c6, e6, l6⟩ := h.data
 have hn6 : Hid (x.data.length = n6) := l6.1
 have hlH : Hid (n6 ≤ 16777216) := by rw [← hn6.out]; exact hl
 clear hl
 by_cases h1 : x.kind = 1
 ·rw [h1] at hki
  by_cases h2 : 0 ≤ n
  ·by_cases h3 : n < 1048576
   ·go_enter Try.func19, Try.ntmps19
    go_wp2_with (first
     | (with_reducible refine wpList_box rfl _ _ rfl C rfl ?_; intro B W hB hb hk)
     | ((with_reducible refine wpList_alloc rfl _ rfl zP zeroP ?_); intro G W2 hB2 hG hk2; replace hb := hb.next hk2; have hR0 := hR; replace hR := hR.next hk2; replace hk := hk.trans (hk2.mono hk.size))
     | ((with_reducible refine wpList_alloc rfl _ rfl zP zeroP ?_); intro R W1 hB1 hR hk1; replace hb := hb.next hk1; replace hk := hk.trans (hk1.mono hk.size)))
    have hRw : w.heap.size ≤ R ∧ R < G ∧ B < R := by have := hB1.out; have := hB.out; have := hB2.out; have := hR0.lt; omega
    go_loopw [6] (fun i wr => ∃ (k : Nat) (A : Array Value), k ≤ 16 ∧ i = .int .i64 k ∧ Hid (PgK x n k A) ∧ Blk wr G A 27 ∧ Blk wr R zP 27 ∧ Blk wr B C 40 ∧ Below w.heap.size w wr) (fun i _ => 16 - (intOf i).toNat)
    case atStart => exact ⟨0, zP, Nat.zero_le _, rfl, PgK.zero x n, hG, hR, hb, hk⟩
    case round =>
     obtain ⟨k, A, hk16, rfl, hA, hGr, hRr, hbr, hkr⟩ := hrel
     by_cases hlt : k < 16
     ·have hlt' : (k : Int) < 16 := by omega
      have hwm : IntKind.i64.wrap (16 * n) = 16 * n := by rw [IntKind.wrap_i64]; omega
      obtain ⟨j, hj⟩ : ∃ j : Nat, Hid (16 * n + k = j) := by
       obtain ⟨j, hj⟩ := Int.eq_ofNat_of_zero_le (a := 16 * n + k) (by omega)
       exact ⟨j, hj⟩
      have hwa : IntKind.i64.wrap (16 * n + k) = (j : Int) := by rw [hj.out, IntKind.wrap_i64]; have := hj.out; omega
      by_cases hq : j < n6
      ·obtain ⟨b, off, rfl, hbl, hcl⟩ := l6.2.2.2 (by omega)
       have hce := hcl j hq
       have hpy : x.data.getD j 0 = (pgL x n).getD k 0 := by
        obtain ⟨m, rfl⟩ := Int.eq_ofNat_of_zero_le h2
        rw [pg_yes h1 hlt]
        congr 1
        have := hj.out
        omega
       rw [hpy] at hce
       have hce1 : wr.cell? ⟨b, off + j, none⟩ = some (.int .u64 ((pgL x n).getD k 0)) := (hkr.cell (p := ⟨b, off + j, none⟩) hbl).trans hce
       obtain ⟨u, hu⟩ : ∃ u, Hid ((pgL x n).getD k 0 = u) := ⟨_, rfl⟩
       rw [hu.out] at hce1
       clear hce hcl hpy
       have hq' : (j : Int) < n6 := by omega
       have hkA : k < A.size := by rw [hA.out.1]; exact hlt
       go_wp2_with (first
        | (with_reducible refine wpList_load1 (by kernel_rfl) _ _ rfl B 1 rfl _ _ hbr _ hki ga2 ?_)
        | (with_reducible refine wpList_load1 (by kernel_rfl) _ _ rfl B 6 rfl _ _ hbr _ e6 ga4 ?_)
        | ((with_reducible refine wpList_store_cell rfl _ _ _ rfl G k rfl (.int .u64 u) rfl rfl _ _ hGr sizeU hkA rfl ?_); intro W6 hG6 o6))
       go_roundw
       case rel => exact ⟨k + 1, _, by omega, by go_num, hA.out.set hlt hu.out, hG6, hRr.other o6 (by omega), hbr.other o6 (by omega), o6.below _ _ (by omega) hkr⟩
       case measure => simp [intOf]; omega
      ·have hq' : ¬ (j : Int) < n6 := by omega
       have hno : Hid ((pgL x n).getD k 0 = 0) := pg_no (by rw [hn6.out]; have := hj.out; omega) hlt
       go_wp2_with (first
        | (with_reducible refine wpList_load1 (by kernel_rfl) _ _ rfl B 1 rfl _ _ hbr _ hki ga2 ?_)
        | (with_reducible refine wpList_load1 (by kernel_rfl) _ _ rfl B 6 rfl _ _ hbr _ e6 ga4 ?_))
       go_roundw
       case rel => exact ⟨k + 1, A, by omega, by go_num, hA.out.skip hno.out, hGr, hRr, hbr, hkr⟩
       case measure => simp [intOf]; omega
     ·obtain rfl : k = 16 := by omega
      obtain rfl := hA.out.all
      go_wp2_with (first
       | (with_reducible refine wpList_load_blk rfl _ _ rfl G rfl _ hGr _ Try.underlying27 rfl (sizeP (pgC_size _ _)) ?_)
       | ((with_reducible refine wpList_store_blk rfl _ _ _ rfl R rfl (pgC x n) rfl zP hRr (sizeP (pgC_size _ _)) (zP_size.trans (pgC_size _ _).symm) (pgC_one _ _) ?_); intro W6 hR6 o6))
      exact bodyPost_ret (v := .agg _) (resP Try.results19 rfl hR6 (pgC_size _ _)) rfl ⟨rfl, o6.below _ _ hRw.1 hkr⟩
   ·go_enter Try.func19, Try.ntmps19
    go_wp2_with (first
     | (with_reducible refine wpList_box rfl _ _ rfl C rfl ?_; intro B W hB hb hk)
     | ((with_reducible refine wpList_alloc rfl _ rfl zP zeroP ?_); intro G W2 hB2 hG hk2; replace hb := hb.next hk2; have hR0 := hR; replace hR := hR.next hk2; replace hk := hk.trans (hk2.mono hk.size))
     | ((with_reducible refine wpList_alloc rfl _ rfl zP zeroP ?_); intro R W1 hB1 hR hk1; replace hb := hb.next hk1; replace hk := hk.trans (hk1.mono hk.size)))
    have hRw : w.heap.size ≤ R ∧ R < G ∧ B < R := by have := hB1.out; have := hB.out; have := hB2.out; have := hR0.lt; omega
    go_loopw [6] (fun i wr => ∃ (k : Nat) (A : Array Value), k ≤ 16 ∧ i = .int .i64 k ∧ Hid (PgK x n k A) ∧ Blk wr G A 27 ∧ Blk wr R zP 27 ∧ Blk wr B C 40 ∧ Below w.heap.size w wr) (fun i _ => 16 - (intOf i).toNat)
    case atStart => exact ⟨0, zP, Nat.zero_le _, rfl, PgK.zero x n, hG, hR, hb, hk⟩
    case round =>
     obtain ⟨k, A, hk16, rfl, hA, hGr, hRr, hbr, hkr⟩ := hrel
     by_cases hlt : k < 16
     ·have hlt' : (k : Int) < 16 := by omega
      have hno : Hid ((pgL x n).getD k 0 = 0) := pg_no (by rw [hn6.out]; have := hlH.out; omega) hlt
      go_wp2_with (first
       | (with_reducible refine wpList_load1 (by kernel_rfl) _ _ rfl B 1 rfl _ _ hbr _ hki ga2 ?_)
       | (with_reducible refine wpList_load1 (by kernel_rfl) _ _ rfl B 6 rfl _ _ hbr _ e6 ga4 ?_))
      go_roundw
      case rel => exact ⟨k + 1, A, by omega, by go_num, hA.out.skip hno.out, hGr, hRr, hbr, hkr⟩
      case measure => simp [intOf]; omega
     ·obtain rfl : k = 16 := by omega
      obtain rfl := hA.out.all
      go_wp2_with (first
       | (with_reducible refine wpList_load_blk rfl _ _ rfl G rfl _ hGr _ Try.underlying27 rfl (sizeP (pgC_size _ _)) ?_)
       | ((with_reducible refine wpList_store_blk rfl _ _ _ rfl R rfl (pgC x n) rfl zP hRr (sizeP (pgC_size _ _)) (zP_size.trans (pgC_size _ _).symm) (pgC_one _ _) ?_); intro W6 hR6 o6))
      exact bodyPost_ret (v := .agg _) (resP Try.results19 rfl hR6 (pgC_size _ _)) rfl ⟨rfl, o6.below _ _ hRw.1 hkr⟩
  ·go_enter Try.func19, Try.ntmps19
   go_wp2_with (first
    | (with_reducible refine wpList_box rfl _ _ rfl C rfl ?_; intro B W hB hb hk)
    | ((with_reducible refine wpList_alloc rfl _ rfl zP zeroP ?_); intro G W2 hB2 hG hk2; replace hb := hb.next hk2; have hR0 := hR; replace hR := hR.next hk2; replace hk := hk.trans (hk2.mono hk.size))
    | ((with_reducible refine wpList_alloc rfl _ rfl zP zeroP ?_); intro R W1 hB1 hR hk1; replace hb := hb.next hk1; replace hk := hk.trans (hk1.mono hk.size)))
   have hRw : w.heap.size ≤ R ∧ R < G ∧ B < R := by have := hB1.out; have := hB.out; have := hB2.out; have := hR0.lt; omega
   go_loopw [6] (fun i wr => ∃ (k : Nat) (A : Array Value), k ≤ 16 ∧ i = .int .i64 k ∧ Hid (PgK x n k A) ∧ Blk wr G A 27 ∧ Blk wr R zP 27 ∧ Blk wr B C 40 ∧ Below w.heap.size w wr) (fun i _ => 16 - (intOf i).toNat)
   case atStart => exact ⟨0, zP, Nat.zero_le _, rfl, PgK.zero x n, hG, hR, hb, hk⟩
   case round =>
    obtain ⟨k, A, hk16, rfl, hA, hGr, hRr, hbr, hkr⟩ := hrel
    by_cases hlt : k < 16
    ·have hlt' : (k : Int) < 16 := by omega
     have hno : Hid ((pgL x n).getD k 0 = 0) := pg_no (fun q => absurd q.2.1 (by omega)) hlt
     go_wp2_with (first
      | (with_reducible refine wpList_load1 (by kernel_rfl) _ _ rfl B 1 rfl _ _ hbr _ hki ga2 ?_)
      | (with_reducible refine wpList_load1 (by kernel_rfl) _ _ rfl B 6 rfl _ _ hbr _ e6 ga4 ?_))
     go_roundw
     case rel => exact ⟨k + 1, A, by omega, by go_num, hA.out.skip hno.out, hGr, hRr, hbr, hkr⟩
     case measure => simp [intOf]; omega
    ·obtain rfl : k = 16 := by omega
     obtain rfl := hA.out.all
     go_wp2_with (first
      | (with_reducible refine wpList_load_blk rfl _ _ rfl G rfl _ hGr _ Try.underlying27 rfl (sizeP (pgC_size _ _)) ?_)
      | ((with_reducible refine wpList_store_blk rfl _ _ _ rfl R rfl (pgC x n) rfl zP hRr (sizeP (pgC_size _ _)) (zP_size.trans (pgC_size _ _).symm) (pgC_one _ _) ?_); intro W6 hR6 o6))
     exact bodyPost_ret (v := .agg _) (resP Try.results19 rfl hR6 (pgC_size _ _)) rfl ⟨rfl, o6.below _ _ hRw.1 hkr⟩
 ·have h1' : (x.kind == 1) = false := by simpa using h1
  go_enter Try.func19, Try.ntmps19
  go_wp2_with (first
   | (with_reducible refine wpList_box rfl _ _ rfl C rfl ?_; intro B W hB hb hk)
   | ((with_reducible refine wpList_alloc rfl _ rfl zP zeroP ?_); intro G W2 hB2 hG hk2; replace hb := hb.next hk2; have hR0 := hR; replace hR := hR.next hk2; replace hk := hk.trans (hk2.mono hk.size))
   | ((with_reducible refine wpList_alloc rfl _ rfl zP zeroP ?_); intro R W1 hB1 hR hk1; replace hb := hb.next hk1; replace hk := hk.trans (hk1.mono hk.size)))
  have hRw : w.heap.size ≤ R ∧ R < G ∧ B < R := by have := hB1.out; have := hB.out; have := hB2.out; have := hR0.lt; omega
  go_loopw [6] (fun i wr => ∃ (k : Nat) (A : Array Value), k ≤ 16 ∧ i = .int .i64 k ∧ Hid (PgK x n k A) ∧ Blk wr G A 27 ∧ Blk wr R zP 27 ∧ Blk wr B C 40 ∧ Below w.heap.size w wr) (fun i _ => 16 - (intOf i).toNat)
  case atStart => exact ⟨0, zP, Nat.zero_le _, rfl, PgK.zero x n, hG, hR, hb, hk⟩
  case round =>
   obtain ⟨k, A, hk16, rfl, hA, hGr, hRr, hbr, hkr⟩ := hrel
   by_cases hlt : k < 16
   ·have hlt' : (k : Int) < 16 := by omega
    have hno : Hid ((pgL x n).getD k 0 = 0) := pg_no (fun q => h1 q.1) hlt
    go_wp2_with (first
     | (with_reducible refine wpList_load1 (by kernel_rfl) _ _ rfl B 1 rfl _ _ hbr _ hki ga2 ?_)
     | (with_reducible refine wpList_load1 (by kernel_rfl) _ _ rfl B 6 rfl _ _ hbr _ e6 ga4 ?_))
    go_roundw
    case rel => exact ⟨k + 1, A, by omega, by go_num, hA.out.skip hno.out, hGr, hRr, hbr, hkr⟩
    case measure => simp [intOf]; omega
   ·obtain rfl : k = 16 := by omega
    obtain rfl := hA.out.all
    go_wp2_with (first
     | (with_reducible refine wpList_load_blk rfl _ _ rfl G rfl _ hGr _ Try.underlying27 rfl (sizeP (pgC_size _ _)) ?_)
     | ((with_reducible refine wpList_store_blk rfl _ _ _ rfl R rfl (pgC x n) rfl zP hRr (sizeP (pgC_size _ _)) (zP_size.trans (pgC_size _ _).symm) (pgC_one _ _) ?_); intro W6 hR6 o6))
    exact bodyPost_ret (v := .agg _) (resP Try.results19 rfl hR6 (pgC_size _ _)) rfl ⟨rfl, o6.below _ _ hRw.1 hkr⟩
end Go.Proofs.Ytlaagheeemkklaa
namespace Go.Proofs.Ytlaagheeemkklaa
set_option maxRecDepth 100000
set_option maxHeartbeats 8000000
open Go.RowKit Go.Shelf
set_option linter.unusedVariables false
attribute [local go_sem] Oper.semAt_some

theorem wordsC_app (L M : List Int) : wordsC (L ++ M) = wordsC L ++ wordsC M := by unfold wordsC; exact List.map_append
theorem pg_ws {x : Ob} {k : Nat} (h : x.kind = 1) : pgL x (k : Int) = ws x.data (16 * k) 16 := by unfold pgL; rw [if_pos ⟨h, by omega⟩, Int.toNat_natCast]
theorem row_blk {W : World} {G : Nat} {L : List Int} {t : TypeId} (h : Blk W G (wordsC L).toArray t) (hl : L.length = 16) : RowC 1 (fun b => b = G) W (some ⟨G, 0, none⟩) 16 16 (wordsC L) :=
 ⟨by unfold wordsC; rw [List.length_map, hl], Nat.le_refl _, ⟨by omega, fun e => by cases e⟩, fun _ => ⟨G, 0, rfl, rfl, by have := h.range0; simpa using this⟩⟩
theorem CtD.take {D : Nat → Prop} {w : World} {ao : Option Addr} {n cap m : Nat} {L : List Int} (h : CtD D w ao n cap L) (hm : m ≤ n) : CtD D w ao m cap (L.take m) := by
 refine ⟨by rw [List.length_take, h.1]; omega, Nat.le_trans hm h.2.1, h.2.2.1, fun h0 => ?_⟩
 obtain ⟨b, off, e, hb, hc⟩ := h.2.2.2 (by omega)
 refine ⟨b, off, e, hb, fun i hi => ?_⟩
 rw [hc i (by omega)]
 rw [List.getD_eq_getElem?_getD, List.getD_eq_getElem?_getD, List.getElem?_take_of_lt hi]
theorem first_any {w : World} {C : Array Value} {x : Ob} (h : ObD (LtN w) w C x) (h1 : x.kind = 1) {m : Nat} (hm : m ≤ 1000000) : Calls Try.prog 23 #[.agg C, .int .i64 (m : Int)] w fun e w' => ∃ ao cap, e = .returned (.slice ao m cap) ∧ CtD (New w w') w' ao m cap (ws x.data 0 m) ∧ Below w.heap.size w w' := by
 have hz := h.size
 have hmH : Hid (m ≤ 1000000) := hm
 clear hm
 go_enter Try.func23, Try.ntmps23
 go_wp2_with (first
  | (with_reducible refine wpList_box rfl _ _ rfl C rfl ?_; intro B W hB hb hk))
 obtain ⟨N, hN⟩ : ∃ N, Hid (W.heap.size = N) := ⟨_, rfl⟩
 have hBN : B < N ∧ w.heap.size ≤ B := by have := hB.out; have := hN.out; omega
 have hk0 : Below N W W := Below.refl _ _
 go_loopw [5, 6] (fun v i wr => ∃ k : Nat, Hid (16 * k < m + 16) ∧ i = .int .i64 k ∧ wr.ownsRow N 22 1 v (16 * k) (wordsC (ws x.data 0 (16 * k))) ∧ Below N W wr) (fun _ i _ => m + 16 - 16 * (intOf i).toNat)
 case atStart => exact ⟨0, (by show 16 * 0 < m + 16; omega), rfl, World.ownsRow_nil _ _ _ _, hk0⟩
 case round =>
  obtain ⟨k, hkm, rfl, hrow, hkr⟩ := hrel
  have hbr : Blk wr B C 40 := (hkr.block B hBN.1).trans hb
  have hkw : Below w.heap.size w wr := hk.trans (hkr.mono (by have := hBN; omega))
  obtain ⟨ao, cap, rfl, hrc⟩ := RowC.of_owns hrow
  have hk63 : k < 1000000 := by have := hkm.out; have := hmH.out; omega
  by_cases hlt : 16 * k < m
  ·have hlt' : 16 * (k : Int) < m := by omega
   have hNr : N ≤ wr.heap.size := by rw [← hN.out]; exact hkr.size
   go_wp2_with (first
    | (with_reducible refine wpList_load_blk rfl _ _ rfl B rfl _ hbr _ Try.underlying40 rfl (size40C hz) ?_)
    | (go_at_call 18; (with_reducible refine (page_any (h.next hkw)).mono ?_); rintro e w1 ⟨rfl, hb1⟩)
    | ((with_reducible refine wpList_alloc rfl _ rfl zP zeroP ?_); intro G W2 hB2 hG hk2)
    | ((with_reducible refine wpList_store_blk rfl _ _ _ rfl G rfl (pgC x (k : Int)) rfl zP hG (sizeP (pgC_size _ _)) (zP_size.trans (pgC_size _ _).symm) (pgC_one _ _) ?_); intro W3 hG3 o3; have hNw : N ≤ w1.heap.size := (Nat.le_trans hNr hb1.size); have hGl : w1.heap.size = G := hB2.out.1; have hrow3 : W3.ownsRow N 22 1 (.slice ao (16 * k) cap) (16 * k) (wordsC (ws x.data 0 (16 * k))) := owns_later hrow fun b _ hl => ((o3.block b (by have := hb1.size; omega)).trans (hk2.block b (Nat.lt_of_lt_of_le hl hb1.size))).trans (hb1.block b hl))
    | (at_builtin; refine wpList_append_row infoW Try.underlying25 rfl (by omega) rfl _ _ rfl N _ (16 * k) _ rfl hrow3 _ _ 16 16 (wordsC (pgL x (k : Int))) rfl (row_blk hG3 (pgL_len _ _)) (wordsC_one _) (by unfold maxLen; have := hkm.out; have := hmH.out; omega) (by have := hkm.out; have := hmH.out; omega) (by rw [o3.size]; exact Nat.le_trans hNw hk2.size) ?_; intro v' w4 hown hgrow))
   have hb4 : Below N W w4 := by
    have k1 : Below N W w1 := hkr.trans (hb1.mono hNr)
    have k2 : Below N W W2 := k1.trans (hk2.mono hNw)
    have k3 : Below N W W3 := o3.below _ _ (by omega) k2
    exact k3.grown hgrow (by rw [o3.size]; exact Nat.le_trans hNw hk2.size) (fun j e => (hrow3.lt j e).1)
   have hown4 : w4.ownsRow N 22 1 v' (16 * (k + 1)) (wordsC (ws x.data 0 (16 * (k + 1)))) := by
    rw [pg_ws h1, ← wordsC_app] at hown
    have e := ws_app x.data 0 (16 * k) 16
    rw [Nat.zero_add] at e
    rw [e] at hown
    exact hown
   clear hown hgrow
   obtain ⟨a4, c4, rfl, _⟩ := RowC.of_owns hown4
   go_wp2
   go_roundw
   case rel => exact ⟨k + 1, (by show 16 * (k + 1) < m + 16; omega), by go_num, hown4, hb4⟩
   case measure => have := hkm.out; simp [intOf]; omega
  ·have hm16 : m ≤ 16 * k := by omega
   have hct := ((CtD.take (RowC.ct hrc) hm16).wide (D' := New w wr) fun b hb => ⟨by have := hb.1; omega, hb.2⟩)
   rw [ws_take hm16] at hct
   have hlt' : ¬ 16 * (k : Int) < m := by omega
   have hmc : (m : Int) ≤ cap := by have := hct.2.1; omega
   go_wp2
   all_goals go_ret
   all_goals exact ⟨ao, cap, rfl, hct, hkw⟩
end Go.Proofs.Ytlaagheeemkklaa
