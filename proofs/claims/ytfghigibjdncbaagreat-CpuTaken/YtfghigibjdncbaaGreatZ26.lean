/-
 PROVED HERE: threads that are handed in lie in memory as records, and their labels are no longer than what can be read (ove. What is asked stands at each.
-/
import Derived.SizedLaws
import Derived.Test.YtfghigibjdncbaaGreatZ10
import Derived.Test.YtfghigibjdncbaaGreatZ14
import Derived.Test.YtfghigibjdncbaaGreatZ24
import Derived.Test.YtfghigibjdncbaaGreatZ25
namespace Go.Proofs.YtfghigibjdncbaaGreat
set_option maxRecDepth 100000
set_option maxHeartbeats 8000000
open Go.ChangeShapes Go.WideShapes Go.ChangeAt Go.RowKit
set_option linter.unusedVariables false

structure ThW (t : Th) : Prop where
 c : t.clear.length < 8796093022208
 l0 : t.l0.length < 8796093022208
 l1 : t.l1.length < 8796093022208
 l2 : t.l2.length < 8796093022208
 l3 : t.l3.length < 8796093022208
section
variable {H : Type} {enc : TypeId × Value → H} {w : World} {m : Nat} {y : DataW H × List MemPlace}
theorem lab_wt {cs : List Value} {o : Nat} {L : Lb} (ho : o < cs.length) (h : DataW.trod enc Tryz.prog w 0 (fun _ => true) true m 34 ((cs.drop o).take (Tryz.prog.cellsOf 34)) = some y) (hw : ∀ z ∈ DataW.weights Tryz.prog 34 y.1, z ≤ reachBytes) (hL : LbV (LtN w) w cs[o]? L) : L.length < 8796093022208 := by
 have hb : Tryz.prog.bytesOf 112 = 16 := by kernel_rfl
 obtain ⟨ao, n, cap, e, hl⟩ := hL
 rw [show Tryz.prog.cellsOf 34 = 1 from by kernel_rfl, one_cell ho] at h
 rw [List.getElem?_eq_getElem ho] at e
 have e' : cs[o] = .slice ao n cap := by injection e
 rw [e'] at h
 rcases Go.Deep.open_slice Tryz.underlying34 h with ⟨e1, _⟩ | ⟨a, len, cap', m', n', D, Pl, e1, _, hle, _, _, hy, _⟩
 ·simp at e1
  have := hl.1
  omega
 ·simp at e1
  have h0 := hl.1
  rw [hy] at hw
  simp only [DataW.weights, Tryz.underlying34] at hw
  have h1 := hw _ (List.mem_cons_self ..)
  rw [hb] at h1
  simp only [List.length_map, List.length_range, reachBytes] at h1
  omega
theorem mem_wall {e : TypeId} {z : Nat} {d : DataW H} : ∀ {ds : List (DataW H)}, d ∈ ds → z ∈ DataW.weights Tryz.prog e d → z ∈ DataW.weightsAll Tryz.prog e ds
 | [], h, _ => by cases h
 | d' :: ds, h, hz => by
  unfold DataW.weightsAll
  rcases List.mem_cons.1 h with rfl | h
  ·exact List.mem_append_left _ hz
  ·exact List.mem_append_right _ (mem_wall h hz)
theorem thw_of_cells {cs : List Value} {t : Th} (h : DataW.trod enc Tryz.prog w 0 (fun _ => true) true m 46 cs = some y) (hw : ∀ z ∈ DataW.weights Tryz.prog 46 y.1, z ≤ reachBytes) (ht : ThF (LtN w) w (fun i => cs[i]?) t) : ThW t := by
 obtain ⟨xs, m', _, hy, hl, hxs, hg⟩ := DataW.trod_struct Tryz.underlying46 h
 rw [show Tryz.prog.cellsOf 46 = 35 from by kernel_rfl] at hl
 obtain ⟨y0, y1, y2, y3, y4, y5, y6, y7, y8, y9, y10, rfl⟩ : ∃ y0 y1 y2 y3 y4 y5 y6 y7 y8 y9 y10, xs = [y0, y1, y2, y3, y4, y5, y6, y7, y8, y9, y10] := by
  match xs, hxs with
  | [y0, y1, y2, y3, y4, y5, y6, y7, y8, y9, y10], _ => exact ⟨y0, y1, y2, y3, y4, y5, y6, y7, y8, y9, y10, rfl⟩
 rw [hy] at hw
 simp only [List.map_cons, List.map_nil, DataW.weights, Tryz.underlying46, DataW.weightsEach, List.append_nil] at hw
 have t2 : DataW.trod enc Tryz.prog w 0 (fun _ => true) true m' 34 ((cs.drop 17).take (Tryz.prog.cellsOf 34)) = some y2 := hg 2 _ rfl
 have t10 : DataW.trod enc Tryz.prog w 0 (fun _ => true) true m' 44 ((cs.drop 31).take (Tryz.prog.cellsOf 44)) = some y10 := hg 10 _ rfl
 have hw2 : ∀ z ∈ DataW.weights Tryz.prog 34 y2.1, z ≤ reachBytes := fun z hz => hw z (by simp only [List.mem_append]; exact .inr (.inr (.inl hz)))
 have hw10 : ∀ z ∈ DataW.weights Tryz.prog 44 y10.1, z ≤ reachBytes := fun z hz => hw z (by simp only [List.mem_append]; exact .inr (.inr (.inr (.inr (.inr (.inr (.inr (.inr (.inr (.inr hz))))))))))
 rw [show Tryz.prog.cellsOf 44 = 4 from by kernel_rfl] at t10
 obtain ⟨zs, m2, _, hz, hl2, hzs, hg2⟩ := DataW.trod_array Tryz.underlying44 t10
 rw [hz] at hw10
 simp only [DataW.weights, Tryz.underlying44] at hw10
 have key : ∀ i, i < 4 → ∀ L, LbV (LtN w) w cs[31 + i]? L → L.length < 8796093022208 := by
  intro i hi L hL
  have q := hg2 i hi
  rw [List.getElem?_eq_getElem (by omega)] at q
  rw [show Tryz.prog.cellsOf 34 = 1 from by kernel_rfl, Nat.mul_one, ← show Tryz.prog.cellsOf 34 = 1 from by kernel_rfl] at q
  refine lab_wt (o := i) (cs := (cs.drop 31).take 4) (by simp; omega) q (fun z hz => hw10 z (mem_wall (List.mem_map.2 ⟨_, List.getElem_mem (by omega), rfl⟩) hz)) ?_
  rw [sub_get hi]
  exact hL
 exact ⟨lab_wt (o := 17) (by omega) t2 hw2 ht.clear, key 0 (by omega) _ ht.l0, key 1 (by omega) _ ht.l1, key 2 (by omega) _ ht.l2, key 3 (by omega) _ ht.l3⟩
theorem thread_of_trod {base : Nat} {v : Value} {d : DataW H} {ps : List MemPlace} (hv : Value.okWide Tryz.prog w .any base 46 v)
  (h : DataW.Trod enc Tryz.prog w 0 (fun _ => true) true 46 v d ps) (hw : ∀ z ∈ DataW.weights Tryz.prog 46 d, z ≤ reachBytes) : ∃ T t, v = .agg T ∧ (ThD (LtN w) w T t ∧ ThW t) := by
 unfold Value.okWide at hv
 rw [Tryz.underlying46] at hv
 obtain ⟨cs, rfl, hs, _⟩ := hv
 rw [show Tryz.prog.cellsOf 46 = 35 from by kernel_rfl] at hs
 obtain ⟨fuel, hf⟩ := h
 obtain ⟨t, ht⟩ := th_of_cells (cs := cs.toList) (m := fuel) hf
 have hz : ThF (LtN w) w (fun i => cs[i]?) t := by simpa using ht
 refine ⟨cs, t, rfl, ⟨hs, all_ext fun j v e => ThF.ones hz (by have := (Array.getElem?_eq_some_iff.1 e).1; omega) e, hz⟩, thw_of_cells (cs := cs.toList) (m := fuel) hf hw ht⟩
end
end Go.Proofs.YtfghigibjdncbaaGreat
namespace Go.Proofs.YtfghigibjdncbaaGreat
set_option maxRecDepth 100000
set_option maxHeartbeats 8000000
open Go.RowKit Go.Shelf
set_option linter.unusedVariables false

theorem neq_regs {w : World} (x y : Operand) (l : List Int) (hl : l.length = 16) : (do eqGuard .neq 37 x y (.agg (l.map (Value.int .u64)).toArray) (.agg (l.map (Value.int .u64)).toArray); binOp .neq 37 (.agg (l.map (Value.int .u64)).toArray) (.agg (l.map (Value.int .u64)).toArray)).run Tryz.prog w = .ok (.bool false) w := by
 have hq : (binOp .neq 37 (.agg (l.map (Value.int .u64)).toArray) (.agg (l.map (Value.int .u64)).toArray)).run Tryz.prog w = .ok (.bool false) w := by
  obtain ⟨i0, hi0⟩ : ∃ i0, Tryz.prog.info? 22 = some i0 := Option.isSome_iff_exists.1 (by kernel_rfl)
  have hcells : Tryz.prog.cellsOf 22 = 1 := by kernel_rfl
  rw [run_neq_struct, show 10000 = 9999 + 1 from rfl, run_equalIn_array w 9999 _ _ Tryz.underlying37 hi0, hcells, show 9999 = 9998 + 1 from rfl, eqItems_words 16 9998 l l (by omega) (by omega) (List.range 16) (fun i hi => List.mem_range.1 hi)]
  have : (List.range 16).all (fun i => l.getD i 0 == l.getD i 0) = true := by simp
  rw [this]
  rfl
 exact eqg_agg Tryz.eqGuardType37 x y _ _ hq
theorem ThD.regsA {D : Nat → Prop} {w : World} {T : Array Value} {t : Th} (h : ThD D w T t) : T.extract 0 (0 + 16) = (t.regs.map (Value.int .u64)).toArray := by
 apply Array.ext_getElem?
 intro i
 have hl := h.f.rlen
 by_cases hi : i < 16
 ·rw [Array.getElem?_extract, if_pos (by have := h.size; omega), Nat.zero_add, h.f.regs i hi]
  simp [List.getD_eq_getElem?_getD, List.getElem?_eq_getElem (show i < t.regs.length by omega)]
 ·rw [Array.getElem?_eq_none (by have := h.size; simp; omega), Array.getElem?_eq_none (by simp; omega)]
theorem dv14 {t : Th} {g why : Int} (h : t.regs.length = 16) : (dvT t g why).regs.getD 14 0 = t.pc := by
 show ((t.regs.set 14 t.pc).set 15 why).getD 14 0 = _
 rw [set_getD (by simp [h]), if_neg (by decide), set_getD (by omega), if_pos rfl]
theorem dv15 {t : Th} {g why : Int} (h : t.regs.length = 16) : (dvT t g why).regs.getD 15 0 = why := by
 show ((t.regs.set 14 t.pc).set 15 why).getD 15 0 = _
 rw [set_getD (by simp [h]), if_pos rfl]
theorem run_ia14 (B : Nat) (W : World) : (Instr.indexAt 37 (.pointer (some ⟨B, 0, none⟩)) (.int .i64 14)).run Tryz.prog W = .ok (.pointer (some ⟨B, 14, none⟩)) W := run_ia16 (i := 14) (by decide) W
theorem run_ia15 (B : Nat) (W : World) : (Instr.indexAt 37 (.pointer (some ⟨B, 0, none⟩)) (.int .i64 15)).run Tryz.prog W = .ok (.pointer (some ⟨B, 15, none⟩)) W := run_ia16 (i := 15) (by decide) W
theorem ob_same {S : World → Prop} {x y : Operand} {a : Int} : Obl.holds Tryz.prog S (.test .eql 22 x y (.int .u64 a) (.int .u64 a) (.bool true)) := fun w hS => by
 go_simp
theorem ob_sameI {S : World → Prop} {x y : Operand} {a : Int} : Obl.holds Tryz.prog S (.test .eql 3 x y (.int .i64 a) (.int .i64 a) (.bool true)) := fun w hS => by
 go_simp
theorem ob_subE {S : World → Prop} {x y : Operand} {n m : Nat} (e : (n : Int) - 1 = (m : Int)) (hn : n < 9223372036854775808) : Obl.holds Tryz.prog S (.test .sub 3 x y (.int .i64 (n : Int)) (.int .i64 1) (.int .i64 (m : Int))) := fun w hS => by
 have hw : IntKind.i64.wrap (m : Int) = (m : Int) := by rw [IntKind.wrap_i64]; omega
 have hv : IntKind.i64.wrap ((n : Int) - 1) = (m : Int) := by rw [e]; exact hw
 go_simp
theorem ob_lnu {S : World → Prop} {ao : Option Addr} {n cap : Nat} : Obl.holds Tryz.prog S (.ln 35 3 (.slice ao n cap) (.int .i64 (n : Int))) := fun w hS => by
 go_simp
end Go.Proofs.YtfghigibjdncbaaGreat
