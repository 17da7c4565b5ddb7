/-
 PROVED HERE: what package obj's sameThread and the document's SameGate return when they are called (contracts over this tra. What is asked stands at each.
-/
import Derived.Test.YtobcdaaghdljbaaY4
namespace Go.Proofs.Ytobcdaaghdljbaa
set_option maxRecDepth 100000
set_option maxHeartbeats 8000000
open Go.RowKit Go.Shelf
set_option linter.unusedVariables false
attribute [local go_sem] Oper.semAt_some

theorem ext_regs {D : Nat → Prop} {w : World} {T : Array Value} {t : Th} (h : ThD D w T t) : T.extract 0 (0 + 16) = (t.regs.map (Value.int .u64)).toArray := by
 apply Array.ext_getElem?
 intro i
 by_cases hi : i < 16
 ·have hl : i < t.regs.length := by rw [h.f.rlen]; exact hi
  rw [ext_get (by rw [h.size]; omega) hi, Nat.zero_add]
  refine (h.f.regs i hi).trans ?_
  simp [List.getD_eq_getElem?_getD, List.getElem?_eq_getElem hl]
 ·rw [Array.getElem?_extract, if_neg (by omega)]
  exact (Array.getElem?_eq_none (by simp [h.f.rlen]; omega)).symm
theorem ext5 {C : Array Value} {o : Nat} {a b c d e : Value} (h0 : C[o]? = some a) (h1 : C[o + 1]? = some b) (h2 : C[o + 2]? = some c) (h3 : C[o + 3]? = some d) (h4 : C[o + 4]? = some e) : C.extract o (o + 5) = #[a, b, c, d, e] := by
 have hs : o + 4 < C.size := (Array.getElem?_eq_some_iff.1 h4).1
 apply Array.ext_getElem?
 intro i
 rcases i with _ | _ | _ | _ | _ | i
 ·rw [ext_get (n := 5) (by omega) (by omega)]; exact h0
 ·rw [ext_get (n := 5) (by omega) (by omega)]; exact h1
 ·rw [ext_get (n := 5) (by omega) (by omega)]; exact h2
 ·rw [ext_get (n := 5) (by omega) (by omega)]; exact h3
 ·rw [ext_get (n := 5) (by omega) (by omega)]; exact h4
 ·rw [Array.getElem?_extract, if_neg (by omega)]; simp
theorem rsameGate_any {w : World} {G G' : Array Value} {g g' : Gt} (h : GtD (LtN w) w G g) (h' : GtD (LtN w) w G' g') :
  Asks 45 #[.agg G, .agg G'] (g = g') w := by
 have hz := h.size
 have hz' := h'.size
 obtain ⟨a0, n0, k0, c0, l0⟩ := h.f.grant
 obtain ⟨a1, n1, k1, c1, l1⟩ := h.f.clear
 have x2 := ext2 h.f.sc h.f.si
 have c4 := h.f.pc
 have c5 := h.f.arg
 obtain ⟨a0', n0', k0', c0', l0'⟩ := h'.f.grant
 obtain ⟨a1', n1', k1', c1', l1'⟩ := h'.f.clear
 have x2' := ext2 h'.f.sc h'.f.si
 have c4' := h'.f.pc
 have c5' := h'.f.arg
 have ga0 := Try.isAgg39
 have ga1 := Try.isAgg22
 have ga2 := Try.isAgg3
 have ga3 := Try.isAgg4
 have ga4 := Try.isAgg28
 have ga5 := Try.isAgg40
 unfold Asks
 go_enter Try.func45, Try.ntmps45
 go_wp2_with (first
  | go_skip
  | (with_reducible refine wpList_box rfl _ _ rfl G rfl ?_; intro B W hB hb hk)
  | (with_reducible refine wpList_box rfl _ _ rfl G' rfl ?_; intro B' W' hB' hb' hk'; replace hb := hb.next hk'; replace hk := hk.trans (hk'.mono hk.size); clear hk')
  | (with_reducible refine wpList_load1 (by kernel_rfl) _ _ rfl B _ rfl _ _ hb _ (by assumption) (by assumption) ?_)
  | (with_reducible refine wpList_load1 (by kernel_rfl) _ _ rfl B' _ rfl _ _ hb' _ (by assumption) (by assumption) ?_)
  | (with_reducible refine wpList_loadp (by kernel_rfl) 43 _ rfl B _ rfl 2 _ _ hb _ (by assumption) (by omega) _ Try.underlying43 (by kernel_rfl) size29 ?_)
  | (with_reducible refine wpList_loadp (by kernel_rfl) 43 _ rfl B' _ rfl 2 _ _ hb' _ (by assumption) (by omega) _ Try.underlying43 (by kernel_rfl) size29 ?_)
  | ((with_reducible refine wpList_test (by kernel_rfl) .eql _ _ _ _ rfl _ _ rfl rfl (eqg_int _ _ _ _ _ _) ?_ ?_) <;> intro hq)
  | ((with_reducible refine wpList_test (by kernel_rfl) .eql _ _ _ _ rfl _ _ rfl rfl (eqg_ref _ _ _ _ _ _) ?_ ?_) <;> intro hq)
  | (go_at_call 41; (with_reducible refine (reqL (by assumption) (by assumption) hk).on ?_ ?_) <;> (intro w1 hq hb1; replace hb := hb.next hb1; replace hb' := hb'.next hb1; replace hk := hk.trans (hb1.mono hk.size); clear hb1)))
 all_goals go_ret
 all_goals first
  | (refine askP_no (by assumption) hk ?_; intro e; rw [e]; done)
  | (refine askP_no (by assumption) hk ?_; intro e; rw [e]; exact ⟨rfl, rfl⟩)
  | (refine askP_no (by assumption) hk ?_; intro e; rw [e]; exact ⟨rfl, rfl, rfl, rfl, rfl⟩)
  | (refine askP_no (by assumption) hk ?_; intro e; rw [e]; exact fun _ _ => rfl)
  | (refine askP_yes ?_ hk; exact gt_iff.1 ⟨Hid.out (by assumption), Hid.out (by assumption), Hid.out (by assumption), Hid.out (by assumption), Hid.out (by assumption)⟩)
  | fail
end Go.Proofs.Ytobcdaaghdljbaa
