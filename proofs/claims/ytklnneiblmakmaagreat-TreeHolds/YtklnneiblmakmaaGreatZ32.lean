/-
 PROVED HERE: what a view's ownNumbers returns when it is called (contracts over this translation). What is asked stands at each.
-/
import Derived.Test.YtklnneiblmakmaaGreatZ27
import Derived.Test.YtklnneiblmakmaaGreatZ31
namespace Go.Proofs.YtklnneiblmakmaaGreat
set_option maxRecDepth 100000
set_option maxHeartbeats 8000000
set_option linter.unusedVariables false
open Go.Proofs.Tryz
section
open Go.RowKit Go.Shelf
attribute [local go_sem] Oper.semAt_some
def ownN (key a b : Nat) (tid : Int) (kd : Int) (id c d : Nat) : Bool := (decide (kd ≠ 4) || (decide ((id : Int) = tid) || SrM.apartB a b c d)) && !SrM.hasK key a b id
theorem own1_v {w : World} {C Ct G : Array Value} {Bt Bs Bv key a b m c d : Nat} {tid kd : Int} (hz : C.size = 51) (c0 : C[0]? = some (.int .u64 (m : Int))) (c1 : C[1]? = some (.int .i64 kd)) (c37 : C[37]? = some (.int .u64 (c : Int))) (c38 : C[38]? = some (.int .u64 (d : Int))) (hm : m < 18446744073709551616)
  (ht : Blk w Bt Ct 43) (e0 : Ct[0]? = some (.int .u64 tid)) (hs : Blk w Bs #[.int .u64 (a : Int), .int .u64 (b : Int)] 36) (hv : Blk w Bv G 74) (k0 : G[1]? = some (.int .u64 (key : Int))) :
  Calls prog 122 #[.agg C, .pointer (some ⟨Bt, 0, none⟩), .pointer (some ⟨Bs, 0, none⟩), .pointer (some ⟨Bv, 0, none⟩)] w fun e w' => e = .returned (.bool (ownN key a b tid kd m c d)) ∧ Below w.heap.size w w' := by
 have hV : C.extract 37 (37 + 2) = #[.int .u64 (c : Int), .int .u64 (d : Int)] := ext2 c37 c38
 replace e0 := (ht.cell 0).trans e0
 replace k0 := (hv.cell 1).trans k0
 have hr : Hid (ownN key a b tid kd m c d = ((decide (kd ≠ 4) || (decide ((m : Int) = tid) || SrM.apartB a b c d)) && !SrM.hasK key a b m)) := rfl
 rw [hr.out]
 by_cases hk4 : kd = 4
 ·subst hk4
  have hq : decide ((4 : Int) ≠ 4) = false := rfl
  rw [hq, Bool.false_or]
  by_cases hid : (m : Int) = tid
  ·subst hid
   have hq : decide ((m : Int) = (m : Int)) = true := decide_eq_true rfl
   rw [hq, Bool.true_or, Bool.true_and]
   go_enter func122, ntmps122
   go_wp2_with (first
    | (with_reducible refine qdz rfl 43 _ rfl C rfl ?_; intro B4 W hN hb hk; replace c0 := (hb.cell 0).trans c0; replace c1 := (hb.cell 1).trans c1; replace e0 := (hk.cell (p := ⟨Bt, 0, none⟩) ht.lt).trans e0; replace k0 := (hk.cell (p := ⟨Bv, 1, none⟩) hv.lt).trans k0; replace hs := hs.next hk; have hkW := hk.size)
    | (with_reducible refine qez (by with_unfolding_all rfl) _ _ rfl Bs rfl #[.int .u64 (a : Int), .int .u64 (b : Int)] hs _ underlying36 (by kernel_rfl) (by kernel_rfl) ?_)
    | (go_at_call 124; (with_reducible refine (SrM.Has_any hm _).mono ?_); rintro e w2 ⟨rfl, hb2⟩; replace hk := btz hk hb2))
   go_ret
   exact ⟨rfl, hk⟩
  ·have hq : decide ((m : Int) = tid) = false := decide_eq_false hid
   have hq2 : ((m : Int) == tid) = false := by simpa using hid
   rw [hq, Bool.false_or]
   cases hap : SrM.apartB a b c d with
   | true =>
    rw [Bool.true_and]
    go_enter func122, ntmps122
    go_wp2_with (first
     | (with_reducible refine qdz rfl 43 _ rfl C rfl ?_; intro B4 W hN hb hk; replace c0 := (hb.cell 0).trans c0; replace c1 := (hb.cell 1).trans c1; replace e0 := (hk.cell (p := ⟨Bt, 0, none⟩) ht.lt).trans e0; replace k0 := (hk.cell (p := ⟨Bv, 1, none⟩) hv.lt).trans k0; replace hs := hs.next hk; have hkW := hk.size)
     | (with_reducible refine qez (by with_unfolding_all rfl) _ _ rfl Bs rfl #[.int .u64 (a : Int), .int .u64 (b : Int)] hs _ underlying36 (by kernel_rfl) (by kernel_rfl) ?_)
     | (with_reducible refine qoz (by kernel_rfl) _ _ rfl B4 37 rfl 2 C _ hb #[.int .u64 (c : Int), .int .u64 (d : Int)] hV (by omega) _ underlying36 (by kernel_rfl) (by kernel_rfl) ?_)
     | (go_at_call 123; (with_reducible refine (SrM.apart_any a b c d _).mono ?_); rintro e w1 ⟨rfl, hb1⟩; replace hk := btz hk hb1; replace hs := hs.next hb1; replace k0 := (hb1.cell (p := ⟨Bv, 1, none⟩) (Nat.lt_of_lt_of_le hv.lt hkW)).trans k0; replace c0 := (hb1.cell (p := ⟨B4, 0, none⟩) hb.lt).trans c0; rw [hap])
     | (go_at_call 124; (with_reducible refine (SrM.Has_any hm _).mono ?_); rintro e w2 ⟨rfl, hb2⟩; replace hk := btz hk hb2))
    go_ret
    exact ⟨rfl, hk⟩
   | false =>
    rw [Bool.false_and]
    go_enter func122, ntmps122
    go_wp2_with (first
     | (with_reducible refine qdz rfl 43 _ rfl C rfl ?_; intro B4 W hN hb hk; replace c0 := (hb.cell 0).trans c0; replace c1 := (hb.cell 1).trans c1; replace e0 := (hk.cell (p := ⟨Bt, 0, none⟩) ht.lt).trans e0; replace k0 := (hk.cell (p := ⟨Bv, 1, none⟩) hv.lt).trans k0; replace hs := hs.next hk; have hkW := hk.size)
     | (with_reducible refine qez (by with_unfolding_all rfl) _ _ rfl Bs rfl #[.int .u64 (a : Int), .int .u64 (b : Int)] hs _ underlying36 (by kernel_rfl) (by kernel_rfl) ?_)
     | (with_reducible refine qoz (by kernel_rfl) _ _ rfl B4 37 rfl 2 C _ hb #[.int .u64 (c : Int), .int .u64 (d : Int)] hV (by omega) _ underlying36 (by kernel_rfl) (by kernel_rfl) ?_)
     | (go_at_call 123; (with_reducible refine (SrM.apart_any a b c d _).mono ?_); rintro e w1 ⟨rfl, hb1⟩; replace hk := btz hk hb1; replace hs := hs.next hb1; replace k0 := (hb1.cell (p := ⟨Bv, 1, none⟩) (Nat.lt_of_lt_of_le hv.lt hkW)).trans k0; replace c0 := (hb1.cell (p := ⟨B4, 0, none⟩) hb.lt).trans c0; rw [hap]))
    go_ret
    exact ⟨rfl, hk⟩
 ·have hq : decide (kd ≠ 4) = true := decide_eq_true hk4
  have hq2 : (kd == 4) = false := by simpa using hk4
  have hq3 : (kd != 4) = true := by simpa using hk4
  rw [hq, Bool.true_or, Bool.true_and]
  go_enter func122, ntmps122
  go_wp2_with (first
   | (with_reducible refine qdz rfl 43 _ rfl C rfl ?_; intro B4 W hN hb hk; replace c0 := (hb.cell 0).trans c0; replace c1 := (hb.cell 1).trans c1; replace e0 := (hk.cell (p := ⟨Bt, 0, none⟩) ht.lt).trans e0; replace k0 := (hk.cell (p := ⟨Bv, 1, none⟩) hv.lt).trans k0; replace hs := hs.next hk; have hkW := hk.size)
   | (with_reducible refine qez (by with_unfolding_all rfl) _ _ rfl Bs rfl #[.int .u64 (a : Int), .int .u64 (b : Int)] hs _ underlying36 (by kernel_rfl) (by kernel_rfl) ?_)
   | (go_at_call 124; (with_reducible refine (SrM.Has_any hm _).mono ?_); rintro e w2 ⟨rfl, hb2⟩; replace hk := btz hk hb2))
  go_ret
  exact ⟨rfl, hk⟩
end
end Go.Proofs.YtklnneiblmakmaaGreat
