/-
 PROVED HERE: what each function of package serial that has no call of perm, and its like of the document's answer, returns . What is asked stands at each.
-/
import Derived.Test.YtloghnpfplljgaaGreatRows
import Derived.RegionTactic
import Derived.ChangeAlike
import Derived.Deep.RegionHeld3
import Derived.Deep.DeepCutAuto
import Derived.Deep.QuietTactic
import Derived.BigQuiet
import Derived.Test.YtloghnpfplljgaaGreatZ13
import Derived.Test.YtloghnpfplljgaaGreatZ14
namespace Go.Proofs.YtloghnpfplljgaaGreat
set_option maxRecDepth 100000
set_option maxHeartbeats 8000000
set_option linter.unusedVariables false
open Go.Proofs.Tryz
namespace SrM
open Go.ChangeShapes Go.WideShapes Go.ChangeAt Go.RowKit
def share (a b : Nat) : Nat := (b - a) / 16
def ltB (a b : Nat) : Bool := decide (a < b)
def hasB (a b n : Nat) : Bool := decide (a ≤ n) && decide (n < b)
variable {a b : Nat}
theorem share_I (h : a ≤ b) : ((b : Int) - (a : Int)) / 16 = (share a b : Nat) := by unfold share; omega
theorem some_any (a b : Nat) (w : World) :
  Calls prog 225 #[.agg #[.int .u64 (a : Int), .int .u64 (b : Int)]] w fun e w' => e = .returned (.bool (ltB a b)) ∧ Below w.heap.size w w' := by
 have hB := (brp1 w.heap.size w).alloc (lrp1 _) (.cells #[.int .u64 (a : Int), .int .u64 (b : Int)] 198)
 go_enter func225, ntmps225
 go_wp2
 go_ret
 exact ⟨rfl, hB⟩
theorem vtz (h : a ≤ b) (hb : b < 18446744073709551616) (w : World) :
  Calls prog 224 #[.agg #[.int .u64 (a : Int), .int .u64 (b : Int)]] w fun e w' => e = .returned (.int .u64 (share a b : Nat)) ∧ Below w.heap.size w w' := by
 have hB := (brp1 w.heap.size w).alloc (lrp1 _) (.cells #[.int .u64 (a : Int), .int .u64 (b : Int)] 198)
 have e : Hid (((b : Int) - (a : Int)) / 16 = (share a b : Nat)) := share_I h
 go_enter func224, ntmps224
 go_wp2
 go_ret
 exact ⟨congrArg (fun v => Ending.returned (Value.int .u64 v)) e.out, hB⟩
theorem j8z (h : a ≤ b) (hb : b < 18446744073709551616) (w : World) :
  Calls prog 178 #[.agg #[.int .u64 (a : Int), .int .u64 (b : Int)]] w fun e w' => e = .returned (.bool (ltB 0 (share a b))) ∧ Below w.heap.size w w' := by
 have hB := (brp1 w.heap.size w).alloc (lrp1 _) (.cells #[.int .u64 (a : Int), .int .u64 (b : Int)] 198)
 go_enter func178, ntmps178
 go_wp2_with (go_at_call 224; refine (vtz h hb _).mono ?_; rintro e w1 ⟨rfl, hb⟩; replace hB := btp1 hB hb; clear hb)
 go_ret
 exact ⟨rfl, hB⟩
theorem jCz {a b g : Nat} {w : World} (h : Two w g 195 (.int .u64 (a : Int)) (.int .u64 (b : Int))) (v : Bool) (hv : ltB a b = v) :
  Calls prog 177 #[.pointer (some ⟨g, 0, none⟩), .func (.func 225) #[] #[]] w fun e w' => e = .returned (.int .i64 (if v then 0 else 7)) ∧ Below w.heap.size w w' := by
 have d0 := h.cell0
 have d1 := h.cell1
 have hc := fun w => some_any a b w
 simp only [hv] at hc
 have hB := brp1 w.heap.size w
 clear h
 cases v <;>
 ·go_enter func177, ntmps177
  go_wp2_with (go_at_call 225; refine (hc _).mono ?_; rintro e w1 ⟨rfl, hb⟩; replace hB := btp1 hB hb; clear hb)
  go_ret
  exact ⟨rfl, hB⟩
theorem jDz {a b g : Nat} (hab : a ≤ b) (hb : b < 18446744073709551616) {w : World} (h : Two w g 195 (.int .u64 (a : Int)) (.int .u64 (b : Int))) (v : Bool) (hv : ltB 0 (share a b) = v) :
  Calls prog 177 #[.pointer (some ⟨g, 0, none⟩), .func (.func 178) #[] #[]] w fun e w' => e = .returned (.int .i64 (if v then 0 else 7)) ∧ Below w.heap.size w w' := by
 have d0 := h.cell0
 have d1 := h.cell1
 have hc := fun w => j8z hab hb w
 simp only [hv] at hc
 have hB := brp1 w.heap.size w
 clear h
 cases v <;>
 ·go_enter func177, ntmps177
  go_wp2_with (go_at_call 178; refine (hc _).mono ?_; rintro e w1 ⟨rfl, hb⟩; replace hB := btp1 hB hb; clear hb)
  go_ret
  exact ⟨rfl, hB⟩
end SrM
namespace SrM
open Go.ChangeShapes Go.WideShapes Go.ChangeAt Go.RowKit
theorem next_any {a b g : Nat} (ha : a < 18446744073709551615) {w : World} (h : Two w g 195 (.int .u64 (a : Int)) (.int .u64 (b : Int))) :
  Calls prog 226 #[.pointer (some ⟨g, 0, none⟩)] w fun e w' => e = .returned (.int .u64 (a : Int)) ∧ w' = w.setCell ⟨g, 0, none⟩ (.int .u64 ((a : Int) + 1)) := by
 have d0 := h.cell0
 have d1 := h.cell1
 have f0 := h.frozen0 0
 have e1 : IntKind.u64.wrap ((a : Int) + 1) = (a : Int) + 1 := by rw [IntKind.wrap_u64]; omega
 clear h
 go_enter func226, ntmps226
 go_wp2
 go_ret
 exact ⟨rfl, rfl⟩
structure Giver (w : World) (a b : Nat) (w3 : World) : Prop where
 s : Two w3 w.heap.size 48 (.int .u64 (a : Int)) (.int .u64 (b : Int))
 r : Two w3 (w.heap.size + 1) 48 (.int .u64 0) (.int .u64 0)
 g : Two w3 (w.heap.size + 1 + 1) 195 (.int .u64 (a : Int)) (.int .u64 (b : Int))
 bel : Below w.heap.size w w3
theorem vQz (w : World) (a b : Nat) : Giver w a b (((w.alloc (.cells #[.int .u64 (a : Int), .int .u64 (b : Int)] 48)).alloc (.cells #[.int .u64 0, .int .u64 0] 48)).alloc (.cells #[.int .u64 (a : Int), .int .u64 (b : Int)] 195)) where
 s := ((Two.new w _ _ _).alloc _).alloc _
 r := by have h := (Two.new (w.alloc (.cells #[.int .u64 (a : Int), .int .u64 (b : Int)] 48)) 48 (.int .u64 0) (.int .u64 0)).alloc (.cells #[.int .u64 (a : Int), .int .u64 (b : Int)] 195); rw [World.size_alloc] at h; exact h
 g := by have h := Two.new ((w.alloc (.cells #[.int .u64 (a : Int), .int .u64 (b : Int)] 48)).alloc (.cells #[.int .u64 0, .int .u64 0] 48)) 195 (.int .u64 (a : Int)) (.int .u64 (b : Int)); rw [World.size_alloc, World.size_alloc] at h; exact h
 bel := (((brp1 _ w).alloc (lrp1 _) _).alloc (by simp) _).alloc (by simp; omega) _
variable {a b : Nat}
theorem Giver.next {w w3 w4 : World} (h : Giver w a b w3) (k : Below w3.heap.size w3 w4) : Giver w a b w4 :=
 ⟨h.s.next k, h.r.next k, h.g.next k, h.bel.trans (k.mono h.bel.size)⟩
theorem take_none (hab : ¬ a < b) (w : World) :
  Calls prog 180 #[.agg #[.int .u64 (a : Int), .int .u64 (b : Int)]] w fun e w' => e = .returned (.tuple #[.int .u64 0, .agg #[.int .u64 (a : Int), .int .u64 (b : Int)], .int .i64 7]) ∧ Below w.heap.size w w' := by
 have hv : ltB a b = false := decide_eq_false hab
 have hG := vQz w a b
 go_enter func180, ntmps180
 go_upto_region 2 with fail
 obtain ⟨w3, hw3⟩ : ∃ w3, Hid (((w.alloc (.cells #[.int .u64 (a : Int), .int .u64 (b : Int)] 48)).alloc (.cells #[.int .u64 0, .int .u64 0] 48)).alloc (.cells #[.int .u64 (a : Int), .int .u64 (b : Int)] 195) = w3) := ⟨_, rfl⟩
 rw [hw3.out] at hG ⊢
 clear hw3
 go_wp2_with (go_at_call 177; refine (jCz hG.g false hv).mono ?_; rintro e w1 ⟨rfl, hb⟩; replace hG := hG.next hb; clear hb)
 have s0 := hG.s.cell0
 have s1 := hG.s.cell1
 have r0 := hG.r.cell0
 have r1 := hG.r.cell1
 have r2 := hG.r.frozen0 0
 have r3 := hG.r.frozen0 1
 have q0 := (hG.r.set0 (.int .u64 (a : Int))).set1 (.int .u64 (b : Int))
 have qb : Below w.heap.size w ((w1.setCell ⟨w.heap.size + 1, 0, none⟩ (.int .u64 (a : Int))).setCell ⟨w.heap.size + 1, 1, none⟩ (.int .u64 (b : Int))) := (hG.bel.setCell (p := ⟨w.heap.size + 1, 0, none⟩) (by simp) _).setCell (p := ⟨w.heap.size + 1, 1, none⟩) (by simp) _
 have e0 := q0.cell0
 have e1 := q0.cell1
 clear q0 hG
 go_region
 go_wp2
 exact bodyPost_ret (v := .tuple #[.int .u64 0, .agg #[.int .u64 (a : Int), .int .u64 (b : Int)], .int .i64 7]) (by simp [results, Tryz.f180, go_sem, e0, e1]) rfl ⟨rfl, qb.drew⟩
theorem take_some (hab : a < b) (hb : b ≤ 2305843009213693952) (w : World) :
  Calls prog 180 #[.agg #[.int .u64 (a : Int), .int .u64 (b : Int)]] w fun e w' => e = .returned (.tuple #[.int .u64 (a : Int), .agg #[.int .u64 ((a + 1 : Nat) : Int), .int .u64 (b : Int)], .int .i64 0]) ∧ Below w.heap.size w w' := by
 have hv : ltB a b = true := decide_eq_true hab
 have hG := vQz w a b
 go_enter func180, ntmps180
 go_upto_region 2 with fail
 obtain ⟨w3, hw3⟩ : ∃ w3, Hid (((w.alloc (.cells #[.int .u64 (a : Int), .int .u64 (b : Int)] 48)).alloc (.cells #[.int .u64 0, .int .u64 0] 48)).alloc (.cells #[.int .u64 (a : Int), .int .u64 (b : Int)] 195) = w3) := ⟨_, rfl⟩
 rw [hw3.out] at hG ⊢
 clear hw3
 go_wp2_with (first | (go_at_call 177; refine (jCz hG.g true hv).mono ?_; rintro e w1 ⟨rfl, hb⟩; replace hG := hG.next hb; clear hb) | (go_at_call 226; refine (next_any (by omega) hG.g).mono ?_; rintro e w2 ⟨rfl, hw⟩; have g2 := hG.g.set0 (.int .u64 ((a : Int) + 1)); have r2 : Two (w1.setCell ⟨w.heap.size + 1 + 1, 0, none⟩ (.int .u64 ((a : Int) + 1))) (w.heap.size + 1) 48 (.int .u64 0) (.int .u64 0) := whz hG.r (by omega); have b2 : Below w.heap.size w (w1.setCell ⟨w.heap.size + 1 + 1, 0, none⟩ (.int .u64 ((a : Int) + 1))) := hG.bel.setCell (p := ⟨w.heap.size + 1 + 1, 0, none⟩) (by show w.heap.size ≤ w.heap.size + 1 + 1; omega) _; rw [← hw] at g2 r2 b2; clear hw hG))
 have s0 := g2.cell0
 have s1 := g2.cell1
 have r0 := r2.cell0
 have r1 := r2.cell1
 have f0 := r2.frozen0 0
 have f1 := r2.frozen0 1
 have q0 := (r2.set0 (.int .u64 ((a : Int) + 1))).set1 (.int .u64 (b : Int))
 have qb : Below w.heap.size w ((w2.setCell ⟨w.heap.size + 1, 0, none⟩ (.int .u64 ((a : Int) + 1))).setCell ⟨w.heap.size + 1, 1, none⟩ (.int .u64 (b : Int))) := (b2.setCell (p := ⟨w.heap.size + 1, 0, none⟩) (by simp) _).setCell (p := ⟨w.heap.size + 1, 1, none⟩) (by simp) _
 have e0 := q0.cell0
 have e1 := q0.cell1
 clear q0 g2 r2 b2
 go_region
 go_wp2
 exact bodyPost_ret (v := .tuple #[.int .u64 (a : Int), .agg #[.int .u64 ((a : Int) + 1), .int .u64 (b : Int)], .int .i64 0]) (by simp [results, Tryz.f180, go_sem, e0, e1]) rfl ⟨rfl, qb.drew⟩
theorem part_raw {a b c g : Nat} (hab : a ≤ b) (hb : b ≤ 2305843009213693952) (hc : Hid (b - share a b = c)) {w : World} (h : Two w g 195 (.int .u64 (a : Int)) (.int .u64 (b : Int))) :
  Calls prog 179 #[.pointer (some ⟨g, 0, none⟩)] w fun e w' => e = .returned (.agg #[.int .u64 (c : Int), .int .u64 (b : Int)]) ∧ Two w' g 195 (.int .u64 (a : Int)) (.int .u64 (c : Int)) ∧ (∀ k, k ≠ g → k < w.heap.size → w'.heap[k]? = w.heap[k]?) ∧ Below g w w' := by
 have d0 := h.cell0
 have d1 := h.cell1
 have f1 := h.frozen0 1
 have hg := h.lt
 have hw := (h.alloc (.cells #[.int .u64 0, .int .u64 0] 48)).alloc (.cells #[.int .u64 (a : Int), .int .u64 (b : Int)] 48)
 have hr : Two ((w.alloc (.cells #[.int .u64 0, .int .u64 0] 48)).alloc (.cells #[.int .u64 (a : Int), .int .u64 (b : Int)] 48)) w.heap.size 48 (.int .u64 0) (.int .u64 0) := (Two.new w _ _ _).alloc _
 have hs : Two ((w.alloc (.cells #[.int .u64 0, .int .u64 0] 48)).alloc (.cells #[.int .u64 (a : Int), .int .u64 (b : Int)] 48)) (w.heap.size + 1) 48 (.int .u64 (a : Int)) (.int .u64 (b : Int)) := by have h := Two.new (w.alloc (.cells #[.int .u64 0, .int .u64 0] 48)) 48 (.int .u64 (a : Int)) (.int .u64 (b : Int)); rw [World.size_alloc] at h; exact h
 have hbel : Below w.heap.size w ((w.alloc (.cells #[.int .u64 0, .int .u64 0] 48)).alloc (.cells #[.int .u64 (a : Int), .int .u64 (b : Int)] 48)) := ((brp1 _ w).alloc (lrp1 _) _).alloc (by simp) _
 clear h
 go_enter func179, ntmps179
 go_upto_region 2 with fail
 obtain ⟨W, hW⟩ : ∃ W, Hid ((w.alloc (.cells #[.int .u64 0, .int .u64 0] 48)).alloc (.cells #[.int .u64 (a : Int), .int .u64 (b : Int)] 48) = W) := ⟨_, rfl⟩
 rw [hW.out] at hw hr hs hbel ⊢
 clear hW d0 d1 f1
 have d0 := hw.cell0
 have d1 := hw.cell1
 have f1 := hw.frozen0 1
 have s0 := hs.cell0
 have s1 := hs.cell1
 have hsz := hbel.size
 have hsub : IntKind.u64.wrap ((b : Int) - (share a b : Nat)) = (c : Int) := by have := hc.out; have : share a b ≤ b := (by unfold share; omega); rw [IntKind.wrap_u64]; omega
 have hshare := fun w => vtz hab (show b < 18446744073709551616 by omega) w
 obtain ⟨sh, hsh⟩ : ∃ sh, Hid (share a b = sh) := ⟨_, rfl⟩
 rw [hsh.out] at hsub
 simp only [hsh.out] at hshare
 go_region_with (go_at_call 224; refine (hshare _).mono ?_; rintro e w1 ⟨rfl, hb1⟩; have hb2 : Below W.heap.size W w1 := (brp1 _ W).drew.trans hb1; have hw1 := hw.next hb2; have hs1 := hs.next hb2; have hr1 := hr.next hb2; have c0 := hw1.cell0; have c1 := hw1.cell1; have c2 := hw1.frozen0 1; have c3 := hs1.cell0; have c4 := hs1.cell1)
 all_goals
  have hw2 := hw1.set1 (.int .u64 (c : Int))
  have hs2 : Two (w1.setCell ⟨g, 1, none⟩ (.int .u64 (c : Int))) (w.heap.size + 1) 48 (.int .u64 (a : Int)) (.int .u64 (b : Int)) := whz hs1 (by omega)
  have hr2 : Two (w1.setCell ⟨g, 1, none⟩ (.int .u64 (c : Int))) w.heap.size 48 (.int .u64 0) (.int .u64 0) := whz hr1 (by omega)
  have hB2 : Below g w (w1.setCell ⟨g, 1, none⟩ (.int .u64 (c : Int))) := ((hbel.mono (show g ≤ w.heap.size by omega)).trans (hb2.mono (show g ≤ W.heap.size by omega))).setCell (p := ⟨g, 1, none⟩) (lrp1 _) _
  have hk2 : ∀ k, k ≠ g → k < w.heap.size → (w1.setCell ⟨g, 1, none⟩ (.int .u64 (c : Int))).heap[k]? = w.heap[k]? := fun k hk hkl => (Below.heap_setCell _ _ _ _ hk).trans ((hb2.block k (by omega)).trans (hbel.block k hkl))
  obtain ⟨W2, hW2⟩ : ∃ W2, Hid (w1.setCell ⟨g, 1, none⟩ (.int .u64 (c : Int)) = W2) := ⟨_, rfl⟩
  rw [hW2.out] at hw2 hs2 hr2 hB2 hk2 ⊢
  clear hW2 hw1 hs1 hr1 c0 c1 c2 c3 c4 hb1 hb2 d0 d1 f1 s0 s1 hw hs hr hbel hsub hshare
  have d1 := hw2.cell1
  have s1 := hs2.cell1
  have r0 := hr2.cell0
  have r1 := hr2.cell1
  have f0 := hr2.frozen0 0
  have f1 := hr2.frozen0 1
  have q := (hr2.set0 (.int .u64 (c : Int))).set1 (.int .u64 (b : Int))
  have q0 := q.cell0
  have q1 := q.cell1
  have qg : Two ((W2.setCell ⟨w.heap.size, 0, none⟩ (.int .u64 (c : Int))).setCell ⟨w.heap.size, 1, none⟩ (.int .u64 (b : Int))) g 195 (.int .u64 (a : Int)) (.int .u64 (c : Int)) := whz (whz hw2 (by omega)) (by omega)
  have qb : Below g w ((W2.setCell ⟨w.heap.size, 0, none⟩ (.int .u64 (c : Int))).setCell ⟨w.heap.size, 1, none⟩ (.int .u64 (b : Int))) := (hB2.setCell (p := ⟨w.heap.size, 0, none⟩) (by show g ≤ w.heap.size; omega) _).setCell (p := ⟨w.heap.size, 1, none⟩) (by show g ≤ w.heap.size; omega) _
  have qk : ∀ k, k ≠ g → k < w.heap.size → ((W2.setCell ⟨w.heap.size, 0, none⟩ (.int .u64 (c : Int))).setCell ⟨w.heap.size, 1, none⟩ (.int .u64 (b : Int))).heap[k]? = w.heap[k]? := fun k hk hkl => by
   rw [Below.heap_setCell _ _ _ _ (by show k ≠ w.heap.size; omega), Below.heap_setCell _ _ _ _ (by show k ≠ w.heap.size; omega)]; exact hk2 k hk hkl
  clear q hw2 hs2 hr2 hB2 hk2
  go_wp2
  go_region
  go_wp2
  exact bodyPost_ret (v := .agg #[.int .u64 (c : Int), .int .u64 (b : Int)]) (by simp [results, Tryz.f179, go_sem, q0, q1]) rfl ⟨rfl, qg, qk, qb.drew⟩
structure uCz (w : World) (a b : Nat) (w3 : World) : Prop where
 s : Two w3 w.heap.size 48 (.int .u64 (a : Int)) (.int .u64 (b : Int))
 r : Two w3 (w.heap.size + 1) 48 (.int .u64 0) (.int .u64 0)
 t : Two w3 (w.heap.size + 1 + 1) 48 (.int .u64 0) (.int .u64 0)
 g : Two w3 (w.heap.size + 1 + 1 + 1) 195 (.int .u64 (a : Int)) (.int .u64 (b : Int))
 bel : Below w.heap.size w w3
theorem jxz (w : World) (a b : Nat) : uCz w a b ((((w.alloc (.cells #[.int .u64 (a : Int), .int .u64 (b : Int)] 48)).alloc (.cells #[.int .u64 0, .int .u64 0] 48)).alloc (.cells #[.int .u64 0, .int .u64 0] 48)).alloc (.cells #[.int .u64 (a : Int), .int .u64 (b : Int)] 195)) where
 s := (((Two.new w _ _ _).alloc _).alloc _).alloc _
 r := by have h := ((Two.new (w.alloc (.cells #[.int .u64 (a : Int), .int .u64 (b : Int)] 48)) 48 (.int .u64 0) (.int .u64 0)).alloc (.cells #[.int .u64 0, .int .u64 0] 48)).alloc (.cells #[.int .u64 (a : Int), .int .u64 (b : Int)] 195); rw [World.size_alloc] at h; exact h
 t := by have h := (Two.new ((w.alloc (.cells #[.int .u64 (a : Int), .int .u64 (b : Int)] 48)).alloc (.cells #[.int .u64 0, .int .u64 0] 48)) 48 (.int .u64 0) (.int .u64 0)).alloc (.cells #[.int .u64 (a : Int), .int .u64 (b : Int)] 195); rw [World.size_alloc, World.size_alloc] at h; exact h
 g := by have h := Two.new (((w.alloc (.cells #[.int .u64 (a : Int), .int .u64 (b : Int)] 48)).alloc (.cells #[.int .u64 0, .int .u64 0] 48)).alloc (.cells #[.int .u64 0, .int .u64 0] 48)) 195 (.int .u64 (a : Int)) (.int .u64 (b : Int)); rw [World.size_alloc, World.size_alloc, World.size_alloc] at h; exact h
 bel := ((((brp1 _ w).alloc (lrp1 _) _).alloc (by simp) _).alloc (by simp; omega) _).alloc (by simp; omega) _
theorem uCz.next {w w3 w4 : World} (h : uCz w a b w3) (k : Below w3.heap.size w3 w4) : uCz w a b w4 :=
 ⟨h.s.next k, h.r.next k, h.t.next k, h.g.next k, h.bel.trans (k.mono h.bel.size)⟩
theorem kmz {W : World} {B : Nat} {t : TypeId} {u v x y : Value} (h : Two W B t u v) : Two ((W.setCell ⟨B, 0, none⟩ x).setCell ⟨B, 1, none⟩ y) B t x y := (h.set0 x).set1 y
theorem xJz {W : World} {B G : Nat} {t : TypeId} {u v x y : Value} (h : Two W G t u v) (hne : G ≠ B) : Two ((W.setCell ⟨B, 0, none⟩ x).setCell ⟨B, 1, none⟩ y) G t u v := whz (whz h hne) hne
theorem xuz {n : Nat} {w W : World} (h : Below n w W) {B : Nat} (hB : n ≤ B) (x y : Value) : Below n w ((W.setCell ⟨B, 0, none⟩ x).setCell ⟨B, 1, none⟩ y) := (h.setCell (p := ⟨B, 0, none⟩) hB _).setCell (p := ⟨B, 1, none⟩) hB _
theorem split_none (hab : a ≤ b) (hb : b ≤ 2305843009213693952) (hs : share a b = 0) (w : World) :
  Calls prog 138 #[.agg #[.int .u64 (a : Int), .int .u64 (b : Int)]] w fun e w' => e = .returned (.tuple #[.agg #[.int .u64 (a : Int), .int .u64 (b : Int)], .agg #[.int .u64 0, .int .u64 0], .int .i64 7]) ∧ Below w.heap.size w w' := by
 have hv : ltB 0 (share a b) = false := by rw [hs]; rfl
 have hG := jxz w a b
 clear hs
 go_enter func138, ntmps138
 go_upto_region 2 with fail
 obtain ⟨w3, hw3⟩ : ∃ w3, Hid ((((w.alloc (.cells #[.int .u64 (a : Int), .int .u64 (b : Int)] 48)).alloc (.cells #[.int .u64 0, .int .u64 0] 48)).alloc (.cells #[.int .u64 0, .int .u64 0] 48)).alloc (.cells #[.int .u64 (a : Int), .int .u64 (b : Int)] 195) = w3) := ⟨_, rfl⟩
 rw [hw3.out] at hG ⊢
 clear hw3
 go_upto_region 4 with (go_at_call 177; refine (jDz hab (by omega) hG.g false hv).mono ?_; rintro e w1 ⟨rfl, hb⟩; replace hG := hG.next hb; clear hb)
 have s0 := hG.s.cell0
 have s1 := hG.s.cell1
 have r0 := hG.r.cell0
 have r1 := hG.r.cell1
 have r2 := hG.r.frozen0 0
 have r3 := hG.r.frozen0 1
 have u0 := hG.t.cell0
 have u1 := hG.t.cell1
 have u2 := hG.t.frozen0 0
 have u3 := hG.t.frozen0 1
 have q := xJz (B := w.heap.size + 1 + 1) (x := .int .u64 0) (y := .int .u64 0) (kmz (x := .int .u64 (a : Int)) (y := .int .u64 (b : Int)) hG.r) (by omega)
 have q' := kmz (x := .int .u64 0) (y := .int .u64 0) (xJz (B := w.heap.size + 1) (x := .int .u64 (a : Int)) (y := .int .u64 (b : Int)) hG.t (by omega))
 have qb := xuz (xuz hG.bel (B := w.heap.size + 1) (by omega) (.int .u64 (a : Int)) (.int .u64 (b : Int))) (B := w.heap.size + 1 + 1) (by omega) (.int .u64 0) (.int .u64 0)
 have e0 := q.cell0
 have e1 := q.cell1
 have e2 := q'.cell0
 have e3 := q'.cell1
 clear q q' hG
 go_wp2
 exact bodyPost_ret (v := .tuple #[.agg #[.int .u64 (a : Int), .int .u64 (b : Int)], .agg #[.int .u64 0, .int .u64 0], .int .i64 7]) (by simp [results, Tryz.f138, go_sem, e0, e1, e2, e3]) rfl ⟨rfl, qb⟩
end SrM
namespace SrM
open Go.ChangeShapes Go.WideShapes Go.ChangeAt Go.RowKit
theorem split_some {a b c : Nat} (hab : a ≤ b) (hb : b ≤ 2305843009213693952) (hs : 0 < share a b) (hc : Hid (b - share a b = c)) (w : World) :
  Calls prog 138 #[.agg #[.int .u64 (a : Int), .int .u64 (b : Int)]] w fun e w' => e = .returned (.tuple #[.agg #[.int .u64 (a : Int), .int .u64 (c : Int)], .agg #[.int .u64 (c : Int), .int .u64 (b : Int)], .int .i64 0]) ∧ Below w.heap.size w w' := by
 have hv : ltB 0 (share a b) = true := decide_eq_true hs
 have hG := jxz w a b
 clear hs
 go_enter func138, ntmps138
 go_upto_region 2 with fail
 obtain ⟨w3, hw3⟩ : ∃ w3, Hid ((((w.alloc (.cells #[.int .u64 (a : Int), .int .u64 (b : Int)] 48)).alloc (.cells #[.int .u64 0, .int .u64 0] 48)).alloc (.cells #[.int .u64 0, .int .u64 0] 48)).alloc (.cells #[.int .u64 (a : Int), .int .u64 (b : Int)] 195) = w3) := ⟨_, rfl⟩
 rw [hw3.out] at hG ⊢
 clear hw3
 go_upto_region 6 with (first | (go_at_call 177; refine (jDz hab (by omega) hG.g true hv).mono ?_; rintro e w1 ⟨rfl, hb⟩; replace hG := hG.next hb; clear hb) | (go_at_call 179; refine (part_raw hab hb hc hG.g).mono ?_; rintro e w2 ⟨rfl, hg2, hk2, hB2⟩))
 have hlt := hG.g.lt
 have hsz := hB2.size
 have r2 : Two w2 (w.heap.size + 1) 48 (.int .u64 0) (.int .u64 0) := (hk2 _ (by omega) (by omega)).trans hG.r
 have t2 : Two w2 (w.heap.size + 1 + 1) 48 (.int .u64 0) (.int .u64 0) := (hk2 _ (by omega) (by omega)).trans hG.t
 have b2 : Below w.heap.size w w2 := hG.bel.trans (hB2.mono (by omega))
 have g3 := hg2.alloc (.cells #[.int .u64 (c : Int), .int .u64 (b : Int)] 48)
 have r3 := r2.alloc (.cells #[.int .u64 (c : Int), .int .u64 (b : Int)] 48)
 have t3 := t2.alloc (.cells #[.int .u64 (c : Int), .int .u64 (b : Int)] 48)
 have v3 := Two.new w2 48 (.int .u64 (c : Int)) (.int .u64 (b : Int))
 have b3 := b2.alloc (by omega) (.cells #[.int .u64 (c : Int), .int .u64 (b : Int)] 48)
 obtain ⟨W, hW⟩ : ∃ W, Hid (w2.alloc (.cells #[.int .u64 (c : Int), .int .u64 (b : Int)] 48) = W) := ⟨_, rfl⟩
 rw [hW.out] at g3 r3 t3 v3 b3 ⊢
 clear hW r2 t2 b2 hG hk2 hB2 hg2
 have s0 := g3.cell0
 have s1 := g3.cell1
 have v0 := v3.cell0
 have v1 := v3.cell1
 have r0 := r3.cell0
 have r1 := r3.cell1
 have r2 := r3.frozen0 0
 have r4 := r3.frozen0 1
 have u0 := t3.cell0
 have u1 := t3.cell1
 have u2 := t3.frozen0 0
 have u3 := t3.frozen0 1
 have q := xJz (B := w.heap.size + 1 + 1) (x := .int .u64 (c : Int)) (y := .int .u64 (b : Int)) (kmz (x := .int .u64 (a : Int)) (y := .int .u64 (c : Int)) r3) (by omega)
 have q' := kmz (x := .int .u64 (c : Int)) (y := .int .u64 (b : Int)) (xJz (B := w.heap.size + 1) (x := .int .u64 (a : Int)) (y := .int .u64 (c : Int)) t3 (by omega))
 have qb := xuz (xuz b3 (B := w.heap.size + 1) (by omega) (.int .u64 (a : Int)) (.int .u64 (c : Int))) (B := w.heap.size + 1 + 1) (by omega) (.int .u64 (c : Int)) (.int .u64 (b : Int))
 have e0 := q.cell0
 have e1 := q.cell1
 have e2 := q'.cell0
 have e3 := q'.cell1
 clear q q' g3 r3 t3 v3 b3
 have n1 : w2.heap.size ≠ w.heap.size + 1 := by omega
 have n2 : w2.heap.size ≠ w.heap.size + 1 + 1 := by omega
 go_region
 all_goals
  go_wp2
  exact bodyPost_ret (v := .tuple #[.agg #[.int .u64 (a : Int), .int .u64 (c : Int)], .agg #[.int .u64 (c : Int), .int .u64 (b : Int)], .int .i64 0]) (by simp [results, Tryz.f138, go_sem, e0, e1, e2, e3]) rfl ⟨rfl, qb.drew⟩
def hasK (k a b m : Nat) : Bool := (decide (1 ≤ m) && decide (m ≤ 2305843009213693952)) && hasB a b (Pm.numN k m)
end SrM
end Go.Proofs.YtloghnpfplljgaaGreat
