/-
 PROVED HERE: what the document's Walk of chapter 18 returns when it is called (a contract over this translation); plain fac. What is asked stands at each.
-/
import Derived.Test.YtdeddhojjolihaaGreatZ26
import Derived.Test.YtdeddhojjolihaaGreatZ31
import Derived.Test.YtdeddhojjolihaaGreatZ32
import Derived.Test.YtdeddhojjolihaaGreatZ33
namespace Go.Proofs.YtdeddhojjolihaaGreat
set_option maxRecDepth 100000
set_option maxHeartbeats 8000000
set_option linter.unusedVariables false
section
open Go.RowKit Go.Shelf
attribute [local go_sem] Oper.semAt_some
theorem laidO {w W2 w3 W4 V4 : World} {P : Nat} {C : Array Value} {x : Ob} (hk : Below w.heap.size w W2) (hb3 : Below W2.heap.size W2 w3) (oF : ObD (LtN w) w3 C x) (hN4 : Hid (w3.heap.size = P ∧ W4.heap.size = P + 1)) (hk4 : Below w3.heap.size w3 W4) (q4 : Oth P W4 V4) : Below W2.heap.size W2 V4 ∧ ObF 0 w.heap.size V4 C x := by
 obtain ⟨h1, h2⟩ := laidL hk hb3 oF hN4 hk4 q4
 exact ⟨h1, h2.wide fun b hb => ⟨Nat.zero_le _, hb⟩, Nat.le_trans hk.size h1.size⟩
end
section
open Go.RowKit Go.Shelf
theorem alo_maps {x : Ob} (h : aloO x = x) (hk : ¬ x.kind = 3) : x.maps = [] := by
 have e : (aloO x).maps = [] := by
  unfold aloO
  by_cases h1 : x.kind = 1
  ·rw [if_pos h1]
  rw [if_neg h1]
  by_cases h2 : x.kind = 2
  ·rw [if_pos h2]
  rw [if_neg h2, if_neg hk]
  by_cases h4 : x.kind = 4
  ·rw [if_pos h4]
  rw [if_neg h4]
  by_cases h5 : x.kind = 5
  ·rw [if_pos h5]
  rw [if_neg h5]
  by_cases h6 : x.kind = 6
  ·rw [if_pos h6]
  rw [if_neg h6]; rfl
 rw [h] at e; exact e
theorem wPz {x : Ob} (hs : qQz x = true) : Small x := by
 obtain ⟨hc, ho, hw⟩ := qqz.1 hs
 have ha := (qUz x).1 hw
 have hq := (q9z.1 hc).2.2.1
 refine voz hs ⟨?_, ?_, ?_⟩
 ·by_cases k2 : x.kind = 2
  ·unfold ownB at ho
   rw [if_neg (by rw [k2]; decide), if_pos k2] at ho
   simp only [Bool.and_eq_true, decide_eq_true_eq] at ho
   omega
  ·rw [uUz hs k2]; decide
 ·by_cases k1 : x.kind = 1
  ·unfold ownB at ho
   rw [if_pos k1] at ho
   simp only [decide_eq_true_eq] at ho
   omega
  ·rw [alo_data ha k1]; decide
 ·by_cases k3 : x.kind = 3
  ·unfold ownB at ho
   rw [if_neg (by rw [k3]; decide), if_neg (by rw [k3]; decide), if_pos k3] at ho
   unfold PgM.Pg.fitB at ho
   simp only [Bool.and_eq_true, decide_eq_true_eq] at ho
   omega
  ·rw [alo_maps ha k3]; decide
end
end Go.Proofs.YtdeddhojjolihaaGreat
