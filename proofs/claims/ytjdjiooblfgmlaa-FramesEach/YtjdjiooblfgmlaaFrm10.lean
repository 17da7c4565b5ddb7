/-
  PROVED HERE: what the document's answer for layer 11 returns when it is called (contracts over this translation). Frames are at most 100 where they are changed.
-/
import Derived.Test.YtjdjiooblfgmlaaFrm9
import Derived.Laws.MakeOwn
namespace Go.Proofs.Ytjdjiooblfgmlaa
open Go.RowKit Go.Shelf
set_option linter.unusedVariables false
attribute [local go_sem] Oper.semAt_some

namespace Frm
theorem hd0 (f : Fr) : hdB 0 f = false := by unfold hdB isF; simp
theorem drop0 (L : List Fr) : dropL 0 L = L := by
  unfold dropL; conv => rhs; rw [← List.map_id L]
  exact List.map_congr_left fun f _ => by rw [hd0]; rfl
theorem cnt0 (L : List Fr) : cnt (hdB 0) L = 0 := by unfold cnt; rw [List.countP_eq_zero]; intro f _; rw [hd0]; simp
theorem po0 (p : Int) (f : Fr) : poB 0 p f = false := by unfold poB; rw [hd0]; rfl
theorem fst0 (p : Int) (L : List Fr) : fst (poB 0 p) L = none := fst_none.2 fun i _ => po0 p _
theorem all_lt {p : Nat → Bool} {k : Nat} {b : Bool} (h : ∀ i, i < k → p i = b) (hk : p k = b) : ∀ i, i < k + 1 → p i = b := fun i hi => by
  rcases Nat.lt_or_ge i k with h' | h'
  · exact h i h'
  · have : i = k := by omega
    rw [this]; exact hk
end Frm
set_option maxRecDepth 100000 in
set_option maxHeartbeats 1000000 in
theorem rfind_any {w : World} {ao : Option Addr} {n cap : Nat} {L : List Frm.Fr} (hL : Lab w.heap.size w ao n cap L) (o p : Int) :
    Calls Try.prog 20 #[.slice ao n cap, .int .u64 o, .int .i64 p] w fun e w' => e = .returned (.tuple #[.int .i64 (Frm.fN (Frm.poB o p) L), .bool (Frm.fF (Frm.poB o p) L)]) ∧ w' = w := by
  have hln : Hid (L.length = n) := hL.1
  have hcm := hL.2.2.1.1
  have hnc := hL.2.1
  have hno : Hid (Frm.fst (Frm.poB o p) L = none → Frm.fN (Frm.poB o p) L = 0 ∧ Frm.fF (Frm.poB o p) L = false) := fun h => by unfold Frm.fN Frm.fF; rw [h]; exact ⟨rfl, rfl⟩
  have hyes : Hid (∀ k, Frm.fst (Frm.poB o p) L = some k → Frm.fN (Frm.poB o p) L = (k : Nat) ∧ Frm.fF (Frm.poB o p) L = true) := fun k h => by unfold Frm.fN Frm.fF; rw [h]; exact ⟨rfl, rfl⟩
  go_enter Try.func20, Try.ntmps20
  go_wp2
  go_loopw [8] (fun i wr => ∃ k : Nat, k ≤ n ∧ i = .int .i64 k ∧ Hid (∀ j, j < k → Frm.poB o p (Frm.fat L j) = false) ∧ wr = w) (fun i _ => n - (intOf i).toNat)
  case atStart => exact ⟨0, Nat.zero_le _, rfl, fun j hj => absurd hj (by omega), rfl⟩
  case round =>
    obtain ⟨k, hk, rfl, hal, rfl⟩ := hrel
    by_cases hkn : k < n
    · have hkn' : (k : Int) < n := by omega
      by_cases h0 : o = 0
      · subst h0
        obtain ⟨h1, h2⟩ := hno.out (Frm.fst0 p L)
        have H1 : Hid (Frm.fN (Frm.poB 0 p) L = 0) := h1
        have H2 : Hid (Frm.fF (Frm.poB 0 p) L = false) := h2
        clear h1 h2
        go_wp2
        go_ret2
        exact ⟨by rw [H1.out, H2.out]; rfl, rfl⟩
      · have h0' : (o == 0) = false := by simpa using h0
        obtain ⟨b, off, x, y, rfl, hB, q0, q1, hxy⟩ := LabD.at hL hkn
        have hxf : Hid (Frm.fat L k = (x, y)) := hxy.out
        by_cases hx : x = o
        · by_cases hy : y = p
          · subst hx hy
            have hf : Frm.fst (Frm.poB x y) L = some k := Frm.fst_some.2 ⟨by rw [hln.out]; exact hkn, by rw [hxf.out]; simp [Frm.poB, Frm.hdB, Frm.isF, h0], hal.out⟩
            obtain ⟨h1, h2⟩ := hyes.out k hf
            have H1 : Hid (Frm.fN (Frm.poB x y) L = (k : Nat)) := h1
            have H2 : Hid (Frm.fF (Frm.poB x y) L = true) := h2
            clear h1 h2 hf
            go_wp2
            go_ret2
            exact ⟨by rw [H1.out, H2.out]; rfl, rfl⟩
          · subst hx
            have hy' : (y == p) = false := by simpa using hy
            have hal2 : Hid (∀ j, j < k + 1 → Frm.poB x p (Frm.fat L j) = false) := Frm.all_lt hal.out (by rw [hxf.out]; simp [Frm.poB, hy])
            go_wp2
            go_roundw
            case rel => exact ⟨k + 1, by omega, by go_num, hal2, trivial⟩
            case measure => simp [intOf]; omega
        · have hx' : (x == o) = false := by simpa using hx
          have hal2 : Hid (∀ j, j < k + 1 → Frm.poB o p (Frm.fat L j) = false) := Frm.all_lt hal.out (by rw [hxf.out]; simp [Frm.poB, Frm.hdB, hx])
          go_wp2
          go_roundw
          case rel => exact ⟨k + 1, by omega, by go_num, hal2, trivial⟩
          case measure => simp [intOf]; omega
    · obtain rfl : k = n := by omega
      obtain ⟨h1, h2⟩ := hno.out (Frm.fst_none.2 fun i hi => hal.out i (by rw [hln.out] at hi; exact hi))
      have H1 : Hid (Frm.fN (Frm.poB o p) L = 0) := h1
      have H2 : Hid (Frm.fF (Frm.poB o p) L = false) := h2
      clear h1 h2
      go_wp2
      go_ret2
      exact ⟨by rw [H1.out, H2.out]; rfl, rfl⟩
set_option maxRecDepth 100000 in
set_option maxHeartbeats 1000000 in
theorem rfree_any {w : World} {ao : Option Addr} {n cap : Nat} {L : List Frm.Fr} (hL : Lab w.heap.size w ao n cap L) :
    Calls Try.prog 22 #[.slice ao n cap] w fun e w' => e = .returned (.int .i64 (Frm.cnt Frm.isF L : Nat)) ∧ w' = w := by
  have hln : Hid (L.length = n) := hL.1
  have hcm := hL.2.2.1.1
  have hnc := hL.2.1
  go_enter Try.func22, Try.ntmps22
  go_wp2
  go_loopw [3, 4] (fun v i wr => ∃ k c : Nat, k ≤ n ∧ c ≤ k ∧ i = .int .i64 k ∧ v = .int .i64 c ∧ Hid ((Frm.hitK Frm.isF L k).length = c) ∧ wr = w) (fun _ i _ => n - (intOf i).toNat)
  case atStart => exact ⟨0, 0, Nat.zero_le _, Nat.le_refl _, rfl, rfl, rfl, rfl⟩
  case round =>
    obtain ⟨k, c, hk, hck, rfl, rfl, hal, rfl⟩ := hrel
    by_cases hkn : k < n
    · have hkn' : (k : Int) < n := by omega
      obtain ⟨b, off, x, y, rfl, hB, q0, q1, hxy⟩ := LabD.at hL hkn
      have hxf : Hid (Frm.fat L k = (x, y)) := hxy.out
      by_cases hx : x = 0
      · subst hx
        have hal2 : Hid ((Frm.hitK Frm.isF L (k + 1)).length = c + 1) := by show _ = _; rw [Frm.hitK_hit (by rw [hxf.out]; rfl), List.length_append, hal.out]; rfl
        go_wp2
        go_roundw
        case rel => exact ⟨k + 1, c + 1, by omega, by omega, by go_num, by go_num, hal2, trivial⟩
        case measure => simp [intOf]; omega
      · have hx' : (x == 0) = false := by simpa using hx
        have hal2 : Hid ((Frm.hitK Frm.isF L (k + 1)).length = c) := by show _ = _; rw [Frm.hitK_miss (by rw [hxf.out]; simp [Frm.isF, hx]), hal.out]
        go_wp2
        go_roundw
        case rel => exact ⟨k + 1, c, by omega, by omega, by go_num, rfl, hal2, trivial⟩
        case measure => simp [intOf]; omega
    · obtain rfl : k = n := by omega
      have hr : Hid (Frm.cnt Frm.isF L = c) := by show _ = _; rw [← Frm.hits_len]; unfold Frm.hits; rw [hln.out]; exact hal.out
      go_wp2
      go_ret
      exact ⟨by rw [hr.out]; rfl, rfl⟩
set_option maxRecDepth 100000 in
set_option maxHeartbeats 1000000 in
theorem rsame_any {w : World} {a a' : Option Addr} {n c n' c' : Nat} {L M : List Frm.Fr} (h : Lab w.heap.size w a n c L) (h' : Lab w.heap.size w a' n' c' M) :
    Calls Try.prog 12 #[.slice a n c, .slice a' n' c'] w fun e w' => e = .returned (.bool (sameB L M)) ∧ Below w.heap.size w w' := by
  have hn : Hid (L.length = n) := h.1
  have hn' : Hid (M.length = n') := h'.1
  have hnc := h.2.1
  have hcm := h.2.2.1.1
  have hnc' := h'.2.1
  have hcm' := h'.2.2.1.1
  by_cases hnn : n = n'
  · subst hnn
    go_enter Try.func12, Try.ntmps12
    go_wp2
    go_loopw [5] (fun i wr => ∃ k : Nat, k ≤ n ∧ i = .int .i64 k ∧ Hid (∀ j, j < k → L.getD j (0, 0) = M.getD j (0, 0)) ∧ Below w.heap.size w wr) (fun i _ => n - (intOf i).toNat)
    case atStart => exact ⟨0, Nat.zero_le _, rfl, fun j hj => absurd hj (by omega), Below.refl _ _⟩
    case round =>
      obtain ⟨k, hk, rfl, hal, hb⟩ := hrel
      by_cases hkn : k < n
      · obtain ⟨b, off, x, y, rfl, hB, q0, q1, hx⟩ := h.at hb hkn
        obtain ⟨b', off', x', y', rfl, hB', q0', q1', hx'⟩ := h'.at hb hkn
        have hkn' : (k : Int) < n := by omega
        by_cases hxx : (x, y) = (x', y')
        · obtain ⟨rfl, rfl⟩ := Prod.mk.injEq .. ▸ hxx
          have hal2 : Hid (∀ j, j < k + 1 → L.getD j (0, 0) = M.getD j (0, 0)) := eq_succ hal.out (hx.out.trans hx'.out.symm)
          clear hxx
          go_wp2
          go_quiet (fail)
          go_wp2
          go_roundw
          case rel => exact ⟨k + 1, by omega, by go_num, hal2, below_drewN hb _⟩
          case measure => simp [intOf]; omega
        · have hf : Hid (sameB L M = false) := sameB_at hx.out hx'.out hxx
          by_cases hx1 : x = x'
          · subst hx1
            have hy1 : (y == y') = false := by rw [beq_eq_false_iff_ne]; intro e; exact hxx (by rw [e])
            clear hxx
            go_wp2
            go_quiet (fail)
            go_wp2
            go_ret
            exact ⟨(by rw [hf.out]; rfl), below_drewN hb _⟩
          · have hy1 : (x == x') = false := by simpa using hx1
            clear hxx
            go_wp2
            go_quiet (fail)
            go_wp2
            go_ret
            exact ⟨(by rw [hf.out]; rfl), below_drewN hb _⟩
      · obtain rfl : k = n := by omega
        have hf : Hid (sameB L M = true) := sameB_all (by rw [hn.out, hn'.out]) (fun i hi => hal.out i (by rw [hn.out] at hi; exact hi))
        go_wp2
        go_ret
        exact ⟨(by rw [hf.out]; rfl), hb⟩
  · have hf : Hid (sameB L M = false) := sameB_len (by rw [hn.out, hn'.out]; exact hnn)
    have hne : ((n : Int) == (n' : Int)) = false := by simp; omega
    go_enter Try.func12, Try.ntmps12
    go_wp2
    go_ret
    exact ⟨(by rw [hf.out]; rfl), Below.refl _ _⟩
end Go.Proofs.Ytjdjiooblfgmlaa
