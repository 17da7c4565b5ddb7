/-
  PROVED HERE: codec's fromWords and the document's answer to it (contracts over this translation): the label that words begin with, as a function of lists of integers.
-/
import Derived.Test.YtpagpjidahaaeaaDoorCod1
import Derived.Test.YtpagpjidahaaeaaDoorLabOwned
import Derived.Test.YtpagpjidahaaeaaDoorLabRef1
import Derived.Test.YtpagpjidahaaeaaDoorLabFold
import Derived.Deep.AppendLies
import Derived.Deep.RegionHeld3
namespace Go.Proofs.YtpagpjidahaaeaaDoor
open Go.RowKit Go.Shelf
set_option linter.unusedVariables false

def pairAt (W : List Int) (i : Nat) : Int × Int := (W.getD (1 + 2 * i) 0, W.getD (2 + 2 * i) 0)
def pairsK (W : List Int) (k : Nat) : List (Int × Int) := (List.range k).map (pairAt W)
def levsOk (W : List Int) (n : Nat) : Bool := (List.range n).all fun i => decide ((pairAt W i).2 ≤ 5)
def wcount (W : List Int) : Nat := (W.getD 0 0).toNat
def parseW (W : List Int) : Option (List (Int × Int)) :=
  if 0 < W.length ∧ W.getD 0 0 ≤ 16 ∧ 1 + 2 * wcount W ≤ W.length ∧ levsOk W (wcount W) = true ∧ fitB (pairsK W (wcount W)) = true then some (pairsK W (wcount W)) else none
theorem pairsK_len (W : List Int) (k : Nat) : (pairsK W k).length = k := by simp [pairsK]
theorem pairsK_succ (W : List Int) (k : Nat) : pairsK W (k + 1) = pairsK W k ++ [pairAt W k] := by simp [pairsK, List.range_succ]
theorem levsOk_no {W : List Int} {n k : Nat} (h : k < n) (e : ¬ (pairAt W k).2 ≤ 5) : levsOk W n = false := by
  unfold levsOk
  rw [List.all_eq_false]
  exact ⟨k, List.mem_range.2 h, by simpa using e⟩
theorem levsOk_yes {W : List Int} {n : Nat} (h : ∀ i, i < n → (pairAt W i).2 ≤ 5) : levsOk W n = true := by
  unfold levsOk
  rw [List.all_eq_true]
  intro i hi
  simpa using h i (List.mem_range.1 hi)
theorem parseW_none {W : List Int} (h : ¬ (0 < W.length ∧ W.getD 0 0 ≤ 16 ∧ 1 + 2 * wcount W ≤ W.length ∧ levsOk W (wcount W) = true ∧ fitB (pairsK W (wcount W)) = true)) : parseW W = none := by unfold parseW; rw [if_neg h]
theorem parseW_some {W : List Int} (h : 0 < W.length ∧ W.getD 0 0 ≤ 16 ∧ 1 + 2 * wcount W ≤ W.length ∧ levsOk W (wcount W) = true ∧ fitB (pairsK W (wcount W)) = true) : parseW W = some (pairsK W (wcount W)) := by unfold parseW; rw [if_pos h]
/-- Words: numbers of 64 bits. -/
def U64s (W : List Int) : Prop := ∀ i, 0 ≤ W.getD i 0 ∧ W.getD i 0 < 18446744073709551616

/-- What a reader tells: a label in a row of its own, or what it throws. -/
def Told (k : Int) (w : World) (o : Option (List (Int × Int))) (e : Ending) (w' : World) : Prop :=
  (∀ L, o = some L → ∃ ao n cap, e = .returned (.slice ao n cap) ∧ OwnL w.heap.size w' ao n cap L) ∧ (o = none → e = .panicked (thrown k)) ∧ Below w.heap.size w w'
theorem Told.no {k : Int} {w w' : World} {o : Option (List (Int × Int))} (h : o = none) (hb : Below w.heap.size w w') : Told k w o (.panicked (thrown k)) w' := ⟨fun L e => (by rw [h] at e; cases e), fun _ => rfl, hb⟩
theorem Told.yes {k : Int} {w w' : World} {o : Option (List (Int × Int))} {L : List (Int × Int)} {ao : Option Addr} {n cap : Nat} (h : o = some L) (ho : OwnL w.heap.size w' ao n cap L) (hb : Below w.heap.size w w') : Told k w o (.returned (.slice ao n cap)) w' :=
  ⟨fun L' e => (by rw [h] at e; cases e; exact ⟨_, _, _, rfl, ho⟩), fun e => (by rw [h] at e; cases e), hb⟩

theorem Cts.at' {w wr : World} {ao : Option Addr} {n cap : Nat} {C : List Int} {B : Nat} (h : Cts B w ao n cap C) (k : Below B w wr) {i : Nat} (hi : i < n) :
    ∃ (b off : Nat), ao = some ⟨b, off, none⟩ ∧ b < B ∧ wr.cell? ⟨b, off + i, none⟩ = some (.int .u64 (C.getD i 0)) := by
  obtain ⟨h1, h2, h3, h4⟩ := h.later k
  obtain ⟨b, off, e, hb, hc⟩ := h4 (by omega)
  exact ⟨b, off, e, hb, hc i hi⟩

theorem size_any (k : Int) (w : World) (h0 : 0 ≤ k) (h1 : k < 4611686018427387903) : Calls Tryd.prog 22 #[.int .i64 k] w fun e w' => e = .returned (.int .i64 (1 + 2 * k)) ∧ w = w' := by
  have hw : wrap64 (2 * k) = 2 * k := by unfold wrap64; omega
  have hw' : wrap64 (1 + 2 * k) = 1 + 2 * k := by unfold wrap64; omega
  go_enter Tryd.func22, Tryd.ntmps22
  go_wp2
  go_ret
  exact ⟨rfl, rfl⟩

theorem fromWords_empty {w : World} {ao : Option Addr} {cap : Nat} (W : List Int) (hW : W.length = 0) :
    Calls Tryd.prog 21 #[.slice ao 0 cap] w (Told 11 w (parseW W)) := by
  go_enter Tryd.func21, Tryd.ntmps21
  go_wp2_with (go_at_call 34; refine (need_no 11 _).mono ?_; rintro e w' ⟨rfl, rfl⟩)
  exact ⟨rfl, Told.no (parseW_none (by omega)) (Below.refl _ _)⟩

theorem size_nat (k m : Nat) (w : World) (hm : 1 + 2 * k = m) (h1 : m < 4611686018427387903) : Calls Tryd.prog 22 #[.int .i64 (k : Int)] w fun e w' => e = .returned (.int .i64 (m : Int)) ∧ w = w' := by
  have h := size_any (k : Int) w (by omega) (by omega)
  rw [show (1 + 2 * (k : Int)) = (m : Int) by omega] at h
  exact h

set_option maxRecDepth 100000 in
theorem fromWords_great {w : World} {ao : Option Addr} {n cap : Nat} {W : List Int} (hC : Cts w.heap.size w ao n cap W) (hn : 0 < n) (hg : 16 < W.getD 0 0) :
    Calls Tryd.prog 21 #[.slice ao n cap] w (Told 11 w (parseW W)) := by
  obtain ⟨b, off, rfl, hb, c0⟩ := hC.at' (Below.refl _ _) hn
  have hnc := hC.2.1
  have hcm := hC.2.2.1
  have hr : Hid (parseW W = none) := parseW_none (fun h => absurd hg (Int.not_lt.2 h.2.1))
  rw [Nat.add_zero] at c0
  generalize W.getD 0 0 = x at c0 hg
  have hx : ¬ x ≤ 16 := by omega
  clear hC hg
  go_enter Tryd.func21, Tryd.ntmps21
  go_wp2_with (go_at_call 34; refine (need_no 11 _).mono ?_; rintro e w' ⟨rfl, rfl⟩)
  exact ⟨rfl, Told.no hr.out (Below.refl _ _)⟩

set_option maxRecDepth 100000 in
theorem fromWords_short {w : World} {ao : Option Addr} {n cap : Nat} {W : List Int} (hC : Cts w.heap.size w ao n cap W) (hn : 0 < n) (h0 : 0 ≤ W.getD 0 0) (hg : W.getD 0 0 ≤ 16) (hs : n < 1 + 2 * wcount W) :
    Calls Tryd.prog 21 #[.slice ao n cap] w (Told 11 w (parseW W)) := by
  obtain ⟨b, off, rfl, hb, c0⟩ := hC.at' (Below.refl _ _) hn
  have hnc := hC.2.1
  have hcm := hC.2.2.1
  have hr : Hid (parseW W = none) := parseW_none (fun h => absurd hs (Nat.not_lt.2 (hC.1 ▸ h.2.2.1)))
  rw [Nat.add_zero] at c0
  unfold wcount at hs
  generalize W.getD 0 0 = x at c0 hg hs h0
  have hlt : ¬ (1 + 2 * x) ≤ (n : Int) := by omega
  have hcx : wrap64 x = x := by unfold wrap64; omega
  have hq : decide (1 + 2 * x ≤ (n : Int)) = false := decide_eq_false hlt
  clear hC hs hlt
  go_enter Tryd.func21, Tryd.ntmps21
  go_wp2_with (first | (go_at_call 34; refine (need_yes 11 _).mono ?_; rintro e w' ⟨rfl, rfl⟩) | (go_at_call 34; refine (need_no 11 _).mono ?_; rintro e w' ⟨rfl, rfl⟩) | (go_at_call 22; refine (size_any x _ (by omega) (by omega)).mono ?_; rintro e w' ⟨rfl, rfl⟩))
  exact ⟨rfl, Told.no hr.out (Below.refl _ _)⟩

end Go.Proofs.YtpagpjidahaaeaaDoor
