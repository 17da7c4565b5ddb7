/-
  PROVED HERE: what Join, Meet, Raise and Lower of the document's answer to label return when they are called (contracts over this translation). The labels have fewer than 2^36 pairs.
-/
import Derived.Test.YtfpmkihlfhpgdaaLabRef1
import Derived.Deep.RegionHeld3
import Derived.Deep.AppendLies
import Derived.WalkSpells
namespace Go.Proofs.Ytfpmkihlfhpgdaa
open Go.ChangeShapes Go.WideShapes Go.ChangeAt Go.RowKit
set_option linter.unusedVariables false

/-- Two labels, the levels of the first's categories put into the first, one by one; then those of the second's. -/
def rj1 (op : Int → Int → Int) (A C : List (Int × Int)) (k : Nat) : List (Int × Int) := (A.take k).foldl (fun O p => rwithL O p.1 (op p.2 (get C p.1))) A
def rj2 (op : Int → Int → Int) (A C : List (Int × Int)) (k : Nat) : List (Int × Int) := (C.take k).foldl (fun O q => rwithL O q.1 (op (get A q.1) q.2)) (rj1 op A C A.length)
def rfoldL (op : Int → Int → Int) (A C : List (Int × Int)) : List (Int × Int) := rj2 op A C C.length
theorem rj1_succ {op : Int → Int → Int} {A C : List (Int × Int)} {k : Nat} {x y : Int} (h : k < A.length) (e : A.getD k (0, 0) = (x, y)) : rj1 op A C (k + 1) = rwithL (rj1 op A C k) x (op y (get C x)) := by
  have e' : A[k] = (x, y) := by simpa [List.getD_eq_getElem?_getD, List.getElem?_eq_getElem h] using e
  unfold rj1
  rw [List.take_succ_eq_append_getElem h, e', List.foldl_append]
  rfl
theorem rj2_succ {op : Int → Int → Int} {A C : List (Int × Int)} {k : Nat} {x y : Int} (h : k < C.length) (e : C.getD k (0, 0) = (x, y)) : rj2 op A C (k + 1) = rwithL (rj2 op A C k) x (op (get A x) y) := by
  have e' : C[k] = (x, y) := by simpa [List.getD_eq_getElem?_getD, List.getElem?_eq_getElem h] using e
  unfold rj2
  rw [List.take_succ_eq_append_getElem h, e', List.foldl_append]
  rfl
def rmapL (op : Int → Int) (A : List (Int × Int)) : List (Int × Int) := A.map fun p => (p.1, op p.2)
theorem rmap_succ {op : Int → Int} {A : List (Int × Int)} {k : Nat} {x y : Int} (h : k < A.length) (e : A.getD k (0, 0) = (x, y)) : rmapL op (A.take (k + 1)) = rmapL op (A.take k) ++ [(x, op y)] := by
  have e' : A[k] = (x, y) := by simpa [List.getD_eq_getElem?_getD, List.getElem?_eq_getElem h] using e
  unfold rmapL
  rw [List.take_succ_eq_append_getElem h, e', List.map_append]
  rfl

set_option maxRecDepth 100000 in
set_option maxHeartbeats 4000000 in
theorem rlraise_any {w : World} {ao : Option Addr} {n cap : Nat} {L : List (Int × Int)} (hL : Lab w.heap.size w ao n cap L) (hk : n < 68719476736) :
    Calls Try.prog 59 #[.slice ao n cap] w fun e w' => ∃ ao1 n1 cap1, e = .returned (.slice ao1 n1 cap1) ∧ Lab w'.heap.size w' ao1 n1 cap1 (rmapL Lv.raise L) ∧ n1 ≤ n ∧ Below w.heap.size w w' := by
  obtain ⟨i0, hi, hz0, hz1, hz2⟩ := info_parts infoPair
  have hn := hL.1
  have hcm := hL.2.2.1.1
  have hnc := hL.2.1
  go_enter Try.func59, Try.ntmps59
  go_wp2
  go_loopw [3, 4] (fun v i wr => ∃ (k : Nat) (ao1 : Option Addr) (cap1 : Nat), k ≤ n ∧ i = .int .i64 k ∧ v = .slice ao1 k cap1 ∧ OwnL w.heap.size wr ao1 k cap1 (rmapL Lv.raise (L.take k)) ∧ Below w.heap.size w wr) (fun _ i _ => n - (intOf i).toNat)
  case atStart => exact ⟨0, _, _, Nat.zero_le _, rfl, rfl, OwnL.nil _ _, Below.refl _ _⟩
  case round =>
    obtain ⟨k, ao1, cap1, hkn, rfl, rfl, hO, hb⟩ := hrel
    have hbs := hb.size
    by_cases hlt : k < n
    · obtain ⟨b, off, x, y, hao, hbB, d0, d1, hxy⟩ := hL.at hb hlt
      subst hao
      have hbw : b < wr.heap.size := by omega
      have hlt' : (k : Int) < n := by omega
      obtain ⟨hOl, hrow⟩ := hO
      have hs : Hid (rmapL Lv.raise (L.take (k + 1)) = rmapL Lv.raise (L.take k) ++ [(x, Lv.raise y)]) := rmap_succ (by omega) hxy.out
      have HOl : Hid ((rmapL Lv.raise (L.take k)).length = k) := hOl
      clear hL hOl
      go_wp2
      go_region_held3 (fun w' => w'.cell? ⟨b, off + k * 2, none⟩ = some (.int .u64 x) ∧ w'.cell? ⟨b, off + k * 2 + 1, none⟩ = some (.int .i64 y)) (go_keep) (first | (go_at_call 82; refine (rraise_any _ _).mono ?_; rintro e w' ⟨rfl, rfl⟩) | (refine step_append_lies _ rfl _ _ 24 rfl w.heap.size 61 i0 (.agg #[.int .u64 0, .int .i64 0]) 2 16 Try.underlying24 hi hz0 hz1 hz2 rfl (by decide) _ _ _ rfl (hrow.drew.alloc _) ⟨wr.heap.size, 0, none⟩ 1 1 [.int .u64 x, .int .i64 (Lv.raise y)] rfl rfl (cell_two_new wr.drew _ _ _) (by simp [Value.oneCell']) (by omega) (by unfold maxLen; omega) (by omega) (by simp; omega) _ rfl ?_; intro g1 cp1 w1 hown1 hgrow1 hat hlt1; have hb1 := app_below hb.drew hrow.drew hgrow1 hbs; have e0 := (hb1.cell (p := ⟨b, off + k * 2, none⟩) hbB).trans ((hb.cell (p := ⟨b, off + k * 2, none⟩) hbB).symm.trans d0); have e1 := (hb1.cell (p := ⟨b, off + k * 2 + 1, none⟩) hbB).trans ((hb.cell (p := ⟨b, off + k * 2 + 1, none⟩) hbB).symm.trans d1)))
      go_wp2
      go_roundw
      case rel => exact ⟨k + 1, some ⟨g1, 0, none⟩, cp1, by omega, by go_num, rfl, ⟨by rw [hs.out]; simp [HOl.out], by rw [hs.out, cellsOf_append]; exact hown1⟩, hb1⟩
      case measure => simp [intOf]; omega
    · have hkn2 : k = n := by omega
      subst hkn2
      have hr : Hid (rmapL Lv.raise (L.take k) = rmapL Lv.raise L) := by show rmapL Lv.raise (L.take k) = _; rw [List.take_of_length_le (by omega)]
      clear hL
      go_wp2
      go_ret
      exact ⟨_, _, _, rfl, by rw [← hr.out]; exact hO.lab, Nat.le_refl _, hb⟩
end Go.Proofs.Ytfpmkihlfhpgdaa
