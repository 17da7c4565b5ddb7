/-
  PROVED HERE: codec.Text (a contract over this translation): a label's text, as a function of lists.
-/
import Derived.Test.YtbmfehkahjeobaaDoorCod6
import Derived.Test.YtbmfehkahjeobaaDoorLabCon2
import Derived.Test.YtbmfehkahjeobaaDoorLabOwned
import Derived.Test.YtbmfehkahjeobaaDoorLabRef1
import Derived.Test.YtbmfehkahjeobaaDoorLabFold
import Derived.Deep.AppendLies
import Derived.Deep.RegionHeld3
import Derived.WalkKit
import Derived.Lib.ItoaLen
namespace Go.Proofs.YtbmfehkahjeobaaDoor
open Go.RowKit Go.Shelf
set_option linter.unusedVariables false

theorem infoStr : (Tryd.prog.info? 9).map (fun i => (i.zero, i.size, i.bytes)) = some (some (.string ⟨#[]⟩), 1, 16) := by kernel_rfl
def itemT (p : Int × Int) : ByteArray := (dec p.1.toNat ++ colonB) ++ Lv.txt p.2
def items (L : List (Int × Int)) (k : Nat) : List ByteArray := (L.take k).map itemT
theorem items_len {L : List (Int × Int)} {k : Nat} (h : k ≤ L.length) : (items L k).length = k := by simp [items]; omega
theorem items_succ {L : List (Int × Int)} {k : Nat} {x y : Int} (h : k < L.length) (e : L.getD k (0, 0) = (x, y)) : items L (k + 1) = items L k ++ [itemT (x, y)] := by
  have e' : L[k] = (x, y) := by simpa [List.getD_eq_getElem?_getD, List.getElem?_eq_getElem h] using e
  unfold items
  rw [List.take_succ_eq_append_getElem h, e', List.map_append]
  rfl
def U64p (L : List (Int × Int)) : Prop := ∀ k, 0 ≤ (L.getD k (0, 0)).1 ∧ (L.getD k (0, 0)).1 < 18446744073709551616
def joined (L : List (Int × Int)) : ByteArray := ⟨(Lib.join ((L.map itemT).map (·.data.toList)) [44]).toArray⟩

theorem txt_len (n : Int) : (Lv.txt n).size = 1 := by unfold Lv.txt; (repeat' split) <;> rfl
theorem itemT_len (p : Int × Int) (h : p.1.toNat < 18446744073709551616) : (itemT p).data.toList.length ≤ 100 := by
  have h1 : (dec p.1.toNat).size ≤ 20 := by rw [dec, size_mk, Lib.decDigits_length]; exact Lib.nDigits_le20 _ h
  have h2 := txt_len p.2
  have h3 : colonB.size = 1 := rfl
  rw [size_list]
  unfold itemT
  rw [ByteArray.size_append, ByteArray.size_append]
  omega
theorem joined_len (L : List (Int × Int)) (h : L.length ≤ 65536) (hU : U64p L) : (Lib.join ((L.map itemT).map (·.data.toList)) (ByteArray.mk #[44]).data.toList).length ≤ 140737488355328 := by
  have key : ∀ (M : List (Int × Int)), (∀ p ∈ M, p.1.toNat < 18446744073709551616) → Lib.lens ((M.map itemT).map (·.data.toList)) ≤ 100 * M.length := by
    intro M
    induction M with
    | nil => intro _; simp [Lib.lens]
    | cons p r ih =>
      intro h
      have h1 := ih (fun q hq => h q (List.mem_cons_of_mem _ hq))
      have h2 : (itemT p).data.toList.length ≤ 100 := itemT_len p (h p (List.mem_cons_self ..))
      simp [Lib.lens] at *
      omega
  have hall : ∀ p ∈ L, p.1.toNat < 18446744073709551616 := by
    intro p hp
    obtain ⟨i, hi, rfl⟩ := List.getElem_of_mem hp
    have := hU i
    simp [List.getD_eq_getElem?_getD, List.getElem?_eq_getElem hi] at this
    omega
  cases L with
  | nil => exact Nat.zero_le _
  | cons p r =>
    have h1 := key (p :: r) hall
    simp only [List.map_cons] at h1 ⊢
    rw [Lib.join_length]
    simp only [List.length_cons, List.length_map] at *
    show 1 * _ + _ ≤ _
    omega
theorem ownsRow_next {W W' : World} {b : Nat} {e : TypeId} {size : Nat} {v : Value} {k : Nat} {xs : List Value} (h : W.ownsRow b e size v k xs) (hb : Below W.heap.size W W') : W'.ownsRow b e size v k xs := by
  refine h.kept (below_grown hb) ?_
  cases ho : v.ownBlock with
  | none => exact .inl rfl
  | some a => exact .inr (by simp)
set_option maxRecDepth 100000 in
set_option maxHeartbeats 4000000 in
theorem text_main {w : World} {ao : Option Addr} {n cap : Nat} {L : List (Int × Int)} (hL : Lab w.heap.size w ao n cap L) (hU : U64p L) (hv : Vars w) (hf : fitB L = true) (hn : 0 < n) (hn2 : n ≤ 65536) :
    Calls Tryd.prog 7 #[.slice ao n cap] w fun e w' => e = .returned (.string (joined L)) ∧ Below w.heap.size w w' := by
  obtain ⟨i0, hi, hz0, hz1, hz2⟩ := info_parts infoStr
  have hll := hL.1
  have hnc := hL.2.1
  have hcm := hL.2.2.1.1
  have HL : Hid (Lab w.heap.size w ao n cap L) := hL
  have HU : Hid (U64p L) := hU
  have HV : Hid (Vars w) := hv
  have hn0 : ((n : Int) == 0) = false := by simp; omega
  clear hU hv
  go_enter Tryd.func7, Tryd.ntmps7
  go_wp2_with (go_at_call 15; refine (lfit_any hL (Nat.le_refl _)).mono ?_; rintro e w1 ⟨rfl, hb1⟩; rw [hf])
  go_loopw [3, 14] (fun v i wr => ∃ k : Nat, k ≤ n ∧ i = .int .i64 k ∧ wr.ownsRow w.heap.size 9 1 v k ((items L k).map Value.string) ∧ Below w.heap.size w wr) (fun _ i _ => n - (intOf i).toNat)
  case atStart => exact ⟨0, Nat.zero_le _, rfl, World.ownsRow_nil _ _ _ _, hb1⟩
  case round =>
    obtain ⟨k, hk, rfl, hrow, hb⟩ := hrel
    have hbs := hb.size
    by_cases hkn : k < n
    · obtain ⟨b, off, x, y, rfl, hbB, d0, d1, hxy⟩ := HL.out.at hb hkn
      have hbw : b < wr.heap.size := by omega
      have hkn' : (k : Int) < n := by omega
      have hux := HU.out k
      rw [hxy.out] at hux
      obtain ⟨u, rfl⟩ : ∃ u : Nat, x = u := ⟨x.toNat, (Int.toNat_of_nonneg hux.1).symm⟩
      have hu : Hid (u < 18446744073709551616) := by have := hux.2; show u < _; omega
      have hs : Hid (items L (k + 1) = items L k ++ [itemT ((u : Int), y)]) := items_succ (by omega) hxy.out
      clear hux
      have hb9 : Below w.heap.size w (wr.alloc (.cells #[.int .u64 (u : Int), .int .i64 y] 35)) := hb.alloc hbs _
      have hsz9 : (wr.alloc (.cells #[.int .u64 (u : Int), .int .i64 y] 35)).heap.size = wr.heap.size + 1 := by simp
      have c0 : (wr.alloc (.cells #[.int .u64 (u : Int), .int .i64 y] 35)).cell? ⟨wr.heap.size, 0, none⟩ = some (.int .u64 (u : Int)) := by simp
      have c1 : (wr.alloc (.cells #[.int .u64 (u : Int), .int .i64 y] 35)).cell? ⟨wr.heap.size, 1, none⟩ = some (.int .i64 y) := by simp
      go_wp2
      have hrow9 := hrow.alloc (.cells #[.int .u64 (u : Int), .int .i64 y] 35)
      obtain ⟨W9, hW9⟩ : ∃ W9, wr.alloc (.cells #[.int .u64 (u : Int), .int .i64 y] 35) = W9 := ⟨_, rfl⟩
      rw [hW9] at hb9 hsz9 c0 c1 hrow9 ⊢
      have hne := fun (e : _ = some wr.heap.size) => (Nat.lt_irrefl _ (hrow.lt wr.heap.size e).2)
      clear hW9 hrow d0 d1
      have hlt9 : wr.heap.size < W9.heap.size := by omega
      have hd20 : (dec u).size ≤ 20 := by rw [dec, size_mk, Lib.decDigits_length]; exact Lib.nDigits_le20 _ hu.out
      have hc1 : (9223372036854775807 < (dec u).size + 1) = False := by simp; omega
      have hc2 : (9223372036854775807 < (dec u).size + 1 + (Lv.txt y).size) = False := by have := txt_len y; simp; omega
      go_region_held3 (fun w' => w'.cell? ⟨wr.heap.size, 0, none⟩ = some (.int .u64 (u : Int)) ∧ w'.cell? ⟨wr.heap.size, 1, none⟩ = some (.int .i64 y)) (go_keep) (first | (go_at_call 16; refine (format_any u hu.out _ (HV.out.later hb9.drew).1).mono ?_; rintro e w2 ⟨rfl, hb2⟩; have f0 := (hb2.cell (p := ⟨wr.heap.size, 0, none⟩) hlt9).trans c0; have f1 := (hb2.cell (p := ⟨wr.heap.size, 1, none⟩) hlt9).trans c1; have hw2 : w.heap.size ≤ w2.heap.size := Nat.le_trans hb9.size hb2.size; have hl2 : wr.heap.size < w2.heap.size := Nat.lt_of_lt_of_le hlt9 hb2.size; have hrow2 := ownsRow_next hrow9.drew hb2; have hb22 : Below w.heap.size w w2 := hb9.drew.trans (hb2.mono hb9.size)) | (go_at_call 17; refine (text_any y _).mono ?_; rintro e w' ⟨rfl, hw⟩; rw [hw]; clear hw) | (refine step_append_lies _ rfl _ _ 42 rfl w.heap.size 9 i0 (.string ⟨#[]⟩) 1 16 Tryd.underlying42 hi hz0 hz1 hz2 rfl (by decide) _ _ _ rfl (hrow2.alloc _) ⟨w2.heap.size, 0, none⟩ 1 1 [.string (itemT ((u : Int), y))] rfl rfl (cell_one_new _ _ _) (by simp [Value.oneCell']) (by omega) (by unfold maxLen; omega) (by omega) (Nat.le_trans hw2 (by simp)) _ rfl ?_; intro g1 cp1 w3 hown1 hgrow1 hat hltg; have hb3 := app_below hb22 hrow2 hgrow1 hw2; have e0 := (hgrow1.cell_far ⟨wr.heap.size, 0, none⟩ (by rw [World.size_alloc]; exact Nat.lt_succ_of_lt hl2) (fun e => hne e.symm)).trans (cellLater f0 _); have e1 := (hgrow1.cell_far ⟨wr.heap.size, 1, none⟩ (by rw [World.size_alloc]; exact Nat.lt_succ_of_lt hl2) (fun e => hne e.symm)).trans (cellLater f1 _)))
      go_wp2
      go_roundw
      case rel => exact ⟨k + 1, by omega, by go_num, by rw [hs.out, List.map_append]; exact hown1, hb3⟩
      case measure => simp [intOf]; omega
    · obtain rfl : k = n := by omega
      have hit : items L k = L.map itemT := by unfold items; rw [List.take_of_length_le (by omega)]
      obtain ⟨j, rfl⟩ : ∃ j, k = j + 1 := ⟨k - 1, by omega⟩
      obtain ⟨g, cp, rfl⟩ := ownsRow_two hrow
      rw [hit] at hrow
      have hml : (L.map itemT).length = j + 1 := by rw [List.length_map]; exact hll
      have hcells : ∀ (i : Nat) x, (L.map itemT)[i]? = some x → wr.cell? ⟨g, 0 + i, none⟩ = some (.string x) := fun i x hx => by
        have hlt := (List.getElem?_eq_some_iff.1 hx).1
        rw [Nat.zero_add, hrow.cellAt i (by omega), List.getElem?_map, hx]
        rfl
      have hcp : j + 1 ≤ cp ∧ g < wr.heap.size := by
        rcases hrow.2 with ⟨h0, _⟩ | ⟨g', c', cur, h1, h2, h3, h4, _⟩
        · cases h0
        · simp only [Value.slice.injEq, Option.some.injEq, Addr.mk.injEq] at h1
          obtain ⟨⟨rfl, _⟩, _, rfl⟩ := h1
          exact ⟨h4, (Array.getElem?_eq_some_iff.1 h3).1⟩
      have hJ : Calls Tryd.prog 18 #[.slice (some ⟨g, 0, none⟩) (j + 1) cp, .string ⟨#[44]⟩] wr fun e w' => e = .returned (.string (joined L)) ∧ Below wr.heap.size wr w' := by
        have h := Tryd.strings_Join g 0 cp (L.map itemT) ⟨#[44]⟩ wr hcells hcp.2 (by omega) (by omega) (joined_len L (by omega) HU.out)
        rw [hml] at h
        exact h
      go_wp2_with (go_at_call 18; refine hJ.mono ?_; rintro e w2 ⟨rfl, hb2⟩)
      go_ret
      exact ⟨rfl, hb.trans (hb2.mono hbs)⟩
#print axioms text_main
end Go.Proofs.YtbmfehkahjeobaaDoor
