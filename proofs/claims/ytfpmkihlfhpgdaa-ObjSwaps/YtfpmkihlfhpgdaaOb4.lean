/-
  PROVED HERE: what package obj's without and the document's alone's first part return when they are called (contracts over this translation). No condition.
-/
import Derived.Test.YtfpmkihlfhpgdaaOb3
namespace Go.Proofs.Ytfpmkihlfhpgdaa
open Go.RowKit Go.Shelf
set_option linter.unusedVariables false
attribute [local go_sem] Oper.semAt_some

theorem size36 : (Try.prog.info? 36).map (·.size) = some 35 := by kernel_rfl
theorem size38 : (Try.prog.info? 38).map (·.size) = some 6 := by kernel_rfl
theorem size25 : (Try.prog.info? 25).map (·.size) = some 1 := by kernel_rfl
theorem size26 : (Try.prog.info? 26).map (·.size) = some 1 := by kernel_rfl
theorem size24 : (Try.prog.info? 24).map (·.size) = some 1 := by kernel_rfl
theorem built36 : Try.prog.built 36 [] = some zT := by kernel_rfl
theorem built38 : Try.prog.built 38 [] = some zG := by kernel_rfl
theorem zT_size : zT.size = 35 := by kernel_rfl
theorem zG_size : zG.size = 6 := by kernel_rfl
theorem app3_get {A T E : Array Value} {o n i : Nat} (ha : A.size = o) (ht : T.size = n) : (A ++ T ++ E)[i]? = if i < o then A[i]? else if i < o + n then T[i - o]? else E[i - (o + n)]? := by
  rw [Array.getElem?_append, Array.getElem?_append]
  have : (A ++ T).size = o + n := by simp [ha, ht]
  rw [this, ha]
  by_cases h1 : i < o
  · rw [if_pos (by omega), if_pos h1, if_pos h1]
  · by_cases h2 : i < o + n
    · rw [if_pos h2, if_neg h1, if_neg h1, if_pos h2]
    · rw [if_neg h2, if_neg h1, if_neg h2]
theorem one_app {A T : Array Value} (h : A.all (·.oneCell') = true) (k : T.all (·.oneCell') = true) : (A ++ T).all (·.oneCell') = true := by
  refine all_ext fun j v e => ?_
  rw [Array.getElem?_append] at e
  split at e
  · exact all_get h e
  · exact all_get k e
section
variable {D : Nat → Prop} {w : World} {C T G : Array Value} {x : Ob}
theorem part_get {n o i : Nat} (hs : C.size = 51) (hT : T.size = n) (ho : o + n ≤ 51) : (C.extract 0 o ++ T ++ C.extract (o + T.size) C.size)[i]? = if i < o then C[i]? else if i < o + n then T[i - o]? else C[i]? := by
  rw [app3_get (o := o) (n := n) (by simp; omega) hT]
  by_cases h1 : i < o
  · rw [if_pos h1, if_pos h1, Array.getElem?_extract, if_pos (by omega), Nat.zero_add]
  · rw [if_neg h1, if_neg h1]
    by_cases h2 : i < o + n
    · rw [if_pos h2, if_pos h2]
    · rw [if_neg h2, if_neg h2, Array.getElem?_extract, hT]
      by_cases h3 : i < 51
      · rw [if_pos (by omega), show o + n + (i - (o + n)) = i by omega]
      · rw [if_neg (by omega)]; simp; omega

theorem ObD.setT {t : Th} (h : ObD D w C x) (k : ThD D w T t) : ObD D w (C.extract 0 8 ++ T ++ C.extract (8 + T.size) C.size) { x with th := t } := by
  have e : ∀ i, (C.extract 0 8 ++ T ++ C.extract (8 + T.size) C.size)[i]? = if i < 8 then C[i]? else if i < 8 + 35 then T[i - 8]? else C[i]? := fun i => part_get h.size k.size (by omega)
  exact ⟨by simp [h.size, k.size], one_app (one_app (ext_one h.one) k.one) (ext_one h.one), by rw [e, if_pos (by omega)]; exact h.id, by rw [e, if_pos (by omega)]; exact h.kind, by rw [e, if_pos (by omega)]; exact h.label, by rw [e, if_pos (by omega)]; exact h.quota, by rw [e, if_pos (by omega)]; exact h.fixed, by rw [e, if_pos (by omega)]; exact h.links, by rw [e, if_pos (by omega)]; exact h.data, by rw [e, if_pos (by omega)]; exact h.maps, k.f.congr fun i hi => by rw [e, if_neg (by omega), if_pos (by omega), show 8 + i - 8 = i by omega], h.gt.congr fun i hi => by rw [e, if_neg (by omega), if_neg (by omega)], by rw [e, if_neg (by omega), if_neg (by omega)]; exact h.inn, by rw [e, if_neg (by omega), if_neg (by omega)]; exact h.out⟩
theorem ObD.setG {t : Gt} (h : ObD D w C x) (k : GtD D w T t) : ObD D w (C.extract 0 43 ++ T ++ C.extract (43 + T.size) C.size) { x with gt := t } := by
  have e : ∀ i, (C.extract 0 43 ++ T ++ C.extract (43 + T.size) C.size)[i]? = if i < 43 then C[i]? else if i < 43 + 6 then T[i - 43]? else C[i]? := fun i => part_get h.size k.size (by omega)
  exact ⟨by simp [h.size, k.size], one_app (one_app (ext_one h.one) k.one) (ext_one h.one), by rw [e, if_pos (by omega)]; exact h.id, by rw [e, if_pos (by omega)]; exact h.kind, by rw [e, if_pos (by omega)]; exact h.label, by rw [e, if_pos (by omega)]; exact h.quota, by rw [e, if_pos (by omega)]; exact h.fixed, by rw [e, if_pos (by omega)]; exact h.links, by rw [e, if_pos (by omega)]; exact h.data, by rw [e, if_pos (by omega)]; exact h.maps, h.th.congr fun i hi => by rw [e, if_pos (by omega)], k.f.congr fun i hi => by rw [e, if_neg (by omega), if_pos (by omega), show 43 + i - 43 = i by omega], by rw [e, if_neg (by omega), if_neg (by omega)]; exact h.inn, by rw [e, if_neg (by omega), if_neg (by omega)]; exact h.out⟩
end
theorem wit1 {x : Ob} (h : x.kind = 1) : witO x = { x with data := [] } := by unfold witO; rw [if_pos h]
theorem alo1 {x : Ob} (h : x.kind = 1) : aloO x = { comO x with data := x.data } := by unfold aloO; rw [if_pos h]; rfl
theorem wit2 {x : Ob} (h : x.kind = 2) : witO x = { x with links := [] } := by unfold witO; rw [if_neg (by omega), if_pos h]
theorem alo2 {x : Ob} (h : x.kind = 2) : aloO x = { comO x with links := x.links } := by unfold aloO; rw [if_neg (by omega), if_pos h]; rfl
theorem wit3 {x : Ob} (h : x.kind = 3) : witO x = { x with maps := [] } := by unfold witO; rw [if_neg (by omega), if_neg (by omega), if_pos h]
theorem alo3 {x : Ob} (h : x.kind = 3) : aloO x = { comO x with maps := x.maps } := by unfold aloO; rw [if_neg (by omega), if_neg (by omega), if_pos h]; rfl
theorem wit4 {x : Ob} (h : x.kind = 4) : witO x = { x with th := zTh } := by unfold witO; rw [if_neg (by omega), if_neg (by omega), if_neg (by omega), if_pos h]
theorem alo4 {x : Ob} (h : x.kind = 4) : aloO x = { comO x with th := x.th } := by unfold aloO; rw [if_neg (by omega), if_neg (by omega), if_neg (by omega), if_pos h]; rfl
theorem wit5 {x : Ob} (h : x.kind = 5) : witO x = { x with gt := zGt } := by unfold witO; rw [if_neg (by omega), if_neg (by omega), if_neg (by omega), if_neg (by omega), if_pos h]
theorem alo5 {x : Ob} (h : x.kind = 5) : aloO x = { comO x with gt := x.gt } := by unfold aloO; rw [if_neg (by omega), if_neg (by omega), if_neg (by omega), if_neg (by omega), if_pos h]; rfl
theorem wit6 {x : Ob} (h : x.kind = 6) : witO x = { x with inn := [], out := [] } := by unfold witO; rw [if_neg (by omega), if_neg (by omega), if_neg (by omega), if_neg (by omega), if_neg (by omega), if_pos h]
theorem alo6 {x : Ob} (h : x.kind = 6) : aloO x = { comO x with inn := x.inn, out := x.out } := by unfold aloO; rw [if_neg (by omega), if_neg (by omega), if_neg (by omega), if_neg (by omega), if_neg (by omega), if_pos h]; rfl
theorem wit7 {x : Ob} (h : ¬ (1 ≤ x.kind ∧ x.kind ≤ 6)) : witO x = x := by unfold witO; rw [if_neg (by omega), if_neg (by omega), if_neg (by omega), if_neg (by omega), if_neg (by omega), if_neg (by omega)]
theorem alo7 {x : Ob} (h : ¬ (1 ≤ x.kind ∧ x.kind ≤ 6)) : aloO x = comO x := by unfold aloO; rw [if_neg (by omega), if_neg (by omega), if_neg (by omega), if_neg (by omega), if_neg (by omega), if_neg (by omega)]
set_option maxRecDepth 100000 in
theorem without_any {w : World} {C : Array Value} {x : Ob} (h : ObD (LtN w) w C x) :
    Calls Try.prog 33 #[.agg C] w fun e w' => ∃ C', e = .returned (.agg C') ∧ ObD (LtN w') w' C' (witO x) ∧ Below w.heap.size w w' := by
  have hz := h.size
  by_cases h1 : x.kind = 1
  · have c1 : C[1]? = some (.int .i64 1) := h.kind.trans (by rw [h1])
    have hd := h.set6 (CtV.zero _ _) rfl
    rw [wit1 h1]
    clear h1
    go_enter Try.func33, Try.ntmps33
    go_wp2_with (first
      | (with_reducible refine wpList_box rfl _ _ rfl C rfl ?_; intro B W hB hb hk)
      | (with_reducible refine wpList_alloc rfl _ rfl zC zero40 ?_; intro B' W' hB' hb' hk'; have q1 := ((hb.next hk').cell 1).trans c1; have hne : B ≠ B' := (by have := hB'.out.1; have := hb.lt; omega); have hbb := hb.next hk'; have b1 := hk.trans (hk'.mono hk.size); have hl : w.heap.size ≤ B := (by have := hB.out.1; omega); have hl' : w.heap.size ≤ B' := (by have := hB'.out.1; have := hk.size; omega))

      | ((with_reducible refine wpList_store_cell rfl _ _ _ rfl B 6 rfl (.slice none 0 0) rfl rfl _ _ hbb size25 (by simp [hz]) rfl ?_); intro W2 b2 o2; have e2 := hb'.other o2 hne.symm; have k2 := o2.below w.heap.size w hl b1)
      | ((with_reducible refine wpList_load_blk rfl _ _ rfl B rfl _ b2 _ Try.underlying40 rfl (size40C hd.size) ?_))
      | ((with_reducible refine wpList_store_blk rfl _ _ _ rfl B' rfl _ rfl zC e2 (size40C hd.size) (zC_size.trans hd.size.symm) hd.one ?_); intro W9 b9 o9))
    have b9' := o9.below w.heap.size w hl' (k2)
    refine bodyPost_ret (v := .agg _) (res40 Try.results33 rfl b9 hd.size) rfl ?_
    exact ⟨_, rfl, hd.next b9', b9'⟩
  by_cases h2 : x.kind = 2
  · have c1 : C[1]? = some (.int .i64 2) := h.kind.trans (by rw [h2])
    have hd := h.set5 (CtV.zero _ _) rfl
    rw [wit2 h2]
    clear h1 h2
    go_enter Try.func33, Try.ntmps33
    go_wp2_with (first
      | (with_reducible refine wpList_box rfl _ _ rfl C rfl ?_; intro B W hB hb hk)
      | (with_reducible refine wpList_alloc rfl _ rfl zC zero40 ?_; intro B' W' hB' hb' hk'; have q1 := ((hb.next hk').cell 1).trans c1; have hne : B ≠ B' := (by have := hB'.out.1; have := hb.lt; omega); have hbb := hb.next hk'; have b1 := hk.trans (hk'.mono hk.size); have hl : w.heap.size ≤ B := (by have := hB.out.1; omega); have hl' : w.heap.size ≤ B' := (by have := hB'.out.1; have := hk.size; omega))

      | ((with_reducible refine wpList_store_cell rfl _ _ _ rfl B 5 rfl (.slice none 0 0) rfl rfl _ _ hbb size25 (by simp [hz]) rfl ?_); intro W2 b2 o2; have e2 := hb'.other o2 hne.symm; have k2 := o2.below w.heap.size w hl b1)
      | ((with_reducible refine wpList_load_blk rfl _ _ rfl B rfl _ b2 _ Try.underlying40 rfl (size40C hd.size) ?_))
      | ((with_reducible refine wpList_store_blk rfl _ _ _ rfl B' rfl _ rfl zC e2 (size40C hd.size) (zC_size.trans hd.size.symm) hd.one ?_); intro W9 b9 o9))
    have b9' := o9.below w.heap.size w hl' (k2)
    refine bodyPost_ret (v := .agg _) (res40 Try.results33 rfl b9 hd.size) rfl ?_
    exact ⟨_, rfl, hd.next b9', b9'⟩
  by_cases h3 : x.kind = 3
  · have c1 : C[1]? = some (.int .i64 3) := h.kind.trans (by rw [h3])
    have hd := h.set7 (MpV.zero _ _) rfl
    rw [wit3 h3]
    clear h1 h2 h3
    go_enter Try.func33, Try.ntmps33
    go_wp2_with (first
      | (with_reducible refine wpList_box rfl _ _ rfl C rfl ?_; intro B W hB hb hk)
      | (with_reducible refine wpList_alloc rfl _ rfl zC zero40 ?_; intro B' W' hB' hb' hk'; have q1 := ((hb.next hk').cell 1).trans c1; have hne : B ≠ B' := (by have := hB'.out.1; have := hb.lt; omega); have hbb := hb.next hk'; have b1 := hk.trans (hk'.mono hk.size); have hl : w.heap.size ≤ B := (by have := hB.out.1; omega); have hl' : w.heap.size ≤ B' := (by have := hB'.out.1; have := hk.size; omega))

      | ((with_reducible refine wpList_store_cell rfl _ _ _ rfl B 7 rfl (.slice none 0 0) rfl rfl _ _ hbb size26 (by simp [hz]) rfl ?_); intro W2 b2 o2; have e2 := hb'.other o2 hne.symm; have k2 := o2.below w.heap.size w hl b1)
      | ((with_reducible refine wpList_load_blk rfl _ _ rfl B rfl _ b2 _ Try.underlying40 rfl (size40C hd.size) ?_))
      | ((with_reducible refine wpList_store_blk rfl _ _ _ rfl B' rfl _ rfl zC e2 (size40C hd.size) (zC_size.trans hd.size.symm) hd.one ?_); intro W9 b9 o9))
    have b9' := o9.below w.heap.size w hl' (k2)
    refine bodyPost_ret (v := .agg _) (res40 Try.results33 rfl b9 hd.size) rfl ?_
    exact ⟨_, rfl, hd.next b9', b9'⟩
  by_cases h4 : x.kind = 4
  · have c1 : C[1]? = some (.int .i64 4) := h.kind.trans (by rw [h4])
    have hd := h.setT (zTh_d _ _)
    rw [wit4 h4]
    clear h1 h2 h3 h4
    go_enter Try.func33, Try.ntmps33
    go_wp2_with (first
      | (with_reducible refine wpList_box rfl _ _ rfl C rfl ?_; intro B W hB hb hk)
      | (with_reducible refine wpList_alloc rfl _ rfl zC zero40 ?_; intro B' W' hB' hb' hk'; have q1 := ((hb.next hk').cell 1).trans c1; have hne : B ≠ B' := (by have := hB'.out.1; have := hb.lt; omega); have hbb := hb.next hk'; have b1 := hk.trans (hk'.mono hk.size); have hl : w.heap.size ≤ B := (by have := hB.out.1; omega); have hl' : w.heap.size ≤ B' := (by have := hB'.out.1; have := hk.size; omega))

      | ((with_reducible refine wpList_build rfl _ [] rfl zT ?hf ?_); (case hf => exact built36))
      | ((with_reducible refine wpList_store_part rfl _ _ _ rfl B 8 rfl zT rfl _ _ hbb (by rw [zT_size]; exact size36) (by rw [zT_size, hz]; omega) zT_one ?_); intro W2 b2 o2; have e2 := hb'.other o2 hne.symm; have k2 := o2.below w.heap.size w hl b1)
      | ((with_reducible refine wpList_load_blk rfl _ _ rfl B rfl _ b2 _ Try.underlying40 rfl (size40C hd.size) ?_))
      | ((with_reducible refine wpList_store_blk rfl _ _ _ rfl B' rfl _ rfl zC e2 (size40C hd.size) (zC_size.trans hd.size.symm) hd.one ?_); intro W9 b9 o9))
    have b9' := o9.below w.heap.size w hl' (k2)
    refine bodyPost_ret (v := .agg _) (res40 Try.results33 rfl b9 hd.size) rfl ?_
    exact ⟨_, rfl, hd.next b9', b9'⟩
  by_cases h5 : x.kind = 5
  · have c1 : C[1]? = some (.int .i64 5) := h.kind.trans (by rw [h5])
    have hd := h.setG (zGt_d _ _)
    rw [wit5 h5]
    clear h1 h2 h3 h4 h5
    go_enter Try.func33, Try.ntmps33
    go_wp2_with (first
      | (with_reducible refine wpList_box rfl _ _ rfl C rfl ?_; intro B W hB hb hk)
      | (with_reducible refine wpList_alloc rfl _ rfl zC zero40 ?_; intro B' W' hB' hb' hk'; have q1 := ((hb.next hk').cell 1).trans c1; have hne : B ≠ B' := (by have := hB'.out.1; have := hb.lt; omega); have hbb := hb.next hk'; have b1 := hk.trans (hk'.mono hk.size); have hl : w.heap.size ≤ B := (by have := hB.out.1; omega); have hl' : w.heap.size ≤ B' := (by have := hB'.out.1; have := hk.size; omega))

      | ((with_reducible refine wpList_build rfl _ [] rfl zG ?hf ?_); (case hf => exact built38))
      | ((with_reducible refine wpList_store_part rfl _ _ _ rfl B 43 rfl zG rfl _ _ hbb (by rw [zG_size]; exact size38) (by rw [zG_size, hz]; omega) zG_one ?_); intro W2 b2 o2; have e2 := hb'.other o2 hne.symm; have k2 := o2.below w.heap.size w hl b1)
      | ((with_reducible refine wpList_load_blk rfl _ _ rfl B rfl _ b2 _ Try.underlying40 rfl (size40C hd.size) ?_))
      | ((with_reducible refine wpList_store_blk rfl _ _ _ rfl B' rfl _ rfl zC e2 (size40C hd.size) (zC_size.trans hd.size.symm) hd.one ?_); intro W9 b9 o9))
    have b9' := o9.below w.heap.size w hl' (k2)
    refine bodyPost_ret (v := .agg _) (res40 Try.results33 rfl b9 hd.size) rfl ?_
    exact ⟨_, rfl, hd.next b9', b9'⟩
  by_cases h6 : x.kind = 6
  · have c1 : C[1]? = some (.int .i64 6) := h.kind.trans (by rw [h6])
    have hd := (h.set49 (CtV.zero _ _) rfl).set50 (CtV.zero _ _) rfl
    rw [wit6 h6]
    clear h1 h2 h3 h4 h5 h6
    go_enter Try.func33, Try.ntmps33
    go_wp2_with (first
      | (with_reducible refine wpList_box rfl _ _ rfl C rfl ?_; intro B W hB hb hk)
      | (with_reducible refine wpList_alloc rfl _ rfl zC zero40 ?_; intro B' W' hB' hb' hk'; have q1 := ((hb.next hk').cell 1).trans c1; have hne : B ≠ B' := (by have := hB'.out.1; have := hb.lt; omega); have hbb := hb.next hk'; have b1 := hk.trans (hk'.mono hk.size); have hl : w.heap.size ≤ B := (by have := hB.out.1; omega); have hl' : w.heap.size ≤ B' := (by have := hB'.out.1; have := hk.size; omega))

      | ((with_reducible refine wpList_store_cell rfl _ _ _ rfl B 49 rfl (.slice none 0 0) rfl rfl _ _ hbb size25 (by simp [hz]) rfl ?_); intro W2 b2 o2; have e2 := hb'.other o2 hne.symm; have k2 := o2.below w.heap.size w hl b1)
      | ((with_reducible refine wpList_store_cell rfl _ _ _ rfl B 50 rfl (.slice none 0 0) rfl rfl _ _ b2 size25 (by simp [hz]) rfl ?_); intro W3 b3 o3; have e3 := e2.other o3 hne.symm; have k3 := o3.below w.heap.size w hl k2)
      | ((with_reducible refine wpList_load_blk rfl _ _ rfl B rfl _ b3 _ Try.underlying40 rfl (size40C hd.size) ?_))
      | ((with_reducible refine wpList_store_blk rfl _ _ _ rfl B' rfl _ rfl zC e3 (size40C hd.size) (zC_size.trans hd.size.symm) hd.one ?_); intro W9 b9 o9))
    have b9' := o9.below w.heap.size w hl' (k3)
    refine bodyPost_ret (v := .agg _) (res40 Try.results33 rfl b9 hd.size) rfl ?_
    exact ⟨_, rfl, hd.next b9', b9'⟩
  · have c1 := h.kind
    have g1 : (x.kind == 1) = false := by rw [beq_eq_false_iff_ne]; exact h1
    have g2 : (x.kind == 2) = false := by rw [beq_eq_false_iff_ne]; exact h2
    have g3 : (x.kind == 3) = false := by rw [beq_eq_false_iff_ne]; exact h3
    have g4 : (x.kind == 4) = false := by rw [beq_eq_false_iff_ne]; exact h4
    have g5 : (x.kind == 5) = false := by rw [beq_eq_false_iff_ne]; exact h5
    have g6 : (x.kind == 6) = false := by rw [beq_eq_false_iff_ne]; exact h6
    have hd := h
    rw [wit7 (by omega)]
    clear h1 h2 h3 h4 h5 h6
    go_enter Try.func33, Try.ntmps33
    go_wp2_with (first
      | (with_reducible refine wpList_box rfl _ _ rfl C rfl ?_; intro B W hB hb hk)
      | (with_reducible refine wpList_alloc rfl _ rfl zC zero40 ?_; intro B' W' hB' hb' hk'; have q1 := ((hb.next hk').cell 1).trans c1; have hne : B ≠ B' := (by have := hB'.out.1; have := hb.lt; omega); have hbb := hb.next hk'; have b1 := hk.trans (hk'.mono hk.size); have hl : w.heap.size ≤ B := (by have := hB.out.1; omega); have hl' : w.heap.size ≤ B' := (by have := hB'.out.1; have := hk.size; omega))

      | ((with_reducible refine wpList_load_blk rfl _ _ rfl B rfl _ hbb _ Try.underlying40 rfl (size40C hd.size) ?_))
      | ((with_reducible refine wpList_store_blk rfl _ _ _ rfl B' rfl _ rfl zC hb' (size40C hd.size) (zC_size.trans hd.size.symm) hd.one ?_); intro W9 b9 o9))
    have b9' := o9.below w.heap.size w hl' (b1)
    refine bodyPost_ret (v := .agg _) (res40 Try.results33 rfl b9 hd.size) rfl ?_
    exact ⟨_, rfl, hd.next b9', b9'⟩
end Go.Proofs.Ytfpmkihlfhpgdaa
