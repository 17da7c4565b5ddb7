/-
  PROVED HERE: what package obj's soundCommon and soundOwn return when they are called (contracts over this translation). soundOwn: the Quota is from 1 to 4096.
-/
import Derived.Test.YtfpmkihlfhpgdaaOb13
namespace Go.Proofs.Ytfpmkihlfhpgdaa
open Go.RowKit Go.Shelf
set_option linter.unusedVariables false
attribute [local go_sem] Oper.semAt_some
section
variable {P : Program} {ops : Array Oper} {rest : List Oper} {op : Oper} {a : Act} {Q : Exit → Act → World → Prop} {w : World}
theorem wpList_loadb (hw : Region.wanted op (yielded ops a.tmps) = true) (ty : TypeId) (x : Operand) (ho : op.op = .load ty x) (B : Nat) (hx : a.eval x = .pointer (some ⟨B, 0, none⟩)) (C : Array Value) (hB : Blk w B C ty) (d : TypeDesc)
    (hu : P.underlying ty = some d) (hd : d.isRow = true) (hi : (P.info? ty).map (·.size) = some C.size) (h : wpList P ops Q rest (a.put op.dst (.agg C)) w) : wpList P ops Q (op :: rest) a w := by
  refine wpList_val hw ?_ h
  have := ob_loadb (S := fun W => W = w) (P := P) (fun _ e => by rw [e]; exact hB) hu hd hi w rfl
  unfold execOp
  simp [ho, hx, Instr.loadAt, Instr.sureAddr, this]
end
theorem com_iff {x : Ob} : comB x = true ↔ (idB x.id = true ∧ 1 ≤ x.quota ∧ x.quota ≤ 4096 ∧ keptB x.label = true ∧ (x.kind = 4 ∨ owned x.label = [])) := by unfold comB; simp
theorem owned_ask {w0 w : World} {ao : Option Addr} {n cap : Nat} {L : Lb} (h : LabD (LtN w0) w0 ao n cap L) (hk : Below w0.heap.size w0 w) (hn : n < 274877906944) : Calls Try.prog 65 #[.slice ao n cap] w fun e w' => ∃ ao1 cap1, e = .returned (.slice ao1 (owned L).length cap1) ∧ Below w.heap.size w w' := by
  refine (owned_any (h.lab' hk) hn).mono ?_
  rintro e w' ⟨ao1, n1, cap1, rfl, hc, hb⟩
  have e1 := hc.1
  subst e1
  exact ⟨ao1, cap1, rfl, hb⟩
theorem len_nil {L : Lb} : ((owned L).length : Int) = 0 ↔ owned L = [] := by
  constructor
  · intro h; exact List.eq_nil_of_length_eq_zero (by omega)
  · intro h; rw [h]; rfl
set_option maxRecDepth 100000 in
set_option maxHeartbeats 4000000 in
theorem soundCommon_any {w : World} {C : Array Value} {x : Ob} (h : ObD (LtN w) w C x) : Asks 31 #[.agg C] (comB x = true) w := by
  have hz := h.size
  have c0 := h.id
  have c1 := h.kind
  obtain ⟨a2, n2, k2, c2, l2⟩ := h.label
  have hn2 : Hid (x.label.length = n2) := l2.1
  have c3 := h.quota
  have c4 := h.fixed
  obtain ⟨a5, n5, k5, c5, l5⟩ := h.links
  have hn5 : Hid (x.links.length = n5) := l5.1
  obtain ⟨a6, n6, k6, c6, l6⟩ := h.data
  have hn6 : Hid (x.data.length = n6) := l6.1
  obtain ⟨a7, n7, k7, c7, l7⟩ := h.maps
  have hn7 : Hid (x.maps.length = n7) := l7.1
  obtain ⟨a49, n49, k49, c49, l49⟩ := h.inn
  have hn49 : Hid (x.inn.length = n49) := l49.1
  obtain ⟨a50, n50, k50, c50, l50⟩ := h.out
  have hn50 : Hid (x.out.length = n50) := l50.1
  obtain ⟨a25, n25, k25, c25, l25⟩ := h.th.clear
  obtain ⟨a43, n43, k43, c43, l43⟩ := h.gt.grant
  obtain ⟨a44, n44, k44, c44, l44⟩ := h.gt.clear
  replace c25 : C[25]? = some (.slice a25 n25 k25) := c25
  replace c43 : C[43]? = some (.slice a43 n43 k43) := c43
  replace c44 : C[44]? = some (.slice a44 n44 k44) := c44
  have ga0 := Try.isAgg24
  have ga1 := Try.isAgg22
  have ga2 := Try.isAgg3
  have ga3 := Try.isAgg4
  have ga4 := Try.isAgg25
  have ga5 := Try.isAgg26
  have hkl : ∀ (_ : keptB x.label = true), n2 < 274877906944 := fun e => by
    have := (kept_iff.1 e).1
    rw [hn2.out] at this; omega
  unfold Asks
  go_enter Try.func31, Try.ntmps31
  go_wp2_with (first
    | go_skip
    | (with_reducible refine wpList_box rfl _ _ rfl C rfl ?_; intro B W hB hb hk)
    | (with_reducible refine wpList_load1 (by kernel_rfl) _ _ rfl B _ rfl _ _ hb _ (by assumption) (by assumption) ?_)
    | ((with_reducible refine wpList_test (by kernel_rfl) .geq _ _ _ _ rfl _ _ rfl rfl (tge_int _ _ _ _ _ _) ?_ ?_) <;> intro hq)
    | ((with_reducible refine wpList_test (by kernel_rfl) .leq _ _ _ _ rfl _ _ rfl rfl (tle_int _ _ _ _ _ _) ?_ ?_) <;> intro hq)
    | ((with_reducible refine wpList_test (by kernel_rfl) .eql _ _ _ _ rfl _ _ rfl rfl (eqg_int _ _ _ _ _ _) ?_ ?_) <;> intro hq)
    | (go_at_call 63; (with_reducible refine (isId_any x.id _).on ?_ ?_) <;> (intro w1 hq hb1; replace hb := hb.next hb1; replace hk := hk.trans (hb1.mono hk.size); clear hb1))
    | (go_at_call 64; (with_reducible refine (kept_any l2 hk).on ?_ ?_) <;> (intro w1 hq hb1; replace hb := hb.next hb1; replace hk := hk.trans (hb1.mono hk.size); clear hb1))
    | (go_at_call 65; (with_reducible refine (owned_ask l2 hk ?hn).mono ?_); (case hn => exact hkl (Hid.out (by assumption))); rintro e w1 ⟨ao1, cap1, rfl, hb1⟩; replace hb := hb.next hb1; replace hk := hk.trans (hb1.mono hk.size); clear hb1))
  all_goals go_ret
  all_goals first
    | (exact askP_yes (com_iff.2 ⟨Hid.out (by assumption), Hid.out (by assumption), Hid.out (by assumption), Hid.out (by assumption), .inl (Hid.out (by assumption))⟩) hk)
    | (exact askP_yes (com_iff.2 ⟨Hid.out (by assumption), Hid.out (by assumption), Hid.out (by assumption), Hid.out (by assumption), .inr (len_nil.1 (Hid.out (by assumption)))⟩) hk)
    | (refine askP_no (Y := ((owned x.label).length : Int) = 0) (by assumption) hk (fun e => ?_); exact len_nil.2 ((com_iff.1 e).2.2.2.2.resolve_left (Hid.out (by assumption))))
    | (refine askP_no (Y := keptB x.label = true) (by assumption) hk (fun e => ?_); exact (com_iff.1 e).2.2.2.1)
    | (have hl : 4096 < x.quota := Hid.out (by assumption); refine ⟨false, rfl, ⟨fun e => absurd e Bool.false_ne_true, fun e => ?_⟩, hk⟩; exfalso; have := (com_iff.1 e).2.2.1; omega)
    | (have hl : x.quota < 1 := Hid.out (by assumption); refine ⟨false, rfl, ⟨fun e => absurd e Bool.false_ne_true, fun e => ?_⟩, hk⟩; exfalso; have := (com_iff.1 e).2.1; omega)
    | (refine askP_no (Y := idB x.id = true) (by assumption) hk (fun e => ?_); exact (com_iff.1 e).1)
    | fail
theorem own1 {x : Ob} (h : x.kind = 1) : ownB x = true ↔ ((x.data.length : Int) ≤ 16 * (x.quota - 1)) := by unfold ownB; rw [if_pos h]; try simp
theorem own2 {x : Ob} (h : x.kind = 2) : ownB x = true ↔ (x.links.length ≤ 64 ∧ allI x.links = true ∧ risB x.links = true) := by unfold ownB; rw [if_neg (by omega), if_pos h]; try simp [allI]
theorem own3 {x : Ob} (h : x.kind = 3) : ownB x = true ↔ (PgM.Pg.fitB x.maps = true) := by unfold ownB; rw [if_neg (by omega), if_neg (by omega), if_pos h]; try simp [allI]
theorem own4 {x : Ob} (h : x.kind = 4) : ownB x = true ↔ (x.fixed = false ∧ bounB x.label x.th.clear = true ∧ thrB x.th = true) := by unfold ownB; rw [if_neg (by omega), if_neg (by omega), if_neg (by omega), if_pos h]; try simp
theorem own5 {x : Ob} (h : x.kind = 5) : ownB x = true ↔ (bounB x.gt.grant x.gt.clear = true) := by unfold ownB; rw [if_neg (by omega), if_neg (by omega), if_neg (by omega), if_neg (by omega), if_pos h]; try simp [allI]
theorem own6 {x : Ob} (h : x.kind = 6) : ownB x = true ↔ (x.inn.length ≤ 64 ∧ x.out.length ≤ 1024) := by unfold ownB; rw [if_neg (by omega), if_neg (by omega), if_neg (by omega), if_neg (by omega), if_neg (by omega), if_pos h]; try simp
theorem own7 {x : Ob} (h : ¬ (1 ≤ x.kind ∧ x.kind ≤ 6)) : ownB x = true ↔ False := by unfold ownB; rw [if_neg (by omega), if_neg (by omega), if_neg (by omega), if_neg (by omega), if_neg (by omega), if_neg (by omega)]; simp
set_option maxRecDepth 100000 in
set_option maxHeartbeats 4000000 in
theorem soundOwn_any {w : World} {C : Array Value} {x : Ob} (h : ObD (LtN w) w C x) (hq1 : 1 ≤ x.quota) (hq2 : x.quota ≤ 4096) : Asks 32 #[.agg C] (ownB x = true) w := by
  have hz := h.size
  have c0 := h.id
  have c1 := h.kind
  obtain ⟨a2, n2, k2, c2, l2⟩ := h.label
  have hn2 : Hid (x.label.length = n2) := l2.1
  have c3 := h.quota
  have c4 := h.fixed
  obtain ⟨a5, n5, k5, c5, l5⟩ := h.links
  have hn5 : Hid (x.links.length = n5) := l5.1
  obtain ⟨a6, n6, k6, c6, l6⟩ := h.data
  have hn6 : Hid (x.data.length = n6) := l6.1
  obtain ⟨a7, n7, k7, c7, l7⟩ := h.maps
  have hn7 : Hid (x.maps.length = n7) := l7.1
  obtain ⟨a49, n49, k49, c49, l49⟩ := h.inn
  have hn49 : Hid (x.inn.length = n49) := l49.1
  obtain ⟨a50, n50, k50, c50, l50⟩ := h.out
  have hn50 : Hid (x.out.length = n50) := l50.1
  obtain ⟨a25, n25, k25, c25, l25⟩ := h.th.clear
  obtain ⟨a43, n43, k43, c43, l43⟩ := h.gt.grant
  obtain ⟨a44, n44, k44, c44, l44⟩ := h.gt.clear
  replace c25 : C[25]? = some (.slice a25 n25 k25) := c25
  replace c43 : C[43]? = some (.slice a43 n43 k43) := c43
  replace c44 : C[44]? = some (.slice a44 n44 k44) := c44
  have ga0 := Try.isAgg24
  have ga1 := Try.isAgg22
  have ga2 := Try.isAgg3
  have ga3 := Try.isAgg4
  have ga4 := Try.isAgg25
  have ga5 := Try.isAgg26
  have hw1 : IntKind.i64.wrap (x.quota - 1) = x.quota - 1 := by rw [IntKind.wrap_i64]; omega
  have hw2 : IntKind.i64.wrap (16 * (x.quota - 1)) = 16 * (x.quota - 1) := by rw [IntKind.wrap_i64]; omega
  unfold Asks
  by_cases h1 : x.kind = 1
  · replace c1 : C[1]? = some (.int .i64 1) := c1.trans (by rw [h1])
    rw [own1 h1]
    clear h1
    go_enter Try.func32, Try.ntmps32
    go_wp2_with (first
      | go_skip
      | (with_reducible refine wpList_box rfl _ _ rfl C rfl ?_; intro B W hB hb hk)
      | (with_reducible refine wpList_load1 (by kernel_rfl) _ _ rfl B _ rfl _ _ hb _ (by assumption) (by assumption) ?_)
      | ((with_reducible refine wpList_test (by kernel_rfl) .leq _ _ _ _ rfl _ _ rfl rfl (tle_int _ _ _ _ _ _) ?_ ?_) <;> intro hq))
    all_goals go_ret
    all_goals first
      | (refine askP_yes ?_ hk; rw [hn6.out]; exact Hid.out (by assumption))
      | (have hl : 16 * (x.quota - 1) < (n6 : Int) := Hid.out (by assumption); refine ⟨false, rfl, ⟨fun e => absurd e Bool.false_ne_true, fun e => ?_⟩, hk⟩; exfalso; rw [hn6.out] at e; omega)
      | fail
  by_cases h2 : x.kind = 2
  · replace c1 : C[1]? = some (.int .i64 2) := c1.trans (by rw [h2])
    rw [own2 h2]
    clear h1 h2
    go_enter Try.func32, Try.ntmps32
    go_wp2_with (first
      | go_skip
      | (with_reducible refine wpList_box rfl _ _ rfl C rfl ?_; intro B W hB hb hk)
      | (with_reducible refine wpList_load1 (by kernel_rfl) _ _ rfl B _ rfl _ _ hb _ (by assumption) (by assumption) ?_)
      | ((with_reducible refine wpList_test (by kernel_rfl) .leq _ _ _ _ rfl _ _ rfl rfl (tle_int _ _ _ _ _ _) ?_ ?_) <;> intro hq)
      | (with_reducible refine wpList_loadb (by kernel_rfl) 40 _ rfl B rfl C hb _ Try.underlying40 (by kernel_rfl) (size40C hz) ?_)
      | (go_at_call 66; (with_reducible refine (everyU_any l5 hk).on ?_ ?_) <;> (intro w1 hq hb1; replace hb := hb.next hb1; replace hk := hk.trans (hb1.mono hk.size); clear hb1))
      | (go_at_call 67; (with_reducible refine (links_any (h.next hk) c5).mono ?_); rintro e w1 ⟨rfl, hb1⟩; replace hb := hb.next hb1; replace hk := hk.trans (hb1.mono hk.size); clear hb1)
      | (go_at_call 68; (with_reducible refine (risesU_any (l5.ct' hk)).on ?_ ?_) <;> (intro w1 hq hb1; replace hb := hb.next hb1; replace hk := hk.trans (hb1.mono hk.size); clear hb1)))
    all_goals go_ret
    all_goals first
      | (refine askP_yes ⟨?_, Hid.out (by assumption), Hid.out (by assumption)⟩ hk; (have hl : (n5 : Int) ≤ 64 := Hid.out (by assumption)); rw [hn5.out]; omega)
      | (refine askP_no (Y := risB x.links = true) (by assumption) hk (fun e => e.2.2))
      | (refine askP_no (Y := allI x.links = true) (by assumption) hk (fun e => e.2.1))
      | (have hl : 64 < (n5 : Int) := Hid.out (by assumption); refine ⟨false, rfl, ⟨fun e => absurd e Bool.false_ne_true, fun e => ?_⟩, hk⟩; exfalso; have := e.1; rw [hn5.out] at this; omega)
      | fail
  by_cases h3 : x.kind = 3
  · replace c1 : C[1]? = some (.int .i64 3) := c1.trans (by rw [h3])
    rw [own3 h3]
    clear h1 h2 h3
    go_enter Try.func32, Try.ntmps32
    go_wp2_with (first
      | go_skip
      | (with_reducible refine wpList_box rfl _ _ rfl C rfl ?_; intro B W hB hb hk)
      | (with_reducible refine wpList_load1 (by kernel_rfl) _ _ rfl B _ rfl _ _ hb _ (by assumption) (by assumption) ?_)
      | (go_at_call 69; (with_reducible refine (Asks.of (PgM.fit_any (MpD.mp' l7 hk))).on ?_ ?_) <;> (intro w1 hq hb1; replace hb := hb.next hb1; replace hk := hk.trans (hb1.mono hk.size); clear hb1)))
    all_goals go_ret
    all_goals first
      | (exact askP_yes (Hid.out (by assumption)) hk)
      | (exact askP_no (by assumption) hk id)
      | fail
  by_cases h4 : x.kind = 4
  · replace c1 : C[1]? = some (.int .i64 4) := c1.trans (by rw [h4])
    rw [own4 h4]
    clear h1 h2 h3 h4
    cases hfx : x.fixed with
    | false =>
      rw [hfx] at c4
      go_enter Try.func32, Try.ntmps32
      go_wp2_with (first
        | go_skip
        | (with_reducible refine wpList_box rfl _ _ rfl C rfl ?_; intro B W hB hb hk)
        | (with_reducible refine wpList_load1 (by kernel_rfl) _ _ rfl B _ rfl _ _ hb _ (by assumption) (by assumption) ?_)
        | (with_reducible refine wpList_loadp (by kernel_rfl) 36 _ rfl B _ rfl 35 _ _ hb _ rfl (by rw [hz]; omega) _ Try.underlying36 (by kernel_rfl) size36 ?_)
        | (go_at_call 70; (with_reducible refine (bounded_any l2 l25 hk).on ?_ ?_) <;> (intro w1 hq hb1; replace hb := hb.next hb1; replace hk := hk.trans (hb1.mono hk.size); clear hb1))
        | (go_at_call 71; (with_reducible refine (soundThread_any (h.thd.next hk)).on ?_ ?_) <;> (intro w1 hq hb1; replace hb := hb.next hb1; replace hk := hk.trans (hb1.mono hk.size); clear hb1)))
      all_goals go_ret
      all_goals first
        | (exact askP_yes ⟨trivial, Hid.out (by assumption), Hid.out (by assumption)⟩ hk)
        | (refine askP_no (Y := thrB x.th = true) (by assumption) hk (fun e => e.2.2))
        | (refine askP_no (Y := bounB x.label x.th.clear = true) (by assumption) hk (fun e => e.2.1))
        | (refine ⟨false, rfl, ⟨fun e => absurd e Bool.false_ne_true, fun e => ?_⟩, hk⟩; exfalso; cases e.1)
        | fail
    | true =>
      rw [hfx] at c4
      go_enter Try.func32, Try.ntmps32
      go_wp2_with (first
        | go_skip
        | (with_reducible refine wpList_box rfl _ _ rfl C rfl ?_; intro B W hB hb hk)
        | (with_reducible refine wpList_load1 (by kernel_rfl) _ _ rfl B _ rfl _ _ hb _ (by assumption) (by assumption) ?_)
        | (with_reducible refine wpList_loadp (by kernel_rfl) 36 _ rfl B _ rfl 35 _ _ hb _ rfl (by rw [hz]; omega) _ Try.underlying36 (by kernel_rfl) size36 ?_)
        | (go_at_call 70; (with_reducible refine (bounded_any l2 l25 hk).on ?_ ?_) <;> (intro w1 hq hb1; replace hb := hb.next hb1; replace hk := hk.trans (hb1.mono hk.size); clear hb1))
        | (go_at_call 71; (with_reducible refine (soundThread_any (h.thd.next hk)).on ?_ ?_) <;> (intro w1 hq hb1; replace hb := hb.next hb1; replace hk := hk.trans (hb1.mono hk.size); clear hb1)))
      all_goals go_ret
      all_goals first
        | (exact askP_yes ⟨trivial, Hid.out (by assumption), Hid.out (by assumption)⟩ hk)
        | (refine askP_no (Y := thrB x.th = true) (by assumption) hk (fun e => e.2.2))
        | (refine askP_no (Y := bounB x.label x.th.clear = true) (by assumption) hk (fun e => e.2.1))
        | (refine ⟨false, rfl, ⟨fun e => absurd e Bool.false_ne_true, fun e => ?_⟩, hk⟩; exfalso; cases e.1)
        | fail
  by_cases h5 : x.kind = 5
  · replace c1 : C[1]? = some (.int .i64 5) := c1.trans (by rw [h5])
    rw [own5 h5]
    clear h1 h2 h3 h4 h5
    go_enter Try.func32, Try.ntmps32
    go_wp2_with (first
      | go_skip
      | (with_reducible refine wpList_box rfl _ _ rfl C rfl ?_; intro B W hB hb hk)
      | (with_reducible refine wpList_load1 (by kernel_rfl) _ _ rfl B _ rfl _ _ hb _ (by assumption) (by assumption) ?_)
      | (go_at_call 70; (with_reducible refine (bounded_any l43 l44 hk).on ?_ ?_) <;> (intro w1 hq hb1; replace hb := hb.next hb1; replace hk := hk.trans (hb1.mono hk.size); clear hb1)))
    all_goals go_ret
    all_goals first
      | (exact askP_yes (Hid.out (by assumption)) hk)
      | (exact askP_no (by assumption) hk id)
      | fail
  by_cases h6 : x.kind = 6
  · replace c1 : C[1]? = some (.int .i64 6) := c1.trans (by rw [h6])
    rw [own6 h6]
    clear h1 h2 h3 h4 h5 h6
    go_enter Try.func32, Try.ntmps32
    go_wp2_with (first
      | go_skip
      | (with_reducible refine wpList_box rfl _ _ rfl C rfl ?_; intro B W hB hb hk)
      | (with_reducible refine wpList_load1 (by kernel_rfl) _ _ rfl B _ rfl _ _ hb _ (by assumption) (by assumption) ?_)
      | ((with_reducible refine wpList_test (by kernel_rfl) .leq _ _ _ _ rfl _ _ rfl rfl (tle_int _ _ _ _ _ _) ?_ ?_) <;> intro hq))
    all_goals go_ret
    all_goals first
      | (have h1 : (n49 : Int) ≤ 64 := Hid.out (by assumption); have h2 : (n50 : Int) ≤ 1024 := Hid.out (by assumption); exact askP_yes ⟨by rw [hn49.out]; omega, by rw [hn50.out]; omega⟩ hk)
      | (have hl : 1024 < (n50 : Int) := Hid.out (by assumption); refine ⟨false, rfl, ⟨fun e => absurd e Bool.false_ne_true, fun e => ?_⟩, hk⟩; exfalso; have := e.2; rw [hn50.out] at this; omega)
      | (have hl : 64 < (n49 : Int) := Hid.out (by assumption); refine ⟨false, rfl, ⟨fun e => absurd e Bool.false_ne_true, fun e => ?_⟩, hk⟩; exfalso; have := e.1; rw [hn49.out] at this; omega)
      | fail
  · rw [own7 (by omega)]
    have g1 : (x.kind == 1) = false := by rw [beq_eq_false_iff_ne]; exact h1
    have g2 : (x.kind == 2) = false := by rw [beq_eq_false_iff_ne]; exact h2
    have g3 : (x.kind == 3) = false := by rw [beq_eq_false_iff_ne]; exact h3
    have g4 : (x.kind == 4) = false := by rw [beq_eq_false_iff_ne]; exact h4
    have g5 : (x.kind == 5) = false := by rw [beq_eq_false_iff_ne]; exact h5
    have g6 : (x.kind == 6) = false := by rw [beq_eq_false_iff_ne]; exact h6
    clear h1 h2 h3 h4 h5 h6
    go_enter Try.func32, Try.ntmps32
    go_wp2_with (first
      | go_skip
      | (with_reducible refine wpList_box rfl _ _ rfl C rfl ?_; intro B W hB hb hk)
      | (with_reducible refine wpList_load1 (by kernel_rfl) _ _ rfl B _ rfl _ _ hb _ (by assumption) (by assumption) ?_))
    all_goals go_ret
    all_goals first
      | (refine ⟨false, rfl, ⟨fun e => absurd e Bool.false_ne_true, fun e => ?_⟩, hk⟩; exfalso; exact e)
      | fail
end Go.Proofs.Ytfpmkihlfhpgdaa
