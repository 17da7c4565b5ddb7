/-
 PROVED HERE: what a finder's allowed returns, or throws, when it is called (contracts over this translation); a finder is b. What is asked stands at each.
-/
import Derived.Laws.EntriesVeiled
import Derived.Test.YtiiaohejldchdaaGreatZ36
namespace Go.Proofs.YtiiaohejldchdaaGreat
set_option maxRecDepth 100000
set_option maxHeartbeats 8000000
open Go.RowKit Go.Shelf
set_option linter.unusedVariables false
attribute [local go_sem] Oper.semAt_some

theorem sees_enters : ∀ args w, (callFunc 80 args).run Tryz.prog w = .ok (.enter 80 args) w := enters_of Tryz.func80 (by kernel_rfl) rfl
theorem as_a {w : World} {F : Array Value} {L : Lb} {X : List Ob} {G : Array Value} {c i kd : Int} (h : Fw w F L X) (g0 : G[0]? = some (.int .u64 c)) (g1 : G[1]? = some (.int .u64 i)) (gz : G.size = 2) (hl : lokE X L c i ≠ 0) (hE : allE X L c i kd (seeB L) = lokE X L c i) : Calls Tryz.prog 79 #[.agg F, .agg G, .int .i64 kd, .func (.func 80) #[.agg F] #[]] w (Tel (allE X L c i kd (seeB L)) (fO X i) w) := by
 have hz : F.size = 55 := by obtain ⟨⟨_, _, _, _, _, _, _, _, _, hF, _⟩, _, _⟩ := h; exact hF.size
 have hlo := fun (W : World) (hk : Below w.heap.size w W) => look_v (c := c) (i := i) (h.next hk) g0 g1
 have HE : Hid (allE X L c i kd (seeB L) = lokE X L c i) := hE
 have ent := sees_enters
 have ga2 := Tryz.isAgg3
 have hzr : (Tryz.prog.info? 32).map (·.size) = some G.size := by rw [gz]; kernel_rfl
 clear hE
 go_enter Tryz.func79, Tryz.ntmps79
 go_wp2_with (first
  | go_skip
  | (with_reducible refine wpList_box rfl 123 _ rfl F rfl ?_; intro B W1 hN1 hB hk)
  | (with_reducible refine wpList_box rfl 32 _ rfl G rfl ?_; intro Q W8 hN8 hQ hk8; replace hB := hB.next hk8; replace hk := hk.trans (hk8.mono hk.size); clear hk8)
  | ((with_reducible refine wpList_alloc rfl _ rfl zC zero40 ?_); have hx := oF; intro P W4 hN4 hP hk4; clear hx)
  | ((with_reducible refine wpList_alloc rfl _ rfl zC zero40 ?_); intro R W2 hN2 hR hk2; replace hB := hB.next hk2; replace hQ := hQ.next hk2; replace hk := hk.trans (hk2.mono hk.size); clear hk2)
  | (with_reducible refine wpList_loadb (by kernel_rfl) 123 _ rfl B rfl F hB _ Tryz.underlying123 (by kernel_rfl) (sizeF hz) ?_)
  | (with_reducible refine wpList_loadb (by kernel_rfl) 32 _ rfl Q rfl G hQ _ Tryz.underlying32 (by kernel_rfl) hzr ?_)
  | (go_at_call 100; (with_reducible refine (hlo _ hk).mono ?_); rintro e w3 hT; obtain ⟨rfl, hb3⟩ := hT.lost hl))
 exact ⟨rfl, Tel.threw HE.out hl (hk.trans (hb3.mono hk.size))⟩
theorem as_b {w : World} {F : Array Value} {L : Lb} {X : List Ob} {G : Array Value} {c i kd : Int} (h : Fw w F L X) (g0 : G[0]? = some (.int .u64 c)) (g1 : G[1]? = some (.int .u64 i)) (gz : G.size = 2) (hl : lokE X L c i = 0) (hk0 : ¬ kd = 0) (hk1 : ¬ kd = (fO X i).kind) (hE : allE X L c i kd (seeB L) = 3) : Calls Tryz.prog 79 #[.agg F, .agg G, .int .i64 kd, .func (.func 80) #[.agg F] #[]] w (Tel (allE X L c i kd (seeB L)) (fO X i) w) := by
 have hz : F.size = 55 := by obtain ⟨⟨_, _, _, _, _, _, _, _, _, hF, _⟩, _, _⟩ := h; exact hF.size
 have hlo := fun (W : World) (hk : Below w.heap.size w W) => look_v (c := c) (i := i) (h.next hk) g0 g1
 have HE : Hid (allE X L c i kd (seeB L) = 3) := hE
 have ent := sees_enters
 have ga2 := Tryz.isAgg3
 have hzr : (Tryz.prog.info? 32).map (·.size) = some G.size := by rw [gz]; kernel_rfl
 clear hE
 rw [hl] at hlo
 have k0 : (kd == 0) = false := by rw [beq_eq_false_iff_ne]; exact hk0
 have k2 : (kd == (fO X i).kind) = false := by rw [beq_eq_false_iff_ne]; exact hk1
 clear hk0 hk1
 clear hl
 go_enter Tryz.func79, Tryz.ntmps79
 go_wp2_with (first
  | go_skip
  | (with_reducible refine wpList_box rfl 123 _ rfl F rfl ?_; intro B W1 hN1 hB hk)
  | (with_reducible refine wpList_box rfl 32 _ rfl G rfl ?_; intro Q W8 hN8 hQ hk8; replace hB := hB.next hk8; replace hk := hk.trans (hk8.mono hk.size); clear hk8)
  | ((with_reducible refine wpList_alloc rfl _ rfl zC zero40 ?_); have hx := oF; intro P W4 hN4 hP hk4; clear hx)
  | ((with_reducible refine wpList_alloc rfl _ rfl zC zero40 ?_); intro R W2 hN2 hR hk2; replace hB := hB.next hk2; replace hQ := hQ.next hk2; replace hk := hk.trans (hk2.mono hk.size); clear hk2)
  | (with_reducible refine wpList_loadb (by kernel_rfl) 123 _ rfl B rfl F hB _ Tryz.underlying123 (by kernel_rfl) (sizeF hz) ?_)
  | (with_reducible refine wpList_loadb (by kernel_rfl) 32 _ rfl Q rfl G hQ _ Tryz.underlying32 (by kernel_rfl) hzr ?_)
  | (go_at_call 100; (with_reducible refine (hlo _ hk).mono ?_); rintro e w3 hT; obtain ⟨CF, rfl, oF, hb3⟩ := hT.got rfl; clear hT)
  | ((with_reducible refine wpList_store_blk rfl _ _ _ rfl P rfl CF rfl zC hP (size40C oF.size) (zC_size.trans oF.size.symm) oF.one ?_); intro V4 hP4 q4; obtain ⟨hb5, oG⟩ := laid_v hb3 oF hN4 hk4 q4; have zG := oG.size; clear oF hb3 hk4 q4 hN4 hP; replace hB := hB.next hb5; replace hR := hR.next hb5; replace hQ := hQ.next hb5; replace hk := hk.trans (hb5.mono hk.size); have k1 := oG.kind; have hsz := hb5.size; have hoG := ltN oG; clear hb5)
  | (with_reducible refine wpList_load1 (by kernel_rfl) _ _ rfl P _ rfl _ _ hP4 _ k1 ga2 ?_)
  | (with_reducible refine wpList_loadb (by kernel_rfl) 43 _ rfl P rfl CF hP4 _ Tryz.underlying43 (by kernel_rfl) (size40C zG) ?_)
  | (go_at_call 101; (with_reducible refine (need_yes _ _).mono ?_); rintro e w5 ⟨rfl, rfl⟩)
  | (go_at_call 101; (with_reducible refine (need_no _ _).mono ?_); rintro e w5 ⟨rfl, rfl⟩))
 exact ⟨rfl, Tel.threw HE.out (by decide) hk⟩
theorem as_c0 {w : World} {F : Array Value} {L : Lb} {X : List Ob} {G : Array Value} {c i : Int} (h : Fw w F L X) (g0 : G[0]? = some (.int .u64 c)) (g1 : G[1]? = some (.int .u64 i)) (gz : G.size = 2) (hl : lokE X L c i = 0) (hf : (fnd X i).isSome = true) (hm : seeB L (fO X i) = true) (hE : allE X L c i 0 (seeB L) = 0) : Calls Tryz.prog 79 #[.agg F, .agg G, .int .i64 0, .func (.func 80) #[.agg F] #[]] w (Tel (allE X L c i 0 (seeB L)) (fO X i) w) := by
 have hz : F.size = 55 := by obtain ⟨⟨_, _, _, _, _, _, _, _, _, hF, _⟩, _, _⟩ := h; exact hF.size
 have hlo := fun (W : World) (hk : Below w.heap.size w W) => look_v (c := c) (i := i) (h.next hk) g0 g1
 have HE : Hid (allE X L c i 0 (seeB L) = 0) := hE
 have ent := sees_enters
 have ga2 := Tryz.isAgg3
 have hzr : (Tryz.prog.info? 32).map (·.size) = some G.size := by rw [gz]; kernel_rfl
 clear hE
 rw [hl] at hlo
 have hsx : Small (fO X i) := h.sml _ (fO_mem hf).1
 have hma := fun (W : World) (C : Array Value) (hk : Below w.heap.size w W) (hC : ObD (LtN W) W C (fO X i)) => sees_v (h.next hk) hC hsx
 rw [hm] at hma
 clear hl hm hf
 go_enter Tryz.func79, Tryz.ntmps79
 go_wp2_with (first
  | go_skip
  | (with_reducible refine wpList_box rfl 123 _ rfl F rfl ?_; intro B W1 hN1 hB hk)
  | (with_reducible refine wpList_box rfl 32 _ rfl G rfl ?_; intro Q W8 hN8 hQ hk8; replace hB := hB.next hk8; replace hk := hk.trans (hk8.mono hk.size); clear hk8)
  | ((with_reducible refine wpList_alloc rfl _ rfl zC zero40 ?_); have hx := oF; intro P W4 hN4 hP hk4; clear hx)
  | ((with_reducible refine wpList_alloc rfl _ rfl zC zero40 ?_); intro R W2 hN2 hR hk2; replace hB := hB.next hk2; replace hQ := hQ.next hk2; replace hk := hk.trans (hk2.mono hk.size); clear hk2)
  | (with_reducible refine wpList_loadb (by kernel_rfl) 123 _ rfl B rfl F hB _ Tryz.underlying123 (by kernel_rfl) (sizeF hz) ?_)
  | (with_reducible refine wpList_loadb (by kernel_rfl) 32 _ rfl Q rfl G hQ _ Tryz.underlying32 (by kernel_rfl) hzr ?_)
  | (go_at_call 100; (with_reducible refine (hlo _ hk).mono ?_); rintro e w3 hT; obtain ⟨CF, rfl, oF, hb3⟩ := hT.got rfl; clear hT)
  | ((with_reducible refine wpList_store_blk rfl _ _ _ rfl P rfl CF rfl zC hP (size40C oF.size) (zC_size.trans oF.size.symm) oF.one ?_); intro V4 hP4 q4; obtain ⟨hb5, oG⟩ := laid_v hb3 oF hN4 hk4 q4; have zG := oG.size; clear oF hb3 hk4 q4 hN4 hP; replace hB := hB.next hb5; replace hR := hR.next hb5; replace hQ := hQ.next hb5; replace hk := hk.trans (hb5.mono hk.size); have k1 := oG.kind; have hsz := hb5.size; have hoG := ltN oG; clear hb5)
  | (with_reducible refine wpList_load1 (by kernel_rfl) _ _ rfl P _ rfl _ _ hP4 _ k1 ga2 ?_)
  | (with_reducible refine wpList_loadb (by kernel_rfl) 43 _ rfl P rfl CF hP4 _ Tryz.underlying43 (by kernel_rfl) (size40C zG) ?_)
  | (go_at_fn 80; (with_reducible refine (hma _ _ hk hoG).mono ?_); rintro e w6 ⟨rfl, hb6⟩; replace hB := hB.next hb6; replace hR := hR.next hb6; replace hQ := hQ.next hb6; replace hP4 := hP4.next hb6; replace hk := hk.trans (hb6.mono hk.size); replace oG := newN oG hb6; have hsz := Nat.le_trans hsz hb6.size; clear hb6)
  | (go_at_call 101; (with_reducible refine (need_yes _ _).mono ?_); rintro e w5 ⟨rfl, rfl⟩)
  | (go_at_call 101; (with_reducible refine (need_no _ _).mono ?_); rintro e w5 ⟨rfl, rfl⟩)
  | ((with_reducible refine wpList_store_blk rfl _ _ _ rfl R rfl CF rfl zC hR (size40C zG) (zC_size.trans zG.symm) oG.one ?_); intro V5 hR5 q5))
 obtain ⟨o9, b9⟩ := ret_v hk (by have := hN1.out; have := hN8.out; have := hN2.out; omega) oG ⟨by have := hN1.out; have := hN8.out; have := hN2.out; omega, by have := hN2.out; omega⟩ q5
 exact bodyPost_ret (v := .agg CF) (res40 Tryz.results79 rfl hR5 zG) rfl (Tel.told HE.out o9 b9)
theorem as_d0 {w : World} {F : Array Value} {L : Lb} {X : List Ob} {G : Array Value} {c i kd : Int} (h : Fw w F L X) (g0 : G[0]? = some (.int .u64 c)) (g1 : G[1]? = some (.int .u64 i)) (gz : G.size = 2) (hl : lokE X L c i = 0) (hf : (fnd X i).isSome = true) (hk0 : ¬ kd = 0) (hk1 : kd = (fO X i).kind) (hm : seeB L (fO X i) = true) (hE : allE X L c i kd (seeB L) = 0) : Calls Tryz.prog 79 #[.agg F, .agg G, .int .i64 kd, .func (.func 80) #[.agg F] #[]] w (Tel (allE X L c i kd (seeB L)) (fO X i) w) := by
 have hz : F.size = 55 := by obtain ⟨⟨_, _, _, _, _, _, _, _, _, hF, _⟩, _, _⟩ := h; exact hF.size
 have hlo := fun (W : World) (hk : Below w.heap.size w W) => look_v (c := c) (i := i) (h.next hk) g0 g1
 have HE : Hid (allE X L c i kd (seeB L) = 0) := hE
 have ent := sees_enters
 have ga2 := Tryz.isAgg3
 have hzr : (Tryz.prog.info? 32).map (·.size) = some G.size := by rw [gz]; kernel_rfl
 clear hE
 rw [hl] at hlo
 have hsx : Small (fO X i) := h.sml _ (fO_mem hf).1
 have hma := fun (W : World) (C : Array Value) (hk : Below w.heap.size w W) (hC : ObD (LtN W) W C (fO X i)) => sees_v (h.next hk) hC hsx
 rw [hm] at hma
 have k0 : (kd == 0) = false := by rw [beq_eq_false_iff_ne]; exact hk0
 have k2 : (kd == (fO X i).kind) = true := by rw [beq_iff_eq]; exact hk1
 clear hk0 hk1
 clear hl hm hf
 go_enter Tryz.func79, Tryz.ntmps79
 go_wp2_with (first
  | go_skip
  | (with_reducible refine wpList_box rfl 123 _ rfl F rfl ?_; intro B W1 hN1 hB hk)
  | (with_reducible refine wpList_box rfl 32 _ rfl G rfl ?_; intro Q W8 hN8 hQ hk8; replace hB := hB.next hk8; replace hk := hk.trans (hk8.mono hk.size); clear hk8)
  | ((with_reducible refine wpList_alloc rfl _ rfl zC zero40 ?_); have hx := oF; intro P W4 hN4 hP hk4; clear hx)
  | ((with_reducible refine wpList_alloc rfl _ rfl zC zero40 ?_); intro R W2 hN2 hR hk2; replace hB := hB.next hk2; replace hQ := hQ.next hk2; replace hk := hk.trans (hk2.mono hk.size); clear hk2)
  | (with_reducible refine wpList_loadb (by kernel_rfl) 123 _ rfl B rfl F hB _ Tryz.underlying123 (by kernel_rfl) (sizeF hz) ?_)
  | (with_reducible refine wpList_loadb (by kernel_rfl) 32 _ rfl Q rfl G hQ _ Tryz.underlying32 (by kernel_rfl) hzr ?_)
  | (go_at_call 100; (with_reducible refine (hlo _ hk).mono ?_); rintro e w3 hT; obtain ⟨CF, rfl, oF, hb3⟩ := hT.got rfl; clear hT)
  | ((with_reducible refine wpList_store_blk rfl _ _ _ rfl P rfl CF rfl zC hP (size40C oF.size) (zC_size.trans oF.size.symm) oF.one ?_); intro V4 hP4 q4; obtain ⟨hb5, oG⟩ := laid_v hb3 oF hN4 hk4 q4; have zG := oG.size; clear oF hb3 hk4 q4 hN4 hP; replace hB := hB.next hb5; replace hR := hR.next hb5; replace hQ := hQ.next hb5; replace hk := hk.trans (hb5.mono hk.size); have k1 := oG.kind; have hsz := hb5.size; have hoG := ltN oG; clear hb5)
  | (with_reducible refine wpList_load1 (by kernel_rfl) _ _ rfl P _ rfl _ _ hP4 _ k1 ga2 ?_)
  | (with_reducible refine wpList_loadb (by kernel_rfl) 43 _ rfl P rfl CF hP4 _ Tryz.underlying43 (by kernel_rfl) (size40C zG) ?_)
  | (go_at_fn 80; (with_reducible refine (hma _ _ hk hoG).mono ?_); rintro e w6 ⟨rfl, hb6⟩; replace hB := hB.next hb6; replace hR := hR.next hb6; replace hQ := hQ.next hb6; replace hP4 := hP4.next hb6; replace hk := hk.trans (hb6.mono hk.size); replace oG := newN oG hb6; have hsz := Nat.le_trans hsz hb6.size; clear hb6)
  | (go_at_call 101; (with_reducible refine (need_yes _ _).mono ?_); rintro e w5 ⟨rfl, rfl⟩)
  | (go_at_call 101; (with_reducible refine (need_no _ _).mono ?_); rintro e w5 ⟨rfl, rfl⟩)
  | ((with_reducible refine wpList_store_blk rfl _ _ _ rfl R rfl CF rfl zC hR (size40C zG) (zC_size.trans zG.symm) oG.one ?_); intro V5 hR5 q5))
 obtain ⟨o9, b9⟩ := ret_v hk (by have := hN1.out; have := hN8.out; have := hN2.out; omega) oG ⟨by have := hN1.out; have := hN8.out; have := hN2.out; omega, by have := hN2.out; omega⟩ q5
 exact bodyPost_ret (v := .agg CF) (res40 Tryz.results79 rfl hR5 zG) rfl (Tel.told HE.out o9 b9)
theorem as_c2 {w : World} {F : Array Value} {L : Lb} {X : List Ob} {G : Array Value} {c i : Int} (h : Fw w F L X) (g0 : G[0]? = some (.int .u64 c)) (g1 : G[1]? = some (.int .u64 i)) (gz : G.size = 2) (hl : lokE X L c i = 0) (hf : (fnd X i).isSome = true) (hm : seeB L (fO X i) = false) (hE : allE X L c i 0 (seeB L) = 2) : Calls Tryz.prog 79 #[.agg F, .agg G, .int .i64 0, .func (.func 80) #[.agg F] #[]] w (Tel (allE X L c i 0 (seeB L)) (fO X i) w) := by
 have hz : F.size = 55 := by obtain ⟨⟨_, _, _, _, _, _, _, _, _, hF, _⟩, _, _⟩ := h; exact hF.size
 have hlo := fun (W : World) (hk : Below w.heap.size w W) => look_v (c := c) (i := i) (h.next hk) g0 g1
 have HE : Hid (allE X L c i 0 (seeB L) = 2) := hE
 have ent := sees_enters
 have ga2 := Tryz.isAgg3
 have hzr : (Tryz.prog.info? 32).map (·.size) = some G.size := by rw [gz]; kernel_rfl
 clear hE
 rw [hl] at hlo
 have hsx : Small (fO X i) := h.sml _ (fO_mem hf).1
 have hma := fun (W : World) (C : Array Value) (hk : Below w.heap.size w W) (hC : ObD (LtN W) W C (fO X i)) => sees_v (h.next hk) hC hsx
 rw [hm] at hma
 clear hl hm hf
 go_enter Tryz.func79, Tryz.ntmps79
 go_wp2_with (first
  | go_skip
  | (with_reducible refine wpList_box rfl 123 _ rfl F rfl ?_; intro B W1 hN1 hB hk)
  | (with_reducible refine wpList_box rfl 32 _ rfl G rfl ?_; intro Q W8 hN8 hQ hk8; replace hB := hB.next hk8; replace hk := hk.trans (hk8.mono hk.size); clear hk8)
  | ((with_reducible refine wpList_alloc rfl _ rfl zC zero40 ?_); have hx := oF; intro P W4 hN4 hP hk4; clear hx)
  | ((with_reducible refine wpList_alloc rfl _ rfl zC zero40 ?_); intro R W2 hN2 hR hk2; replace hB := hB.next hk2; replace hQ := hQ.next hk2; replace hk := hk.trans (hk2.mono hk.size); clear hk2)
  | (with_reducible refine wpList_loadb (by kernel_rfl) 123 _ rfl B rfl F hB _ Tryz.underlying123 (by kernel_rfl) (sizeF hz) ?_)
  | (with_reducible refine wpList_loadb (by kernel_rfl) 32 _ rfl Q rfl G hQ _ Tryz.underlying32 (by kernel_rfl) hzr ?_)
  | (go_at_call 100; (with_reducible refine (hlo _ hk).mono ?_); rintro e w3 hT; obtain ⟨CF, rfl, oF, hb3⟩ := hT.got rfl; clear hT)
  | ((with_reducible refine wpList_store_blk rfl _ _ _ rfl P rfl CF rfl zC hP (size40C oF.size) (zC_size.trans oF.size.symm) oF.one ?_); intro V4 hP4 q4; obtain ⟨hb5, oG⟩ := laid_v hb3 oF hN4 hk4 q4; have zG := oG.size; clear oF hb3 hk4 q4 hN4 hP; replace hB := hB.next hb5; replace hR := hR.next hb5; replace hQ := hQ.next hb5; replace hk := hk.trans (hb5.mono hk.size); have k1 := oG.kind; have hsz := hb5.size; have hoG := ltN oG; clear hb5)
  | (with_reducible refine wpList_load1 (by kernel_rfl) _ _ rfl P _ rfl _ _ hP4 _ k1 ga2 ?_)
  | (with_reducible refine wpList_loadb (by kernel_rfl) 43 _ rfl P rfl CF hP4 _ Tryz.underlying43 (by kernel_rfl) (size40C zG) ?_)
  | (go_at_fn 80; (with_reducible refine (hma _ _ hk hoG).mono ?_); rintro e w6 ⟨rfl, hb6⟩; replace hB := hB.next hb6; replace hR := hR.next hb6; replace hQ := hQ.next hb6; replace hP4 := hP4.next hb6; replace hk := hk.trans (hb6.mono hk.size); replace oG := newN oG hb6; have hsz := Nat.le_trans hsz hb6.size; clear hb6)
  | (go_at_call 101; (with_reducible refine (need_yes _ _).mono ?_); rintro e w5 ⟨rfl, rfl⟩)
  | (go_at_call 101; (with_reducible refine (need_no _ _).mono ?_); rintro e w5 ⟨rfl, rfl⟩))
 exact ⟨rfl, Tel.threw HE.out (by decide) hk⟩
theorem as_d2 {w : World} {F : Array Value} {L : Lb} {X : List Ob} {G : Array Value} {c i kd : Int} (h : Fw w F L X) (g0 : G[0]? = some (.int .u64 c)) (g1 : G[1]? = some (.int .u64 i)) (gz : G.size = 2) (hl : lokE X L c i = 0) (hf : (fnd X i).isSome = true) (hk0 : ¬ kd = 0) (hk1 : kd = (fO X i).kind) (hm : seeB L (fO X i) = false) (hE : allE X L c i kd (seeB L) = 2) : Calls Tryz.prog 79 #[.agg F, .agg G, .int .i64 kd, .func (.func 80) #[.agg F] #[]] w (Tel (allE X L c i kd (seeB L)) (fO X i) w) := by
 have hz : F.size = 55 := by obtain ⟨⟨_, _, _, _, _, _, _, _, _, hF, _⟩, _, _⟩ := h; exact hF.size
 have hlo := fun (W : World) (hk : Below w.heap.size w W) => look_v (c := c) (i := i) (h.next hk) g0 g1
 have HE : Hid (allE X L c i kd (seeB L) = 2) := hE
 have ent := sees_enters
 have ga2 := Tryz.isAgg3
 have hzr : (Tryz.prog.info? 32).map (·.size) = some G.size := by rw [gz]; kernel_rfl
 clear hE
 rw [hl] at hlo
 have hsx : Small (fO X i) := h.sml _ (fO_mem hf).1
 have hma := fun (W : World) (C : Array Value) (hk : Below w.heap.size w W) (hC : ObD (LtN W) W C (fO X i)) => sees_v (h.next hk) hC hsx
 rw [hm] at hma
 have k0 : (kd == 0) = false := by rw [beq_eq_false_iff_ne]; exact hk0
 have k2 : (kd == (fO X i).kind) = true := by rw [beq_iff_eq]; exact hk1
 clear hk0 hk1
 clear hl hm hf
 go_enter Tryz.func79, Tryz.ntmps79
 go_wp2_with (first
  | go_skip
  | (with_reducible refine wpList_box rfl 123 _ rfl F rfl ?_; intro B W1 hN1 hB hk)
  | (with_reducible refine wpList_box rfl 32 _ rfl G rfl ?_; intro Q W8 hN8 hQ hk8; replace hB := hB.next hk8; replace hk := hk.trans (hk8.mono hk.size); clear hk8)
  | ((with_reducible refine wpList_alloc rfl _ rfl zC zero40 ?_); have hx := oF; intro P W4 hN4 hP hk4; clear hx)
  | ((with_reducible refine wpList_alloc rfl _ rfl zC zero40 ?_); intro R W2 hN2 hR hk2; replace hB := hB.next hk2; replace hQ := hQ.next hk2; replace hk := hk.trans (hk2.mono hk.size); clear hk2)
  | (with_reducible refine wpList_loadb (by kernel_rfl) 123 _ rfl B rfl F hB _ Tryz.underlying123 (by kernel_rfl) (sizeF hz) ?_)
  | (with_reducible refine wpList_loadb (by kernel_rfl) 32 _ rfl Q rfl G hQ _ Tryz.underlying32 (by kernel_rfl) hzr ?_)
  | (go_at_call 100; (with_reducible refine (hlo _ hk).mono ?_); rintro e w3 hT; obtain ⟨CF, rfl, oF, hb3⟩ := hT.got rfl; clear hT)
  | ((with_reducible refine wpList_store_blk rfl _ _ _ rfl P rfl CF rfl zC hP (size40C oF.size) (zC_size.trans oF.size.symm) oF.one ?_); intro V4 hP4 q4; obtain ⟨hb5, oG⟩ := laid_v hb3 oF hN4 hk4 q4; have zG := oG.size; clear oF hb3 hk4 q4 hN4 hP; replace hB := hB.next hb5; replace hR := hR.next hb5; replace hQ := hQ.next hb5; replace hk := hk.trans (hb5.mono hk.size); have k1 := oG.kind; have hsz := hb5.size; have hoG := ltN oG; clear hb5)
  | (with_reducible refine wpList_load1 (by kernel_rfl) _ _ rfl P _ rfl _ _ hP4 _ k1 ga2 ?_)
  | (with_reducible refine wpList_loadb (by kernel_rfl) 43 _ rfl P rfl CF hP4 _ Tryz.underlying43 (by kernel_rfl) (size40C zG) ?_)
  | (go_at_fn 80; (with_reducible refine (hma _ _ hk hoG).mono ?_); rintro e w6 ⟨rfl, hb6⟩; replace hB := hB.next hb6; replace hR := hR.next hb6; replace hQ := hQ.next hb6; replace hP4 := hP4.next hb6; replace hk := hk.trans (hb6.mono hk.size); replace oG := newN oG hb6; have hsz := Nat.le_trans hsz hb6.size; clear hb6)
  | (go_at_call 101; (with_reducible refine (need_yes _ _).mono ?_); rintro e w5 ⟨rfl, rfl⟩)
  | (go_at_call 101; (with_reducible refine (need_no _ _).mono ?_); rintro e w5 ⟨rfl, rfl⟩))
 exact ⟨rfl, Tel.threw HE.out (by decide) hk⟩
theorem as_v {w : World} {F : Array Value} {L : Lb} {X : List Ob} {G : Array Value} {c i kd : Int} (h : Fw w F L X) (g0 : G[0]? = some (.int .u64 c)) (g1 : G[1]? = some (.int .u64 i)) (gz : G.size = 2) : Calls Tryz.prog 79 #[.agg F, .agg G, .int .i64 kd, .func (.func 80) #[.agg F] #[]] w (Tel (allE X L c i kd (seeB L)) (fO X i) w) := by
 rcases lok_cases X L c i with hl | hl
 ·obtain ⟨hl, _, _, hf⟩ := hl
  by_cases hk0 : kd = 0
  ·subst hk0
   cases hm : seeB L (fO X i) with
   | true => exact as_c0 h g0 g1 gz hl hf hm (all_ok hl (.inl rfl) hm)
   | false => exact as_c2 h g0 g1 gz hl hf hm (all_lab hl (.inl rfl) hm)
  ·by_cases hk1 : kd = (fO X i).kind
   ·cases hm : seeB L (fO X i) with
    | true => exact as_d0 h g0 g1 gz hl hf hk0 hk1 hm (all_ok hl (.inr hk1) hm)
    | false => exact as_d2 h g0 g1 gz hl hf hk0 hk1 hm (all_lab hl (.inr hk1) hm)
   ·exact as_b h g0 g1 gz hl hk0 hk1 (all_kind hl (fun q => q.elim hk0 hk1))
 ·have hl' : lokE X L c i ≠ 0 := by rw [hl]; decide
  exact as_a h g0 g1 gz hl' (all_err hl')
end Go.Proofs.YtiiaohejldchdaaGreat
namespace Go.Proofs.YtiiaohejldchdaaGreat
set_option maxRecDepth 100000
set_option maxHeartbeats 8000000
open Go.RowKit Go.Shelf
set_option linter.unusedVariables false
attribute [local go_sem] Oper.semAt_some

theorem fill_get (off : Nat) : ∀ (v : List Value) (k : Nat) (cs : Array Value), off + k + v.length ≤ cs.size →
  ((v.zipIdx k).foldl (fun (c : Array Value) (p : Value × Nat) => c.setIfInBounds (off + p.2) p.1) cs).size = cs.size ∧
  ∀ i, ((v.zipIdx k).foldl (fun (c : Array Value) (p : Value × Nat) => c.setIfInBounds (off + p.2) p.1) cs)[i]? = if off + k ≤ i ∧ i < off + k + v.length then v[i - (off + k)]? else cs[i]?
 | [], k, cs, _ => ⟨rfl, fun i => by rw [if_neg (by simp)]; rfl⟩
 | a :: r, k, cs, h => by
  simp only [List.length_cons] at h
  obtain ⟨h1, h2⟩ := fill_get off r (k + 1) (cs.setIfInBounds (off + k) a) (by simp; omega)
  simp only [List.zipIdx_cons, List.foldl_cons]
  refine ⟨h1.trans (by simp), fun i => (h2 i).trans ?_⟩
  rw [set_at (by omega)]
  simp only [List.length_cons]
  by_cases e : off + k = i
  ·subst e
   rw [if_neg (by omega), if_pos rfl, if_pos (by omega)]
   simp
  ·rw [if_neg e]
   by_cases q : off + (k + 1) ≤ i ∧ i < off + (k + 1) + r.length
   ·rw [if_pos q, if_pos (by omega), show i - (off + k) = i - (off + (k + 1)) + 1 from by omega, List.getElem?_cons_succ]
   ·rw [if_neg q, if_neg (by omega)]
theorem fill_step {place : Nat → Option (Nat × Nat)} {cs C : Array Value} {i o n : Nat} {rest : List (Nat × Value)} (hp : place i = some (o, n)) (h1 : C.size = n) (h2 : o + C.size ≤ cs.size) : Instr.fill place cs ((i, .agg C) :: rest) = Instr.fill place ((C.toList.zipIdx 0).foldl (fun (c : Array Value) (p : Value × Nat) => c.setIfInBounds (o + p.2) p.1) cs) rest := by
 rw [Instr.fill, hp]
 simp only [Value.cells]
 refine (if_neg ?_).trans ?_
 ·simp [h1]
  omega
 ·rw [← Array.foldl_toList, Array.toList_zipIdx]
def zF : Array Value := zC ++ #[.int .i64 0, .int .u64 0, .int .u64 0, .slice none 0 0]
theorem zF_size : zF.size = 55 := by kernel_rfl
theorem built_fill (parts : List (Nat × Value)) : Tryz.prog.built 123 parts = Instr.fill (fun i => (#[(0, 51), (51, 4)] : Array (Nat × Nat))[i]?) zF parts := by kernel_rfl
theorem built_f {C G : Array Value} (hC : C.size = 51) (hG : G.size = 4) : ∃ F, Tryz.prog.built 123 [(0, .agg C), (1, .agg G)] = some F ∧ F.size = 55 ∧ (∀ i, i < 51 → F[i]? = C[i]?) ∧ ∀ i, i < 4 → F[51 + i]? = G[i]? := by
 rw [built_fill]
 obtain ⟨a1, a2⟩ := fill_get 0 C.toList 0 zF (by rw [zF_size]; simp [hC])
 obtain ⟨b1, b2⟩ := fill_get 51 G.toList 0 ((C.toList.zipIdx 0).foldl (fun (c : Array Value) (p : Value × Nat) => c.setIfInBounds (0 + p.2) p.1) zF) (by rw [a1, zF_size]; simp [hG])
 refine ⟨_, ?_, b1.trans (a1.trans zF_size), fun i hi => ?_, fun i hi => ?_⟩
 ·rw [fill_step (o := 0) (n := 51) rfl hC (by rw [zF_size, hC]; decide), fill_step (o := 51) (n := 4) rfl hG (by rw [a1, zF_size, hG]; decide)]
  rfl
 ·rw [b2 i, if_neg (by omega), a2 i, if_pos (by simp [hC]; omega)]
  simp
 ·rw [b2 (51 + i), if_pos (by simp [hG]; omega)]
  simp
theorem fd_of {C G F : Array Value} {t ke ro : Int} {ao aL : Option Addr} {n cap nL cL : Nat} (hG : G = #[.int .i64 t, .int .u64 ke, .int .u64 ro, .slice ao n cap]) (h1 : F.size = 55) (h2 : ∀ i, i < 51 → F[i]? = C[i]?) (h3 : ∀ i, i < 4 → F[51 + i]? = G[i]?) (h4 : C[2]? = some (.slice aL nL cL)) (h5 : C.all (·.oneCell') = true) : Fd F t ke ro ao n cap aL nL cL := by
 subst hG
 refine ⟨h1, ?_, (h2 2 (by decide)).trans h4, ?_⟩
 ·apply Array.ext_getElem?
  intro i
  by_cases hi : i < 4
  ·rw [ext_get (by omega) hi, h3 i hi]
  ·rw [Array.getElem?_eq_none (by simp; omega), Array.getElem?_eq_none (by simp; omega)]
 ·apply all_ext
  intro j v e
  by_cases hj : j < 51
  ·rw [h2 j hj] at e
   exact all_get h5 e
  ·have hl : j < 55 := by rw [← h1]; exact (Array.getElem?_eq_some_iff.1 e).1
   obtain ⟨m, rfl⟩ : ∃ m, j = 51 + m := ⟨j - 51, by omega⟩
   rw [h3 m (by omega)] at e
   exact all_get (T := #[.int .i64 t, .int .u64 ke, .int .u64 ro, .slice ao n cap]) (by kernel_rfl) e

theorem ta_hit (k : Int) (t : Nat) (w : World) : (Instr.typeAssert (.iface 47 (.int .i64 k)) t 47 true).run Tryz.prog w = .ok (.tuple #[.int .i64 k, .bool true]) w := by
 simp [Instr.typeAssert, run_underlying Tryz.underlying47]
theorem ta_none (t : Nat) (w : World) : (Instr.typeAssert .nilIface t 47 true).run Tryz.prog w = .ok (.tuple #[.int .i64 0, .bool false]) w := by
 have hz : (zeroValue 47).run Tryz.prog w = .ok (.int .i64 0) w := by kernel_rfl
 simp [Instr.typeAssert, run_underlying Tryz.underlying47, hz]
theorem catch_panicking (p : Addr) (x k : Int) (older : List PanicEntry) (w : World) (hc : w.cell? p = some (.int .i64 x)) (hz : w.frozen? p = false) :
  CallsD Tryz.prog 99 #[.pointer (some p)] (.panicking ({ v := .iface 47 (.int .i64 k), recovered := false } :: older)) w fun e u' w' =>
   e = .returned (.tuple #[]) ∧ u' = .panicking ({ v := .iface 47 (.int .i64 k), recovered := true } :: older) ∧ w' = w.setCell p (.int .i64 k) := by
 refine callsD_of_wpS Tryz.func99 rfl fun c₀ cs hu => ?_
 apply wpS_seq
 apply wpS_region
 simp [wpOpsS, go_sem, recoverD, hu, Tryz.ntmps99, Exit.thenS, ta_hit]
 apply wpS_seq
 apply wpS_region
 simp [wpOpsS, go_sem, Exit.thenS]
 refine wpS_cond (t := true) (by simp [Act.eval, Array.replicate]) ?_
 simp only [if_true]
 apply wpS_region
 simp [wpOpsS, go_sem, hc, hz, bodyPostS, results, Tryz.results99]
theorem catch_idle (p : Addr) (w : World) :
  CallsD Tryz.prog 99 #[.pointer (some p)] .returning w fun e u' w' => e = .returned (.tuple #[]) ∧ u' = .returning ∧ w' = w := by
 refine callsD_of_wpS Tryz.func99 rfl fun c₀ cs hu => ?_
 apply wpS_seq
 apply wpS_region
 simp [wpOpsS, go_sem, recoverD, hu, Tryz.ntmps99, Exit.thenS, ta_none]
 apply wpS_seq
 apply wpS_region
 simp [wpOpsS, go_sem, Exit.thenS]
 refine wpS_cond (t := false) (by simp [Act.eval, Array.replicate]) ?_
 simp only [Bool.false_eq_true, if_false]
 refine wpS_of_wp (wp_skip ?_)
 cases c₀
 simp_all [bodyPostS, results, Tryz.results99]
theorem res40e {fn : Func} {p q : Tmp} (h : fn.results = #[.cell p 43, .cell q 47]) {tmps : Array Value} {w : World} {O E : Nat} {C : Array Value} {k : Int} (hp : tmps.getD p undef = .pointer (some ⟨O, 0, none⟩)) (hq : tmps.getD q undef = .pointer (some ⟨E, 0, none⟩)) (hO : Blk w O C 43) (hs : C.size = 51) (hE : w.cell? ⟨E, 0, none⟩ = some (.int .i64 k)) : (results fn tmps).run Tryz.prog w = .ok (.tuple #[.agg C, .int .i64 k]) w := by
 have h1 := run_loadVar_mid (P := Tryz.prog) w O 0 43 C.toList _ hO.range0 Tryz.underlying43 rfl (by simpa using size40C hs)
 rw [Array.toArray_toList] at h1
 have h2 : (loadVar 47 ⟨E, 0, none⟩).run Tryz.prog w = .ok (.int .i64 k) w := by
  have := Tryz.isAgg47
  simp [go_sem, hE]
 have hp' : tmps[p]?.getD undef = .pointer (some ⟨O, 0, none⟩) := by simpa using hp
 have hq' : tmps[q]?.getD undef = .pointer (some ⟨E, 0, none⟩) := by simpa using hq
 simp only [results, h]
 simp [Sem.run_bind, Result.andThen, hp', hq', asAddr, h1, h2]
theorem errCell (w w1 : World) (hb : Below (w.alloc (.cells #[.int .i64 0] 47)).heap.size (w.alloc (.cells #[.int .i64 0] 47)) w1) : w1.cell? ⟨w.heap.size, 0, none⟩ = some (.int .i64 0) ∧ w1.frozen? ⟨w.heap.size, 0, none⟩ = false :=
 ⟨(hb.cell (p := ⟨w.heap.size, 0, none⟩) (by simp)).trans (by simp), (hb.frozen (p := ⟨w.heap.size, 0, none⟩) (by simp)).trans (by simp)⟩
theorem caught_ok (f : Nat) (lb : Array Value) (ef : ∀ args w, (callFunc f args).run Tryz.prog w = .ok (.enter f args) w) {x : Ob} {w : World} (h : ∀ W, Below w.heap.size w W → Calls Tryz.prog f lb W (Tel 0 x W)) :
  Calls Tryz.prog 77 #[.func (.func f) #[] lb] w fun e w' => ∃ C, e = .returned (.tuple #[.agg C, .int .i64 0]) ∧ ObD (New w w') w' C x ∧ Below w.heap.size w w' := by
 have hmf : ∀ (fn : Fn) (first cap : Array Value) (w : World), (Instr.makeFunc fn first cap).run Tryz.prog w = .ok (.func fn first cap) w := fun _ _ _ _ => rfl
 go_enter_defers Tryz.func77, Tryz.ntmps77
 go_wp2_with (first
  | ((with_reducible refine wpList_alloc rfl _ rfl zC zero40 ?_); intro O W1 hN1 hO hk)
  | (go_at_fn f; refine (h _ (hk.alloc hk.size _)).mono ?_; rintro e w1 hT; obtain ⟨C, rfl, oC, hb⟩ := hT.got rfl; clear hT; obtain ⟨hc1, hz1⟩ := errCell W1 w1 hb; have hO1 := (hO.next ((Below.refl _ W1).alloc (Nat.le_refl _) _)).next hb; have zC1 := oC.size)
  | ((with_reducible refine wpList_store_blk rfl _ _ _ rfl O rfl C rfl zC hO1 (size40C zC1) (zC_size.trans zC1.symm) oC.one ?_); intro V2 hO2 q2; have hne : W1.heap.size ≠ O := (by have := hN1.out; omega); have hc2 := (World.cell?_of_block (w := w1) (a := ⟨W1.heap.size, 0, none⟩) (q2.block _ hne)).trans hc1; have hz2 : V2.frozen? ⟨W1.heap.size, 0, none⟩ = false := (by have e := q2.block _ hne; unfold World.frozen? at hz1 ⊢; rw [e]; exact hz1)))
 refine leaves_cons (f := 99) (args := #[.pointer (some ⟨W1.heap.size, 0, none⟩)]) (by simp) (by simp [go_sem]) ?_
 refine (catch_idle ⟨W1.heap.size, 0, none⟩ _).mono ?_
 rintro e u' w'' ⟨rfl, rfl, rfl⟩
 have hcs : (V2.setCell ⟨W1.heap.size, 0, none⟩ (.int .i64 0)).cell? ⟨W1.heap.size, 0, none⟩ = some (.int .i64 0) := World.cell?_setCell_same' _ _ _ (by rw [hc2]; rfl)
 have oE := Oth.setCell V2 W1.heap.size 0 (.int .i64 0)
 have hsz : (W1.alloc (.cells #[.int .i64 0] 47)).heap.size = W1.heap.size + 1 := by simp
 have hn := hN1.out
 have e2 := q2.size
 have e3 := oE.size
 have hbz := hb.size
 refine ⟨_, res40e Tryz.results77 rfl rfl (hO2.other oE (by omega)) zC1 hcs, C, rfl, (oC.laterK fun b hb => ?_).wide fun b hb => ⟨by have := hb.1; omega, by have := hb.2; omega⟩, ?_⟩
 ·have h1 := hb.1
  rw [oE.block b (by omega), q2.block b (by omega)]
 ·exact oE.below _ _ (by omega) (q2.below _ _ (by omega) ((hk.alloc hk.size _).trans (hb.mono (by omega))))
theorem caught_err (f : Nat) (lb : Array Value) (ef : ∀ args w, (callFunc f args).run Tryz.prog w = .ok (.enter f args) w) {k : Int} {x : Ob} {w : World} (hk0 : k ≠ 0) (h : ∀ W, Below w.heap.size w W → Calls Tryz.prog f lb W (Tel k x W)) :
  Calls Tryz.prog 77 #[.func (.func f) #[] lb] w fun e w' => ∃ C, e = .returned (.tuple #[.agg C, .int .i64 k]) ∧ ObD (New w w') w' C zOb ∧ Below w.heap.size w w' := by
 have hmf : ∀ (fn : Fn) (first cap : Array Value) (w : World), (Instr.makeFunc fn first cap).run Tryz.prog w = .ok (.func fn first cap) w := fun _ _ _ _ => rfl
 go_enter_defers Tryz.func77, Tryz.ntmps77
 go_wp2_with (first
  | ((with_reducible refine wpList_alloc rfl _ rfl zC zero40 ?_); intro O W1 hN1 hO hk)
  | (go_at_fn f; refine (h _ (hk.alloc hk.size _)).mono ?_; rintro e w1 hT; obtain ⟨rfl, hb⟩ := hT.lost hk0; clear hT; dsimp only [thrown]))
 obtain ⟨hc1, hz1⟩ := errCell W1 w1 hb
 have hO1 := (hO.next ((Below.refl _ W1).alloc (Nat.le_refl _) (.cells #[.int .i64 0] 47))).next hb
 refine leaves_cons (f := 99) (args := #[.pointer (some ⟨W1.heap.size, 0, none⟩)]) (by simp) (by simp [go_sem]) ?_
 refine (catch_panicking ⟨W1.heap.size, 0, none⟩ 0 k [] _ hc1 hz1).mono ?_
 rintro e u' w'' ⟨rfl, rfl, rfl⟩
 have hcs : (w1.setCell ⟨W1.heap.size, 0, none⟩ (.int .i64 k)).cell? ⟨W1.heap.size, 0, none⟩ = some (.int .i64 k) := World.cell?_setCell_same' _ _ _ (by rw [hc1]; rfl)
 have oE := Oth.setCell w1 W1.heap.size 0 (.int .i64 k)
 have hsz : (W1.alloc (.cells #[.int .i64 0] 47)).heap.size = W1.heap.size + 1 := by simp
 have hn := hN1.out
 exact ⟨_, res40e Tryz.results77 rfl rfl (hO1.other oE (by omega)) zC_size hcs, zC, rfl, zC_d _ _, oE.below _ _ (by omega) ((hk.alloc hk.size _).trans (hb.mono (by omega)))⟩
theorem caught_v (f : Nat) (lb : Array Value) (ef : ∀ args w, (callFunc f args).run Tryz.prog w = .ok (.enter f args) w) {k : Int} {x : Ob} {w : World} (h : ∀ W, Below w.heap.size w W → Calls Tryz.prog f lb W (Tel k x W)) :
  Calls Tryz.prog 77 #[.func (.func f) #[] lb] w fun e w' => ∃ C, e = .returned (.tuple #[.agg C, .int .i64 k]) ∧ ObD (New w w') w' C (resO k x) ∧ Below w.heap.size w w' := by
 by_cases hk0 : k = 0
 ·subst hk0
  exact (caught_ok f lb ef h).mono fun e w' ⟨C, e1, o, hb⟩ => ⟨C, e1, by unfold resO; rw [if_pos rfl]; exact o, hb⟩
 ·exact (caught_err f lb ef hk0 h).mono fun e w' ⟨C, e1, o, hb⟩ => ⟨C, e1, by unfold resO; rw [if_neg hk0]; exact o, hb⟩
end Go.Proofs.YtiiaohejldchdaaGreat
namespace Go.Proofs.YtiiaohejldchdaaGreat
set_option maxRecDepth 100000
set_option maxHeartbeats 8000000
open Go.RowKit Go.Shelf
set_option linter.unusedVariables false
attribute [local go_sem] Oper.semAt_some

section
variable {P : Program} {ops : Array Oper} {rest : List Oper} {op : Oper} {a : Act} {Q : Exit → Act → World → Prop} {w : World}
theorem wpList_box1 (hgd : op.guard = none) (ty : TypeId) (x : Operand) (ho : op.op = .box ty x) (v : Value) (hx : a.eval x = v) (hv : v.cells = #[v])
  (h : ∀ B W, Hid (w.heap.size = B ∧ W.heap.size = B + 1) → Blk W B #[v] ty → Below w.heap.size w W → wpList P ops Q rest (a.put op.dst (.pointer (some ⟨B, 0, none⟩))) W) : wpList P ops Q (op :: rest) a w :=
 wpList_plain hgd fun K hK => by
  unfold Oper.wp execOp
  simp only [ho, hx, Instr.box, newVar, newRow, newObj, Sem.run_bind, hv]
  exact hK _ _ (h _ _ ⟨rfl, by simp⟩ (Blk.new w #[v] ty) ((Below.refl _ w).alloc (Nat.le_refl _) _))
end
theorem zeroF (w : World) : (zeroValue 123).run Tryz.prog w = .ok (.agg zF) w := by kernel_rfl
theorem see1_ok {w : World} {F : Array Value} {L : Lb} {X : List Ob} {B Q K : Nat} {G : Array Value} {c i kd : Int} (h : Fw w F L X) (hB : Blk w B F 123) (hQ : Blk w Q G 32) (hK : Blk w K #[.int .i64 kd] 3) (g0 : G[0]? = some (.int .u64 c)) (g1 : G[1]? = some (.int .u64 i)) (gz : G.size = 2) (hE : allE X L c i kd (seeB L) = 0) : Calls Tryz.prog 78 #[.pointer (some ⟨B, 0, none⟩), .pointer (some ⟨Q, 0, none⟩), .pointer (some ⟨K, 0, none⟩)] w (Tel (allE X L c i kd (seeB L)) (fO X i) w) := by
 have hmf : ∀ (fn : Fn) (first cap : Array Value) (w : World), (Instr.makeFunc fn first cap).run Tryz.prog w = .ok (.func fn first cap) w := fun _ _ _ _ => rfl
 have hz : F.size = 55 := by obtain ⟨⟨_, _, _, _, _, _, _, _, _, hF, _⟩, _, _⟩ := h; exact hF.size
 have hzr : (Tryz.prog.info? 32).map (·.size) = some G.size := by rw [gz]; kernel_rfl
 have hin := fun (W : World) (hk : Below w.heap.size w W) => as_v (kd := kd) (h.next hk) g0 g1 gz
 have HE : Hid (allE X L c i kd (seeB L) = 0) := hE
 clear hE
 generalize allE X L c i kd (seeB L) = ek at hin HE ⊢
 go_enter Tryz.func78, Tryz.ntmps78
 go_wp2_with (first
  | ((with_reducible refine wpList_alloc rfl _ rfl zC zero40 ?_); intro R W2 hN2 hR hk; replace hB := hB.next hk; replace hQ := hQ.next hk; replace hK := hK.next hk; skip)
  | (with_reducible refine wpList_loadb (by kernel_rfl) 123 _ rfl B rfl F hB _ Tryz.underlying123 (by kernel_rfl) (sizeF hz) ?_)
  | (with_reducible refine wpList_loadb (by kernel_rfl) 32 _ rfl Q rfl G hQ _ Tryz.underlying32 (by kernel_rfl) hzr ?_)
  | (with_reducible refine wpList_load1 (by kernel_rfl) _ _ rfl K _ rfl _ _ hK (.int .i64 kd) rfl Tryz.isAgg3 ?_)
  | (go_at_call 79; (with_reducible refine (hin _ hk).mono ?_); rintro e w3 hT; obtain ⟨CF, rfl, oF, hb3⟩ := hT.got HE.out; clear hT; replace hR := hR.next hb3; have hk3 := hk.trans (hb3.mono hk.size); have zF := oF.size)
  | ((with_reducible refine wpList_store_blk rfl _ _ _ rfl R rfl CF rfl zC hR (size40C zF) (zC_size.trans zF.symm) oF.one ?_); intro V5 hR5 q5))
 obtain ⟨o9, b9⟩ := ret_v hk3 hk.size oF ⟨by have := hN2.out; omega, by have := hN2.out; omega⟩ q5
 exact bodyPost_ret (v := .agg CF) (res40 Tryz.results78 rfl hR5 zF) rfl (Tel.told HE.out o9 b9)
theorem see1_no {w : World} {F : Array Value} {L : Lb} {X : List Ob} {B Q K : Nat} {G : Array Value} {c i kd : Int} (h : Fw w F L X) (hB : Blk w B F 123) (hQ : Blk w Q G 32) (hK : Blk w K #[.int .i64 kd] 3) (g0 : G[0]? = some (.int .u64 c)) (g1 : G[1]? = some (.int .u64 i)) (gz : G.size = 2) (hE : allE X L c i kd (seeB L) ≠ 0) : Calls Tryz.prog 78 #[.pointer (some ⟨B, 0, none⟩), .pointer (some ⟨Q, 0, none⟩), .pointer (some ⟨K, 0, none⟩)] w (Tel (allE X L c i kd (seeB L)) (fO X i) w) := by
 have hmf : ∀ (fn : Fn) (first cap : Array Value) (w : World), (Instr.makeFunc fn first cap).run Tryz.prog w = .ok (.func fn first cap) w := fun _ _ _ _ => rfl
 have hz : F.size = 55 := by obtain ⟨⟨_, _, _, _, _, _, _, _, _, hF, _⟩, _, _⟩ := h; exact hF.size
 have hzr : (Tryz.prog.info? 32).map (·.size) = some G.size := by rw [gz]; kernel_rfl
 have hin := fun (W : World) (hk : Below w.heap.size w W) => as_v (kd := kd) (h.next hk) g0 g1 gz
 have HE : Hid (allE X L c i kd (seeB L) ≠ 0) := hE
 clear hE
 generalize allE X L c i kd (seeB L) = ek at hin HE ⊢
 go_enter Tryz.func78, Tryz.ntmps78
 go_wp2_with (first
  | ((with_reducible refine wpList_alloc rfl _ rfl zC zero40 ?_); intro R W2 hN2 hR hk; replace hB := hB.next hk; replace hQ := hQ.next hk; replace hK := hK.next hk; skip)
  | (with_reducible refine wpList_loadb (by kernel_rfl) 123 _ rfl B rfl F hB _ Tryz.underlying123 (by kernel_rfl) (sizeF hz) ?_)
  | (with_reducible refine wpList_loadb (by kernel_rfl) 32 _ rfl Q rfl G hQ _ Tryz.underlying32 (by kernel_rfl) hzr ?_)
  | (with_reducible refine wpList_load1 (by kernel_rfl) _ _ rfl K _ rfl _ _ hK (.int .i64 kd) rfl Tryz.isAgg3 ?_)
  | (go_at_call 79; (with_reducible refine (hin _ hk).mono ?_); rintro e w3 hT; obtain ⟨rfl, hb3⟩ := hT.lost HE.out))
 exact ⟨rfl, Tel.threw rfl HE.out (hk.trans (hb3.mono hk.size))⟩
theorem see1_v {w : World} {F : Array Value} {L : Lb} {X : List Ob} {B Q K : Nat} {G : Array Value} {c i kd : Int} (h : Fw w F L X) (hB : Blk w B F 123) (hQ : Blk w Q G 32) (hK : Blk w K #[.int .i64 kd] 3) (g0 : G[0]? = some (.int .u64 c)) (g1 : G[1]? = some (.int .u64 i)) (gz : G.size = 2) : Calls Tryz.prog 78 #[.pointer (some ⟨B, 0, none⟩), .pointer (some ⟨Q, 0, none⟩), .pointer (some ⟨K, 0, none⟩)] w (Tel (allE X L c i kd (seeB L)) (fO X i) w) := by
 by_cases hE : allE X L c i kd (seeB L) = 0
 ·exact see1_ok h hB hQ hK g0 g1 gz hE
 ·exact see1_no h hB hQ hK g0 g1 gz hE
theorem see1_enters : ∀ args w, (callFunc 78 args).run Tryz.prog w = .ok (.enter 78 args) w := enters_of Tryz.func78 (by kernel_rfl) rfl
theorem see_face {w : World} {t ke ro : Int} {ao : Option Addr} {n cap : Nat} {X : List Ob} {C : Array Value} {x : Ob} {G : Array Value} {c i kd : Int} (h : Obs w ao n cap X) (hs : Srt X) (hn : n ≤ 4096) (hsm : Smalls X) (hC : ObD (LtN w) w C x) (hl : x.label.length < 1048576) (g0 : G[0]? = some (.int .u64 c)) (g1 : G[1]? = some (.int .u64 i)) (gz : G.size = 2) : Calls Tryz.prog 54 #[.agg #[.int .i64 t, .int .u64 ke, .int .u64 ro, .slice ao n cap], .agg C, .agg G, .int .i64 kd] w fun e w' => ∃ C', e = .returned (.tuple #[.agg C', .int .i64 (allE X x.label c i kd (seeB x.label))]) ∧ ObD (New w w') w' C' (resO (allE X x.label c i kd (seeB x.label)) (fO X i)) ∧ Below w.heap.size w w' := by
 have hmf : ∀ (fn : Fn) (first cap : Array Value) (w : World), (Instr.makeFunc fn first cap).run Tryz.prog w = .ok (.func fn first cap) w := fun _ _ _ _ => rfl
 obtain ⟨F, hbt, f1, f2, f3⟩ := built_f (C := C) (G := #[.int .i64 t, .int .u64 ke, .int .u64 ro, .slice ao n cap]) hC.size rfl
 obtain ⟨a2, n2, c2, e2, l2⟩ := hC.label
 have hF := fd_of rfl f1 f2 f3 e2 hC.one
 have hFw := fun (W : World) (hk : Below w.heap.size w W) => (⟨⟨t, ke, ro, ao, n, cap, a2, n2, c2, hF, obs_next h hk, LabD.lab' l2 hk, by have := l2.1; omega, hn⟩, hs, hsm⟩ : Fw W F x.label X)
 have ho := hF.one
 have hz := hC.size
 have hzg : (Tryz.prog.info? 25).map (·.size) = some (#[.int .i64 t, .int .u64 ke, .int .u64 ro, .slice ao n cap] : Array Value).size := by kernel_rfl
 obtain ⟨D, hD⟩ : ∃ D : Array Value, D = #[.int .i64 t, .int .u64 ke, .int .u64 ro, .slice ao n cap] := ⟨_, rfl⟩
 rw [← hD] at hbt hzg
 rw [← hD]
 have hzf : zF.size = F.size := zF_size.trans f1.symm
 clear hD f2 f3 hF h hs hsm l2 e2
 have hzr : (Tryz.prog.info? 32).map (·.size) = some G.size := by rw [gz]; kernel_rfl
 have hca := fun (W : World) (B Q K : Nat) (hB : Blk W B F 123) (hQ : Blk W Q G 32) (hK : Blk W K #[.int .i64 kd] 3) (hk : Below w.heap.size w W) => caught_v 78 #[.pointer (some ⟨B, 0, none⟩), .pointer (some ⟨Q, 0, none⟩), .pointer (some ⟨K, 0, none⟩)] see1_enters (w := W) (fun V hb => see1_v (hFw V (hk.trans (hb.mono hk.size))) (hB.next hb) (hQ.next hb) (hK.next hb) g0 g1 gz)
 have hcK : (.int .i64 kd : Value).cells = #[.int .i64 kd] := rfl
 generalize allE X x.label c i kd (seeB x.label) = ek at hca ⊢
 go_enter Tryz.func54, Tryz.ntmps54
 go_wp2_with (first
  | (with_reducible refine wpList_box rfl 25 _ rfl D rfl ?_; intro B W1 hN1 hB hk)
  | (with_reducible refine wpList_box rfl 43 _ rfl C rfl ?_; intro T W3 hN3 hT hk3; replace hB := hB.next hk3; replace hk := hk.trans (hk3.mono hk.size); clear hk3)
  | (with_reducible refine wpList_box rfl 32 _ rfl G rfl ?_; intro Q VQ hNQ hQ hkQ; replace hB := hB.next hkQ; replace hT := hT.next hkQ; replace hk := hk.trans (hkQ.mono hk.size); clear hkQ)
  | (with_reducible refine wpList_box1 rfl 3 _ rfl (.int .i64 kd) rfl hcK ?_; intro K VK hNK hK hkK; replace hB := hB.next hkK; replace hT := hT.next hkK; replace hQ := hQ.next hkK; replace hk := hk.trans (hkK.mono hk.size); clear hkK)
  | ((with_reducible refine wpList_alloc rfl 43 rfl zC zero40 ?_); intro R W2 hN2 hR hk2; replace hB := hB.next hk2; replace hT := hT.next hk2; replace hQ := hQ.next hk2; replace hK := hK.next hk2; replace hk := hk.trans (hk2.mono hk.size); clear hk2)
  | (with_reducible refine wpList_loadb (by kernel_rfl) 43 _ rfl T rfl C hT _ Tryz.underlying43 (by kernel_rfl) (size40C hz) ?_)
  | (with_reducible refine wpList_loadb (by kernel_rfl) 25 _ rfl B rfl D hB _ Tryz.underlying25 (by kernel_rfl) hzg ?_)
  | ((with_reducible refine wpList_build rfl 123 [(0, _), (1, _)] rfl F ?hf ?_); (case hf => exact hbt))
  | ((with_reducible refine wpList_alloc rfl 123 rfl zF zeroF ?_); intro P W6 hN6 hP hk6; have hw6 := hk6; clear hw6; replace hB := hB.next hk6; replace hT := hT.next hk6; replace hQ := hQ.next hk6; replace hK := hK.next hk6; replace hR := hR.next hk6; replace hk := hk.trans (hk6.mono hk.size); clear hk6)
  | ((with_reducible refine wpList_store_blk rfl _ _ _ rfl P rfl F rfl zF hP (sizeF f1) hzf ho ?_); intro V4 hP4 q4; have l0 := hN1.out; have l1 := hN3.out; have lQ := hNQ.out; have lK := hNK.out; have l2 := hN2.out; have l6 := hN6.out; replace hQ := hQ.other q4 (by omega); replace hK := hK.other q4 (by omega); replace hR := hR.other q4 (by omega); replace hk := q4.below _ _ (by omega) hk)
  | (go_at_call 77; (with_reducible refine (hca _ _ _ _ hP4 hQ hK hk).mono ?_); rintro e w5 ⟨CF, rfl, oF, hb5⟩; have zF := oF.size; replace hR := hR.next hb5; have hk5 := hk.trans (hb5.mono hk.size))
  | ((with_reducible refine wpList_store_blk rfl _ _ _ rfl R rfl CF rfl zC hR (size40C zF) (zC_size.trans zF.symm) oF.one ?_); intro V5 hR5 q5))
 have e4 := q4.size
 obtain ⟨o9, b9⟩ := ret_v hk5 hk.size oF ⟨by omega, by omega⟩ q5
 exact bodyPost_ret (v := .tuple #[.agg CF, .int .i64 ek]) (res40b Tryz.results54 rfl rfl hR5 zF) rfl ⟨CF, rfl, o9, b9⟩
end Go.Proofs.YtiiaohejldchdaaGreat
