/-
 PROVED HERE: what cpu's need, word, store, trap and fetch return, or throw, when they are called (contracts over this trans. What is asked stands at each.
-/
import Derived.Test.YtdeddhojjolihaaGreatZ32
import Derived.Test.YtdeddhojjolihaaGreatZ39
import Derived.Test.YtdeddhojjolihaaGreatZ42
namespace Go.Proofs.YtdeddhojjolihaaGreat
set_option maxRecDepth 100000
set_option maxHeartbeats 8000000
set_option linter.unusedVariables false
open Go.Proofs.Tryz
section
open Go.RowKit Go.Shelf
attribute [local go_sem] Oper.semAt_some
structure Gx (X : List Ob) (n : Nat) (x : Ob) : Prop where
 srt : Srt X
 len : n < 1024
 sml : wfz X
 snd : ∀ y ∈ X, qQz y = true
 ids : ∀ y ∈ X, y.id ≠ 0
 lab : x.label.length < 1048576
 sm : Small x
variable {Z : Nat → Prop} {ao : Option Addr} {F : Array Value} {t ke ro : Int} {w : World} {n cap : Nat} {X : List Ob} {B : Nat} {x : Ob}
theorem Pz.mw (h : Pz Z w B F x t ke ro ao n cap X) (hg : Gx X n x) : Mw w ao n cap X (F.extract 0 51) x :=
 ⟨h.obs.wide (fun b hb => hb.1.1) (fun b hb => hb.1.1), hg.srt, by have := hg.len; omega, hg.sml, hg.snd, h.ob.wide fun b hb => hb.1.1, hg.lab⟩
def thrF (k : Int) : List PanicEntry := [{ v := .iface 92 (.int .u64 k), recovered := false }]
theorem kez (k : Int) (w : World) : Calls prog 79 #[.bool true, .int .u64 k] w fun e w' => e = .returned (.tuple #[]) ∧ w = w' := by
 go_enter func79, ntmps79
 go_wp2
 go_end0
 exact ⟨rfl, rfl⟩
theorem kfz (k : Int) (w : World) : Calls prog 79 #[.bool false, .int .u64 k] w fun e w' => e = .panicked (thrF k) ∧ w = w' := by
 go_enter func79, ntmps79
 go_wp2
 exact ⟨rfl, rfl, rfl⟩
theorem yYz {a why : Int} (h : Pz Z w B F x t ke ro ao n cap X) (hg : Gx X n x) (ha : 0 ≤ a ∧ a ≤ 18446744073709551615) (hE : wkE X x a = 0) : Calls prog 74 #[.pointer (some ⟨B, 0, none⟩), .int .u64 a, .int .u64 why] w fun e w' => e = .returned (.int .u64 (ldV X x a)) ∧ Below w.heap.size w w' := by
 have hmx : prog.follows .mixedOrders = true := by kernel_rfl
 have ga2 := isAgg22
 have hB := h.blk
 have hz := h.size
 have hBl := h.blk.lt
 have hp : F[24]? = some (.int .u64 x.th.pc) := h.pc
 have hk := Below.refl w.heap.size w
 have hwl := h.wld
 obtain ⟨CO, hCO⟩ : ∃ CO, F.extract 0 51 = CO := ⟨_, rfl⟩
 have zO : CO.size = 51 := by rw [← hCO]; simp [hz]
 obtain ⟨D, hD⟩ : ∃ D : Array Value, D = #[.int .i64 t, .int .u64 ke, .int .u64 ro, .slice ao n cap] := ⟨_, rfl⟩
 rw [← hD] at hwl
 have zD : D.size = 4 := by rw [hD]; rfl
 have hld := fun (W : World) (hk : Below w.heap.size w W) => load_v (t := t) (ke := ke) (ro := ro) ((h.next hk).mw hg) ha
 rw [decide_eq_true hE, ← hD, hCO] at hld
 generalize ldV X x a = V at hld ⊢
 clear hD hE
 go_enter func74, ntmps74
 go_wp2
 refine PgM.region_out (S := fun W => Blk W B F 59 ∧ Below w.heap.size w W) hmx (⟨hB.next (Below.refl _ _).drew, hk.trans ((Below.refl _ _).drew.mono hk.size)⟩) (fun hS0 => ?_)
 generalize w.drew = v0 at hS0 ⊢
 refine qoz (by kernel_rfl) (fun _ _ _ _ _ h => h) hS0 [(0, none), (1, none), (2, none), (3, some (.agg D)), (4, none), (5, none), (6, none), (7, some (.agg CO)), (8, none)] (l' := #[tt, tt, tt, tt, tt, tt, tt, tt, tt, ff, ff, ff, ff, ff, ff]) (a' := { tmps := #[.pointer (some ⟨B, 0, none⟩), .int .u64 a, .int .u64 why, ud, ud, undef, .int .u64 0, ud, ud, undef, .pointer (some ⟨B, 0, none⟩), .pointer (some ⟨B, 0, none⟩), .pointer (some ⟨B, 51, none⟩), .agg D, .pointer (some ⟨B, 0, none⟩), .pointer (some ⟨B, 0, none⟩), .pointer (some ⟨B, 0, none⟩), .agg CO, .int .u64 a, ud, ud, ud, ud, ud, ud, undef], defers := [] }) (obs := [.load 25 B 51 (.agg D), .load 50 B 0 (.agg CO)]) (n := 6) (by kernel_rfl) (by kernel_rfl) ⟨q6z 4 (fun W hS => hS.1) hwl (by rw [hz]; decide) underlying25 rfl (by kernel_rfl), q6z 51 (fun W hS => hS.1) (by rw [Nat.zero_add]; exact hCO) (by rw [hz]; decide) underlying50 rfl (by kernel_rfl), trivial⟩ ?_
 refine qjz (i := 9) (n := 5) rfl (by kernel_rfl) ?_
 refine qpz (f := 104) (vs := [.agg D, .agg CO, .int .u64 a]) (d := some 19) (by kernel_rfl) call104 (hld _ hS0.2) ?_
 rintro e w01 ⟨rfl, hb1⟩
 have hS01 : Blk w01 B F 59 ∧ Below w.heap.size w w01 := ⟨hS0.1.next hb1, hS0.2.trans (hb1.mono hS0.2.size)⟩
 refine ⟨_, rfl, hS01, ?_⟩
 refine qoz (by kernel_rfl) (fun _ _ _ _ _ h => h) hS01 [(10, none), (11, none), (12, none), (13, none), (14, none)] (l' := #[tt, tt, tt, tt, tt, tt, tt, tt, tt, tt, tt, tt, tt, tt, tt]) (a' := { tmps := #[.pointer (some ⟨B, 0, none⟩), .int .u64 a, .int .u64 why, ud, ud, undef, .int .u64 0, .int .u64 V, .bool true, .tuple #[.int .u64 V, .bool true], .pointer (some ⟨B, 0, none⟩), .pointer (some ⟨B, 0, none⟩), .pointer (some ⟨B, 51, none⟩), .agg D, .pointer (some ⟨B, 0, none⟩), .pointer (some ⟨B, 0, none⟩), .pointer (some ⟨B, 0, none⟩), .agg CO, .int .u64 a, .tuple #[.int .u64 V, .bool true], .int .u64 V, .bool true, ud, ud, ud, undef], defers := [] }) (obs := []) (n := 0) (by kernel_rfl) (by kernel_rfl) trivial ?_
 refine wpAnyH_done (by kernel_rfl) ?_ _
 go_wp2_with (go_at_call 79; (with_reducible refine (kez _ _).mono ?_); rintro e w9 ⟨rfl, rfl⟩)
 go_ret
 exact ⟨rfl, hS01.2⟩
theorem word_n {a why : Int} (h : Pz Z w B F x t ke ro ao n cap X) (hg : Gx X n x) (ha : 0 ≤ a ∧ a ≤ 18446744073709551615) (hE : wkE X x a ≠ 0) : Calls prog 74 #[.pointer (some ⟨B, 0, none⟩), .int .u64 a, .int .u64 why] w fun e w' => e = .panicked (thrF why) ∧ Below w.heap.size w w' := by
 have hmx : prog.follows .mixedOrders = true := by kernel_rfl
 have ga2 := isAgg22
 have hB := h.blk
 have hz := h.size
 have hBl := h.blk.lt
 have hp : F[24]? = some (.int .u64 x.th.pc) := h.pc
 have hk := Below.refl w.heap.size w
 have hwl := h.wld
 obtain ⟨CO, hCO⟩ : ∃ CO, F.extract 0 51 = CO := ⟨_, rfl⟩
 have zO : CO.size = 51 := by rw [← hCO]; simp [hz]
 obtain ⟨D, hD⟩ : ∃ D : Array Value, D = #[.int .i64 t, .int .u64 ke, .int .u64 ro, .slice ao n cap] := ⟨_, rfl⟩
 rw [← hD] at hwl
 have zD : D.size = 4 := by rw [hD]; rfl
 have hld := fun (W : World) (hk : Below w.heap.size w W) => load_v (t := t) (ke := ke) (ro := ro) ((h.next hk).mw hg) ha
 rw [decide_eq_false hE, ← hD, hCO] at hld
 generalize ldV X x a = V at hld
 clear hD hE
 go_enter func74, ntmps74
 go_wp2
 refine PgM.region_out (S := fun W => Blk W B F 59 ∧ Below w.heap.size w W) hmx (⟨hB.next (Below.refl _ _).drew, hk.trans ((Below.refl _ _).drew.mono hk.size)⟩) (fun hS0 => ?_)
 generalize w.drew = v0 at hS0 ⊢
 refine qoz (by kernel_rfl) (fun _ _ _ _ _ h => h) hS0 [(0, none), (1, none), (2, none), (3, some (.agg D)), (4, none), (5, none), (6, none), (7, some (.agg CO)), (8, none)] (l' := #[tt, tt, tt, tt, tt, tt, tt, tt, tt, ff, ff, ff, ff, ff, ff]) (a' := { tmps := #[.pointer (some ⟨B, 0, none⟩), .int .u64 a, .int .u64 why, ud, ud, undef, .int .u64 0, ud, ud, undef, .pointer (some ⟨B, 0, none⟩), .pointer (some ⟨B, 0, none⟩), .pointer (some ⟨B, 51, none⟩), .agg D, .pointer (some ⟨B, 0, none⟩), .pointer (some ⟨B, 0, none⟩), .pointer (some ⟨B, 0, none⟩), .agg CO, .int .u64 a, ud, ud, ud, ud, ud, ud, undef], defers := [] }) (obs := [.load 25 B 51 (.agg D), .load 50 B 0 (.agg CO)]) (n := 6) (by kernel_rfl) (by kernel_rfl) ⟨q6z 4 (fun W hS => hS.1) hwl (by rw [hz]; decide) underlying25 rfl (by kernel_rfl), q6z 51 (fun W hS => hS.1) (by rw [Nat.zero_add]; exact hCO) (by rw [hz]; decide) underlying50 rfl (by kernel_rfl), trivial⟩ ?_
 refine qjz (i := 9) (n := 5) rfl (by kernel_rfl) ?_
 refine qpz (f := 104) (vs := [.agg D, .agg CO, .int .u64 a]) (d := some 19) (by kernel_rfl) call104 (hld _ hS0.2) ?_
 rintro e w01 ⟨rfl, hb1⟩
 have hS01 : Blk w01 B F 59 ∧ Below w.heap.size w w01 := ⟨hS0.1.next hb1, hS0.2.trans (hb1.mono hS0.2.size)⟩
 refine ⟨_, rfl, hS01, ?_⟩
 refine qoz (by kernel_rfl) (fun _ _ _ _ _ h => h) hS01 [(10, none), (11, none), (12, none), (13, none), (14, none)] (l' := #[tt, tt, tt, tt, tt, tt, tt, tt, tt, tt, tt, tt, tt, tt, tt]) (a' := { tmps := #[.pointer (some ⟨B, 0, none⟩), .int .u64 a, .int .u64 why, ud, ud, undef, .int .u64 0, .int .u64 V, .bool false, .tuple #[.int .u64 V, .bool false], .pointer (some ⟨B, 0, none⟩), .pointer (some ⟨B, 0, none⟩), .pointer (some ⟨B, 51, none⟩), .agg D, .pointer (some ⟨B, 0, none⟩), .pointer (some ⟨B, 0, none⟩), .pointer (some ⟨B, 0, none⟩), .agg CO, .int .u64 a, .tuple #[.int .u64 V, .bool false], .int .u64 V, .bool false, ud, ud, ud, undef], defers := [] }) (obs := []) (n := 0) (by kernel_rfl) (by kernel_rfl) trivial ?_
 refine wpAnyH_done (by kernel_rfl) ?_ _
 go_wp2_with (go_at_call 79; (with_reducible refine (kfz _ _).mono ?_); rintro e w9 ⟨rfl, rfl⟩)
 exact ⟨rfl, rfl, hS01.2⟩
theorem Pz.setw {w' : World} {ao2 : Option Addr} {n2 cap2 : Nat} {X2 : List Ob} {D : Array Value} (h : Pz Z w B F x t ke ro ao n cap X) (hD : D = #[.int .i64 t, .int .u64 ke, .int .u64 ro, .slice ao2 n2 cap2]) (ho : ObsD (Ez Z B w) (Ez Z B w) w ao2 n2 cap2 X2) (hb : Blk w' B (F.extract 0 51 ++ D ++ F.extract (51 + D.size) F.size) 59) (q : Oth B w w') : Pz Z w' B (F.extract 0 51 ++ D ++ F.extract (51 + D.size) F.size) x t ke ro ao2 n2 cap2 X2 := by
 have hz := h.size
 have zD : D.size = 4 := by rw [hD]; rfl
 have g : ∀ b, Ez Z B w b → Ez Z B w' b := fun b hb => ⟨⟨by rw [q.size]; exact hb.1.1, hb.1.2⟩, hb.2⟩
 have hs : 51 + D.size ≤ F.size := by omega
 have e1 : (F.extract 0 51 ++ D ++ F.extract (51 + D.size) F.size).extract 0 51 = F.extract 0 51 := by
  apply Array.ext_getElem?
  intro i
  by_cases hi : i < 51
  ·rw [Array.getElem?_extract, if_pos (by rw [wuz hs, hz]; omega), Nat.zero_add, kcz hs (.inl hi), x4z hz hi]
  ·rw [Array.getElem?_eq_none (by rw [Array.size_extract, wuz hs, hz]; omega), Array.getElem?_eq_none (by simp [hz]; omega)]
 have e2 : (F.extract 0 51 ++ D ++ F.extract (51 + D.size) F.size).extract 51 (51 + 4) = D := by
  apply Array.ext_getElem?
  intro i
  by_cases hi : i < 4
  ·rw [Array.getElem?_extract, if_pos (by rw [wuz hs, hz]; omega)]
   cases e : D[i]? with
   | none => exact absurd (Array.getElem?_eq_none_iff.1 e) (by omega)
   | some v => exact joz hs e
  ·rw [Array.getElem?_eq_none (by rw [Array.size_extract, wuz hs, hz]; omega), Array.getElem?_eq_none (by omega)]
 refine ⟨hb, by rw [wuz hs]; exact hz, wyz fun j v e => ?_, by rw [e1]; exact (h.ob.laterK fun b hb => q.block b hb.1.2).wide g, by rw [e2]; exact hD, (ho.laterK (fun b hb => q.block b hb.1.2) fun b hb => q.block b hb.1.2).wide g g, fun b hb => by rw [q.size]; exact h.zlt b hb⟩
 by_cases hj : j < 51
 ·rw [kcz hs (.inl hj)] at e; exact q2z h.one e
 ·by_cases hj2 : j < 55
  ·obtain ⟨m, rfl⟩ : ∃ m, j = 51 + m := ⟨j - 51, by omega⟩
   have : D[m]? = some v := by
    cases e' : D[m]? with
    | none => exact absurd (Array.getElem?_eq_none_iff.1 e') (by omega)
    | some u => rw [joz hs e'] at e; exact e
   exact q2z (T := D) (by rw [hD]; kernel_rfl) this
  ·rw [Array.getElem?_eq_none (by rw [wuz hs]; omega)] at e; cases e
theorem y9z {a v : Int} (h : Pz Z w B F x t ke ro ao n cap X) (hg : Gx X n x) (ha : 0 ≤ a ∧ a ≤ 18446744073709551615) (hE : stB X x a = true) : Calls prog 75 #[.pointer (some ⟨B, 0, none⟩), .int .u64 a, .int .u64 v] w fun e w' => e = .returned (.tuple #[]) ∧ ∃ F' ao2 n2 cap2, Pz Z w' B F' { x with th := { x.th with pc := nxI x.th } } t ke ro ao2 n2 cap2 (stX X x a v) ∧ Ot B w w' := by
 have hmx : prog.follows .mixedOrders = true := by kernel_rfl
 have ga2 := isAgg22
 have hB := h.blk
 have hz := h.size
 have hBl := h.blk.lt
 have hp : F[24]? = some (.int .u64 x.th.pc) := h.pc
 have hk := Below.refl w.heap.size w
 have hwl := h.wld
 obtain ⟨CO, hCO⟩ : ∃ CO, F.extract 0 51 = CO := ⟨_, rfl⟩
 have zO : CO.size = 51 := by rw [← hCO]; simp [hz]
 obtain ⟨D, hD⟩ : ∃ D : Array Value, D = #[.int .i64 t, .int .u64 ke, .int .u64 ro, .slice ao n cap] := ⟨_, rfl⟩
 rw [← hD] at hwl
 have zD : D.size = 4 := by rw [hD]; rfl
 have hst := fun (W : World) (hk : Below w.heap.size w W) => uaz (t := t) (ke := ke) (ro := ro) (v := v) ((h.next hk).mw hg) ha hg.len (D0 := Ez Z B w) (fun b hb => Nat.lt_of_lt_of_le hb.1.1 hk.size) ((h.obs.laterK (fun b hb => hk.block b hb.1.1) fun b hb => hk.block b hb.1.1).wide (fun _ hb => hb) fun b hb => Nat.lt_of_lt_of_le hb.1.1 hk.size) hg.ids
 rw [hE, ← hD, hCO] at hst
 generalize stX X x a v = X2 at hst ⊢
 replace hD : Hid _ := hD
 clear hE
 go_enter func75, ntmps75
 go_wp2
 refine PgM.region_out (S := fun W => Blk W B F 59 ∧ Below w.heap.size w W) hmx (⟨hB.next (Below.refl _ _).drew, hk.trans ((Below.refl _ _).drew.mono hk.size)⟩) (fun hS0 => ?_)
 generalize w.drew = v0 at hS0 ⊢
 refine qoz (by kernel_rfl) (fun _ _ _ _ _ h => h) hS0 [(0, none), (1, none), (2, none), (3, some (.agg D)), (4, none), (5, none), (6, none), (7, some (.agg CO)), (8, none), (9, none)] (l' := #[tt, tt, tt, tt, tt, tt, tt, tt, tt, tt, ff, ff, ff, ff, ff, ff, ff]) (a' := { tmps := #[.pointer (some ⟨B, 0, none⟩), .int .u64 a, .int .u64 v, ud, ud, ud, ud, ud, undef, .pointer (some ⟨B, 0, none⟩), .pointer (some ⟨B, 0, none⟩), .pointer (some ⟨B, 51, none⟩), .agg D, .pointer (some ⟨B, 0, none⟩), .pointer (some ⟨B, 0, none⟩), .pointer (some ⟨B, 0, none⟩), .agg CO, .int .u64 a, .int .u64 v, ud, ud, ud, ud, ud, ud, ud, ud, ud, ud, undef], defers := [] }) (obs := [.load 25 B 51 (.agg D), .load 50 B 0 (.agg CO)]) (n := 7) (by kernel_rfl) (by kernel_rfl) ⟨q6z 4 (fun W hS => hS.1) hwl (by rw [hz]; decide) underlying25 rfl (by kernel_rfl), q6z 51 (fun W hS => hS.1) (by rw [Nat.zero_add]; exact hCO) (by rw [hz]; decide) underlying50 rfl (by kernel_rfl), trivial⟩ ?_
 refine vqz 2 #[true, true, true, true, true, true, true, true, true, true, true, true, true, true, true, false, false] (fun A W => ∃ (P6 : Nat) (ao2 : Option Addr) (n2 cap2 : Nat), A = { tmps := #[.pointer (some ⟨B, 0, none⟩), .int .u64 a, .int .u64 v, ud, ud, undef, .pointer (some ⟨P6, 0, none⟩), undef, .tuple #[.agg #[.int .i64 t, .int .u64 ke, .int .u64 ro, .slice ao2 n2 cap2], .bool true], .pointer (some ⟨B, 0, none⟩), .pointer (some ⟨B, 0, none⟩), .pointer (some ⟨B, 51, none⟩), .agg D, .pointer (some ⟨B, 0, none⟩), .pointer (some ⟨B, 0, none⟩), .pointer (some ⟨B, 0, none⟩), .agg CO, .int .u64 a, .int .u64 v, .tuple #[.agg #[.int .i64 t, .int .u64 ke, .int .u64 ro, .slice ao2 n2 cap2], .bool true], .agg #[.int .i64 t, .int .u64 ke, .int .u64 ro, .slice ao2 n2 cap2], .bool true, ud, ud, ud, ud, ud, ud, ud, undef], defers := [] } ∧ (Blk W B F 59 ∧ Below w.heap.size w W) ∧ Blk W P6 zW 25 ∧ w.heap.size ≤ P6 ∧ ObsD (fun b => Ez Z B W b ∧ b ≠ P6) (fun b => Ez Z B W b ∧ b ≠ P6) W ao2 n2 cap2 X2) ?_ (fun rest => ?_)
 rotate_left
 ·refine qYz (i := 10) (j := 14) (n := 6) rfl (by kernel_rfl) ?_ ?_
  ·refine qpz (f := 105) (vs := [.agg D, .agg CO, .int .u64 a, .int .u64 v]) (d := some 19) (by kernel_rfl) call105 (hst _ hS0.2) ?_
   rintro e z1 ⟨ao2, n2, cap2, rfl, ob2, hb2⟩
   have hs2 : Blk z1 B F 59 ∧ Below w.heap.size w z1 := ⟨hS0.1.next hb2, hS0.2.trans (hb2.mono hS0.2.size)⟩
   refine ⟨_, rfl, hs2, ?_⟩
   refine qVz (by kernel_rfl) (fun _ _ _ _ _ h => h) hs2 [11, 12, 13] (l' := #[tt, tt, tt, tt, tt, tt, tt, tt, tt, tt, tt, tt, tt, tt, ff, ff, ff]) (a' := { tmps := #[.pointer (some ⟨B, 0, none⟩), .int .u64 a, .int .u64 v, ud, ud, ud, ud, undef, .tuple #[.agg #[.int .i64 t, .int .u64 ke, .int .u64 ro, .slice ao2 n2 cap2], .bool true], .pointer (some ⟨B, 0, none⟩), .pointer (some ⟨B, 0, none⟩), .pointer (some ⟨B, 51, none⟩), .agg D, .pointer (some ⟨B, 0, none⟩), .pointer (some ⟨B, 0, none⟩), .pointer (some ⟨B, 0, none⟩), .agg CO, .int .u64 a, .int .u64 v, .tuple #[.agg #[.int .i64 t, .int .u64 ke, .int .u64 ro, .slice ao2 n2 cap2], .bool true], .agg #[.int .i64 t, .int .u64 ke, .int .u64 ro, .slice ao2 n2 cap2], .bool true, ud, ud, ud, ud, ud, ud, ud, undef], defers := [] }) (n := 3) (by kernel_rfl) (by kernel_rfl) ?_
   refine qjz (i := 14) (n := 2) rfl (by kernel_rfl) ?_
   refine q7z (ty := 25) (z := zW) (d := some 6) (by kernel_rfl) wzz ?_
   intro P6 z2 hN6 hP6 hb6
   have hs6 : Blk z2 B F 59 ∧ Below w.heap.size w z2 := ⟨hs2.1.next hb6, hs2.2.trans (hb6.mono hs2.2.size)⟩
   refine ⟨hs6, ?_⟩
   have h6 : w.heap.size ≤ P6 := by have := hN6.out; have := hs2.2.size; omega
   refine rest _ _ ⟨P6, ao2, n2, cap2, rfl, hs6, hP6, h6, ?_⟩
   refine (ob2.laterK (fun b hb => hb6.block b (by rcases hb with hb | hb; (have h1 := hb.1.1; have := hs2.2.size; omega); exact hb.2)) (fun b hb => hb6.block b hb.2)).wide (fun b hb => ?_) (fun b hb => ?_)
   ·rcases hb with hb | hb
    ·have h1 := hb.1.1; have h2 := hs6.2.size; exact ⟨⟨⟨by omega, hb.1.2⟩, hb.2⟩, by omega⟩
    ·have h1 := hb.1; have h2 := hb.2; have h3 := hb6.size; have h4 := hN6.out; have h5 := hS0.2.size; exact ⟨⟨⟨by omega, by omega⟩, fun q => by have := h.zlt b q; omega⟩, by omega⟩
   ·have h1 := hb.1; have h2 := hb.2; have h3 := hb6.size; have h4 := hN6.out; have h5 := hS0.2.size; exact ⟨⟨⟨by omega, by omega⟩, fun q => by have := h.zlt b q; omega⟩, by omega⟩
  ·refine q7z (ty := 25) (z := zW) (d := some 6) (by kernel_rfl) wzz ?_
   intro P6 z1 hN6 hP6 hb6
   have hs6 : Blk z1 B F 59 ∧ Below w.heap.size w z1 := ⟨hS0.1.next hb6, hS0.2.trans (hb6.mono hS0.2.size)⟩
   refine ⟨hs6, ?_⟩
   refine qjz (i := 10) (n := 5) rfl (by kernel_rfl) ?_
   refine qpz (f := 105) (vs := [.agg D, .agg CO, .int .u64 a, .int .u64 v]) (d := some 19) (by kernel_rfl) call105 (hst _ hs6.2) ?_
   rintro e z2 ⟨ao2, n2, cap2, rfl, ob2, hb2⟩
   have hs2 : Blk z2 B F 59 ∧ Below w.heap.size w z2 := ⟨hs6.1.next hb2, hs6.2.trans (hb2.mono hs6.2.size)⟩
   have hP2 := hP6.next hb2
   refine ⟨_, rfl, hs2, ?_⟩
   refine qVz (by kernel_rfl) (fun _ _ _ _ _ h => h) hs2 [11, 12, 13] (l' := #[tt, tt, tt, tt, tt, tt, tt, tt, tt, tt, tt, tt, tt, tt, tt, ff, ff]) (a' := { tmps := #[.pointer (some ⟨B, 0, none⟩), .int .u64 a, .int .u64 v, ud, ud, undef, .pointer (some ⟨P6, 0, none⟩), undef, .tuple #[.agg #[.int .i64 t, .int .u64 ke, .int .u64 ro, .slice ao2 n2 cap2], .bool true], .pointer (some ⟨B, 0, none⟩), .pointer (some ⟨B, 0, none⟩), .pointer (some ⟨B, 51, none⟩), .agg D, .pointer (some ⟨B, 0, none⟩), .pointer (some ⟨B, 0, none⟩), .pointer (some ⟨B, 0, none⟩), .agg CO, .int .u64 a, .int .u64 v, .tuple #[.agg #[.int .i64 t, .int .u64 ke, .int .u64 ro, .slice ao2 n2 cap2], .bool true], .agg #[.int .i64 t, .int .u64 ke, .int .u64 ro, .slice ao2 n2 cap2], .bool true, ud, ud, ud, ud, ud, ud, ud, undef], defers := [] }) (n := 2) (by kernel_rfl) (by kernel_rfl) ?_
   have h6 : w.heap.size ≤ P6 := by have := hN6.out; have := hS0.2.size; omega
   refine rest _ _ ⟨P6, ao2, n2, cap2, rfl, hs2, hP2, h6, ?_⟩
   refine ob2.wide (fun b hb => ?_) (fun b hb => ?_)
   ·rcases hb with hb | hb
    ·have h1 := hb.1.1; have h2 := hs2.2.size; exact ⟨⟨⟨by omega, hb.1.2⟩, hb.2⟩, by omega⟩
    ·have h1 := hb.1; have h2 := hb.2; have h4 := hN6.out; have h5 := hS0.2.size; exact ⟨⟨⟨by omega, by omega⟩, fun q => by have := h.zlt b q; omega⟩, by omega⟩
   ·have h1 := hb.1; have h2 := hb.2; have h4 := hN6.out; have h5 := hS0.2.size; exact ⟨⟨⟨by omega, by omega⟩, fun q => by have := h.zlt b q; omega⟩, by omega⟩
 ·rintro A W ⟨P6, ao2, n2, cap2, rfl, hs6, hP6, h6, ob6⟩
  obtain ⟨W9, hr9, hP9, q9⟩ := wdz (C := #[.int .i64 t, .int .u64 ke, .int .u64 ro, .slice ao2 n2 cap2]) hP6 (by kernel_rfl) rfl (by kernel_rfl)
  refine qjz (i := 15) (n := 1) rfl (by kernel_rfl) ?_
  refine qAz (ty := 25) (B := P6) (off := 0) (v := .agg #[.int .i64 t, .int .u64 ke, .int .u64 ro, .slice ao2 n2 cap2]) (d := none) (by kernel_rfl) hr9 ?_
  have hs9 : Blk W9 B F 59 ∧ Below w.heap.size w W9 := ⟨hs6.1.other q9 (by omega), q9.below _ _ h6 hs6.2⟩
  refine ⟨hs9, ?_⟩
  refine qoz (by kernel_rfl) (fun _ _ _ _ _ h => h) hs9 [(16, none)] (l' := #[tt, tt, tt, tt, tt, tt, tt, tt, tt, tt, tt, tt, tt, tt, tt, tt, tt]) (a' := { tmps := #[.pointer (some ⟨B, 0, none⟩), .int .u64 a, .int .u64 v, ud, ud, undef, .pointer (some ⟨P6, 0, none⟩), .bool true, .tuple #[.agg #[.int .i64 t, .int .u64 ke, .int .u64 ro, .slice ao2 n2 cap2], .bool true], .pointer (some ⟨B, 0, none⟩), .pointer (some ⟨B, 0, none⟩), .pointer (some ⟨B, 51, none⟩), .agg D, .pointer (some ⟨B, 0, none⟩), .pointer (some ⟨B, 0, none⟩), .pointer (some ⟨B, 0, none⟩), .agg CO, .int .u64 a, .int .u64 v, .tuple #[.agg #[.int .i64 t, .int .u64 ke, .int .u64 ro, .slice ao2 n2 cap2], .bool true], .agg #[.int .i64 t, .int .u64 ke, .int .u64 ro, .slice ao2 n2 cap2], .bool true, ud, ud, ud, ud, ud, ud, ud, undef], defers := [] }) (obs := []) (n := 0) (by kernel_rfl) (by kernel_rfl) trivial ?_
  refine wpAnyH_done (by kernel_rfl) ?_ _
  have hz2 : (prog.info? 25).map (·.size) = some (#[.int .i64 t, .int .u64 ke, .int .u64 ro, .slice ao2 n2 cap2] : Array Value).size := by kernel_rfl
  have hn2 : (#[.int .i64 t, .int .u64 ke, .int .u64 ro, .slice ao2 n2 cap2] : Array Value).all (·.oneCell') = true := by kernel_rfl
  have hs4 : 51 + (#[.int .i64 t, .int .u64 ke, .int .u64 ro, .slice ao2 n2 cap2] : Array Value).size ≤ F.size := by rw [hz]; exact Nat.le_refl 55
  have hP := h.next hs9.2
  have ob9 : ObsD (Ez Z B W9) (Ez Z B W9) W9 ao2 n2 cap2 X2 := (ob6.laterK (fun b hb => q9.block b hb.2) fun b hb => q9.block b hb.2).wide (fun b hb => ⟨⟨by rw [q9.size]; exact hb.1.1.1, hb.1.1.2⟩, hb.1.2⟩) (fun b hb => ⟨⟨by rw [q9.size]; exact hb.1.1.1, hb.1.1.2⟩, hb.1.2⟩)
  go_wp2_with (first
   | go_skip
   | (go_at_call 79; (with_reducible refine (kez _ _).mono ?_); rintro e w9 ⟨rfl, rfl⟩)
   | (with_reducible refine qfz rfl _ _ rfl P6 rfl _ hP9 _ underlying25 rfl hz2 ?_)
   | ((with_reducible refine wcz rfl 25 _ _ rfl B 51 rfl #[.int .i64 t, .int .u64 ke, .int .u64 ro, .slice ao2 n2 cap2] rfl F _ hs9.1 hz2 hs4 hn2 ?_); intro W10 hb10 o10; have hP10 := hP.setw rfl ob9 hb10 o10)
   | (go_at_call 103; (with_reducible refine (uPz hP10).mono ?_); rintro e w11 ⟨rfl, F11, hP11, q11⟩))
  go_end0
  exact ⟨rfl, F11, ao2, n2, cap2, hP11, (Ot.of hs9.2 hBl).trans ((Ot.set o10).trans q11)⟩
theorem store_no {a v : Int} (h : Pz Z w B F x t ke ro ao n cap X) (hg : Gx X n x) (ha : 0 ≤ a ∧ a ≤ 18446744073709551615) (hE : stB X x a = false) : Calls prog 75 #[.pointer (some ⟨B, 0, none⟩), .int .u64 a, .int .u64 v] w fun e w' => e = .panicked (thrF 4) ∧ Below w.heap.size w w' := by
 have hmx : prog.follows .mixedOrders = true := by kernel_rfl
 have ga2 := isAgg22
 have hB := h.blk
 have hz := h.size
 have hBl := h.blk.lt
 have hp : F[24]? = some (.int .u64 x.th.pc) := h.pc
 have hk := Below.refl w.heap.size w
 have hwl := h.wld
 obtain ⟨CO, hCO⟩ : ∃ CO, F.extract 0 51 = CO := ⟨_, rfl⟩
 have zO : CO.size = 51 := by rw [← hCO]; simp [hz]
 obtain ⟨D, hD⟩ : ∃ D : Array Value, D = #[.int .i64 t, .int .u64 ke, .int .u64 ro, .slice ao n cap] := ⟨_, rfl⟩
 rw [← hD] at hwl
 have zD : D.size = 4 := by rw [hD]; rfl
 have hst := fun (W : World) (hk : Below w.heap.size w W) => uaz (t := t) (ke := ke) (ro := ro) (v := v) ((h.next hk).mw hg) ha hg.len (D0 := Ez Z B w) (fun b hb => Nat.lt_of_lt_of_le hb.1.1 hk.size) ((h.obs.laterK (fun b hb => hk.block b hb.1.1) fun b hb => hk.block b hb.1.1).wide (fun _ hb => hb) fun b hb => Nat.lt_of_lt_of_le hb.1.1 hk.size) hg.ids
 rw [hE, ← hD, hCO] at hst
 generalize stX X x a v = X2 at hst
 replace hD : Hid _ := hD
 clear hE
 go_enter func75, ntmps75
 go_wp2
 refine PgM.region_out (S := fun W => Blk W B F 59 ∧ Below w.heap.size w W) hmx (⟨hB.next (Below.refl _ _).drew, hk.trans ((Below.refl _ _).drew.mono hk.size)⟩) (fun hS0 => ?_)
 generalize w.drew = v0 at hS0 ⊢
 refine qoz (by kernel_rfl) (fun _ _ _ _ _ h => h) hS0 [(0, none), (1, none), (2, none), (3, some (.agg D)), (4, none), (5, none), (6, none), (7, some (.agg CO)), (8, none), (9, none)] (l' := #[tt, tt, tt, tt, tt, tt, tt, tt, tt, tt, ff, ff, ff, ff, ff, ff, ff]) (a' := { tmps := #[.pointer (some ⟨B, 0, none⟩), .int .u64 a, .int .u64 v, ud, ud, ud, ud, ud, undef, .pointer (some ⟨B, 0, none⟩), .pointer (some ⟨B, 0, none⟩), .pointer (some ⟨B, 51, none⟩), .agg D, .pointer (some ⟨B, 0, none⟩), .pointer (some ⟨B, 0, none⟩), .pointer (some ⟨B, 0, none⟩), .agg CO, .int .u64 a, .int .u64 v, ud, ud, ud, ud, ud, ud, ud, ud, ud, ud, undef], defers := [] }) (obs := [.load 25 B 51 (.agg D), .load 50 B 0 (.agg CO)]) (n := 7) (by kernel_rfl) (by kernel_rfl) ⟨q6z 4 (fun W hS => hS.1) hwl (by rw [hz]; decide) underlying25 rfl (by kernel_rfl), q6z 51 (fun W hS => hS.1) (by rw [Nat.zero_add]; exact hCO) (by rw [hz]; decide) underlying50 rfl (by kernel_rfl), trivial⟩ ?_
 refine vqz 2 #[true, true, true, true, true, true, true, true, true, true, true, true, true, true, true, false, false] (fun A W => ∃ (P6 : Nat) (ao2 : Option Addr) (n2 cap2 : Nat), A = { tmps := #[.pointer (some ⟨B, 0, none⟩), .int .u64 a, .int .u64 v, ud, ud, undef, .pointer (some ⟨P6, 0, none⟩), undef, .tuple #[.agg #[.int .i64 t, .int .u64 ke, .int .u64 ro, .slice ao2 n2 cap2], .bool false], .pointer (some ⟨B, 0, none⟩), .pointer (some ⟨B, 0, none⟩), .pointer (some ⟨B, 51, none⟩), .agg D, .pointer (some ⟨B, 0, none⟩), .pointer (some ⟨B, 0, none⟩), .pointer (some ⟨B, 0, none⟩), .agg CO, .int .u64 a, .int .u64 v, .tuple #[.agg #[.int .i64 t, .int .u64 ke, .int .u64 ro, .slice ao2 n2 cap2], .bool false], .agg #[.int .i64 t, .int .u64 ke, .int .u64 ro, .slice ao2 n2 cap2], .bool false, ud, ud, ud, ud, ud, ud, ud, undef], defers := [] } ∧ (Blk W B F 59 ∧ Below w.heap.size w W) ∧ Blk W P6 zW 25 ∧ w.heap.size ≤ P6 ∧ ObsD (fun b => Ez Z B W b ∧ b ≠ P6) (fun b => Ez Z B W b ∧ b ≠ P6) W ao2 n2 cap2 X2) ?_ (fun rest => ?_)
 rotate_left
 ·refine qYz (i := 10) (j := 14) (n := 6) rfl (by kernel_rfl) ?_ ?_
  ·refine qpz (f := 105) (vs := [.agg D, .agg CO, .int .u64 a, .int .u64 v]) (d := some 19) (by kernel_rfl) call105 (hst _ hS0.2) ?_
   rintro e z1 ⟨ao2, n2, cap2, rfl, ob2, hb2⟩
   have hs2 : Blk z1 B F 59 ∧ Below w.heap.size w z1 := ⟨hS0.1.next hb2, hS0.2.trans (hb2.mono hS0.2.size)⟩
   refine ⟨_, rfl, hs2, ?_⟩
   refine qVz (by kernel_rfl) (fun _ _ _ _ _ h => h) hs2 [11, 12, 13] (l' := #[tt, tt, tt, tt, tt, tt, tt, tt, tt, tt, tt, tt, tt, tt, ff, ff, ff]) (a' := { tmps := #[.pointer (some ⟨B, 0, none⟩), .int .u64 a, .int .u64 v, ud, ud, ud, ud, undef, .tuple #[.agg #[.int .i64 t, .int .u64 ke, .int .u64 ro, .slice ao2 n2 cap2], .bool false], .pointer (some ⟨B, 0, none⟩), .pointer (some ⟨B, 0, none⟩), .pointer (some ⟨B, 51, none⟩), .agg D, .pointer (some ⟨B, 0, none⟩), .pointer (some ⟨B, 0, none⟩), .pointer (some ⟨B, 0, none⟩), .agg CO, .int .u64 a, .int .u64 v, .tuple #[.agg #[.int .i64 t, .int .u64 ke, .int .u64 ro, .slice ao2 n2 cap2], .bool false], .agg #[.int .i64 t, .int .u64 ke, .int .u64 ro, .slice ao2 n2 cap2], .bool false, ud, ud, ud, ud, ud, ud, ud, undef], defers := [] }) (n := 3) (by kernel_rfl) (by kernel_rfl) ?_
   refine qjz (i := 14) (n := 2) rfl (by kernel_rfl) ?_
   refine q7z (ty := 25) (z := zW) (d := some 6) (by kernel_rfl) wzz ?_
   intro P6 z2 hN6 hP6 hb6
   have hs6 : Blk z2 B F 59 ∧ Below w.heap.size w z2 := ⟨hs2.1.next hb6, hs2.2.trans (hb6.mono hs2.2.size)⟩
   refine ⟨hs6, ?_⟩
   have h6 : w.heap.size ≤ P6 := by have := hN6.out; have := hs2.2.size; omega
   refine rest _ _ ⟨P6, ao2, n2, cap2, rfl, hs6, hP6, h6, ?_⟩
   refine (ob2.laterK (fun b hb => hb6.block b (by rcases hb with hb | hb; (have h1 := hb.1.1; have := hs2.2.size; omega); exact hb.2)) (fun b hb => hb6.block b hb.2)).wide (fun b hb => ?_) (fun b hb => ?_)
   ·rcases hb with hb | hb
    ·have h1 := hb.1.1; have h2 := hs6.2.size; exact ⟨⟨⟨by omega, hb.1.2⟩, hb.2⟩, by omega⟩
    ·have h1 := hb.1; have h2 := hb.2; have h3 := hb6.size; have h4 := hN6.out; have h5 := hS0.2.size; exact ⟨⟨⟨by omega, by omega⟩, fun q => by have := h.zlt b q; omega⟩, by omega⟩
   ·have h1 := hb.1; have h2 := hb.2; have h3 := hb6.size; have h4 := hN6.out; have h5 := hS0.2.size; exact ⟨⟨⟨by omega, by omega⟩, fun q => by have := h.zlt b q; omega⟩, by omega⟩
  ·refine q7z (ty := 25) (z := zW) (d := some 6) (by kernel_rfl) wzz ?_
   intro P6 z1 hN6 hP6 hb6
   have hs6 : Blk z1 B F 59 ∧ Below w.heap.size w z1 := ⟨hS0.1.next hb6, hS0.2.trans (hb6.mono hS0.2.size)⟩
   refine ⟨hs6, ?_⟩
   refine qjz (i := 10) (n := 5) rfl (by kernel_rfl) ?_
   refine qpz (f := 105) (vs := [.agg D, .agg CO, .int .u64 a, .int .u64 v]) (d := some 19) (by kernel_rfl) call105 (hst _ hs6.2) ?_
   rintro e z2 ⟨ao2, n2, cap2, rfl, ob2, hb2⟩
   have hs2 : Blk z2 B F 59 ∧ Below w.heap.size w z2 := ⟨hs6.1.next hb2, hs6.2.trans (hb2.mono hs6.2.size)⟩
   have hP2 := hP6.next hb2
   refine ⟨_, rfl, hs2, ?_⟩
   refine qVz (by kernel_rfl) (fun _ _ _ _ _ h => h) hs2 [11, 12, 13] (l' := #[tt, tt, tt, tt, tt, tt, tt, tt, tt, tt, tt, tt, tt, tt, tt, ff, ff]) (a' := { tmps := #[.pointer (some ⟨B, 0, none⟩), .int .u64 a, .int .u64 v, ud, ud, undef, .pointer (some ⟨P6, 0, none⟩), undef, .tuple #[.agg #[.int .i64 t, .int .u64 ke, .int .u64 ro, .slice ao2 n2 cap2], .bool false], .pointer (some ⟨B, 0, none⟩), .pointer (some ⟨B, 0, none⟩), .pointer (some ⟨B, 51, none⟩), .agg D, .pointer (some ⟨B, 0, none⟩), .pointer (some ⟨B, 0, none⟩), .pointer (some ⟨B, 0, none⟩), .agg CO, .int .u64 a, .int .u64 v, .tuple #[.agg #[.int .i64 t, .int .u64 ke, .int .u64 ro, .slice ao2 n2 cap2], .bool false], .agg #[.int .i64 t, .int .u64 ke, .int .u64 ro, .slice ao2 n2 cap2], .bool false, ud, ud, ud, ud, ud, ud, ud, undef], defers := [] }) (n := 2) (by kernel_rfl) (by kernel_rfl) ?_
   have h6 : w.heap.size ≤ P6 := by have := hN6.out; have := hS0.2.size; omega
   refine rest _ _ ⟨P6, ao2, n2, cap2, rfl, hs2, hP2, h6, ?_⟩
   refine ob2.wide (fun b hb => ?_) (fun b hb => ?_)
   ·rcases hb with hb | hb
    ·have h1 := hb.1.1; have h2 := hs2.2.size; exact ⟨⟨⟨by omega, hb.1.2⟩, hb.2⟩, by omega⟩
    ·have h1 := hb.1; have h2 := hb.2; have h4 := hN6.out; have h5 := hS0.2.size; exact ⟨⟨⟨by omega, by omega⟩, fun q => by have := h.zlt b q; omega⟩, by omega⟩
   ·have h1 := hb.1; have h2 := hb.2; have h4 := hN6.out; have h5 := hS0.2.size; exact ⟨⟨⟨by omega, by omega⟩, fun q => by have := h.zlt b q; omega⟩, by omega⟩
 ·rintro A W ⟨P6, ao2, n2, cap2, rfl, hs6, hP6, h6, ob6⟩
  obtain ⟨W9, hr9, hP9, q9⟩ := wdz (C := #[.int .i64 t, .int .u64 ke, .int .u64 ro, .slice ao2 n2 cap2]) hP6 (by kernel_rfl) rfl (by kernel_rfl)
  refine qjz (i := 15) (n := 1) rfl (by kernel_rfl) ?_
  refine qAz (ty := 25) (B := P6) (off := 0) (v := .agg #[.int .i64 t, .int .u64 ke, .int .u64 ro, .slice ao2 n2 cap2]) (d := none) (by kernel_rfl) hr9 ?_
  have hs9 : Blk W9 B F 59 ∧ Below w.heap.size w W9 := ⟨hs6.1.other q9 (by omega), q9.below _ _ h6 hs6.2⟩
  refine ⟨hs9, ?_⟩
  refine qoz (by kernel_rfl) (fun _ _ _ _ _ h => h) hs9 [(16, none)] (l' := #[tt, tt, tt, tt, tt, tt, tt, tt, tt, tt, tt, tt, tt, tt, tt, tt, tt]) (a' := { tmps := #[.pointer (some ⟨B, 0, none⟩), .int .u64 a, .int .u64 v, ud, ud, undef, .pointer (some ⟨P6, 0, none⟩), .bool false, .tuple #[.agg #[.int .i64 t, .int .u64 ke, .int .u64 ro, .slice ao2 n2 cap2], .bool false], .pointer (some ⟨B, 0, none⟩), .pointer (some ⟨B, 0, none⟩), .pointer (some ⟨B, 51, none⟩), .agg D, .pointer (some ⟨B, 0, none⟩), .pointer (some ⟨B, 0, none⟩), .pointer (some ⟨B, 0, none⟩), .agg CO, .int .u64 a, .int .u64 v, .tuple #[.agg #[.int .i64 t, .int .u64 ke, .int .u64 ro, .slice ao2 n2 cap2], .bool false], .agg #[.int .i64 t, .int .u64 ke, .int .u64 ro, .slice ao2 n2 cap2], .bool false, ud, ud, ud, ud, ud, ud, ud, undef], defers := [] }) (obs := []) (n := 0) (by kernel_rfl) (by kernel_rfl) trivial ?_
  refine wpAnyH_done (by kernel_rfl) ?_ _
  go_wp2_with (go_at_call 79; (with_reducible refine (kfz _ _).mono ?_); rintro e w9 ⟨rfl, rfl⟩)
  exact ⟨rfl, rfl, hs9.2⟩
theorem conv_32 {i : Int} (h0 : 0 ≤ i) (h1 : i < 2147483648) (w : World) : (convert 21 3 (.int .i32 i)).run prog w = Result.ok (.int .i64 i) w := by
 have hw : IntKind.i64.wrap i = i := by rw [IntKind.wrap_i64]; omega
 simp [go_sem, convert, run_underlying underlying21, run_underlying underlying3, hw]
theorem trap_y {i : Int} (h : Pz Z w B F x t ke ro ao n cap X) (h0 : 0 ≤ i) (h1 : i < 2147483648) : Calls prog 76 #[.pointer (some ⟨B, 0, none⟩), .int .i32 i] w fun e w' => e = .returned (.int .i64 i) ∧ ∃ F', Pz Z w' B F' { x with th := { x.th with pc := nxI x.th } } t ke ro ao n cap X ∧ Ot B w w' := by
 have hc := conv_32 h0 h1
 go_enter func76, ntmps76
 go_wp2_with (first
  | (go_at_call 79; (try rw [decide_eq_true h0]); (with_reducible refine (kez _ _).mono ?_); rintro e w9 ⟨rfl, rfl⟩)
  | (go_at_call 103; (with_reducible refine (uPz h).mono ?_); rintro e w1 ⟨rfl, F1, hP1, hq⟩)
  | (with_reducible refine viz (by kernel_rfl) _ _ _ rfl _ rfl (hc _) ?_))
 go_ret
 exact ⟨rfl, F1, hP1, hq⟩
theorem trap_n {i : Int} (h0 : i < 0) : Calls prog 76 #[.pointer (some ⟨B, 0, none⟩), .int .i32 i] w fun e w' => e = .panicked (thrF 2) ∧ w = w' := by
 go_enter func76, ntmps76
 go_wp2_with (go_at_call 79; (try rw [decide_eq_false (show ¬ (0 ≤ i) by omega)]); (with_reducible refine (kfz _ _).mono ?_); rintro e w9 ⟨rfl, rfl⟩)
 exact ⟨rfl, rfl, rfl⟩
end
end Go.Proofs.YtdeddhojjolihaaGreat
