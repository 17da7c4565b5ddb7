/-
 PROVED HERE: what kobj's makeThread returns or throws when it is called (a contract over this translation); plain facts on . What is asked stands at each.
-/
import Derived.Test.YtloghnpfplljgaaGreatZ6
import Derived.Test.YtloghnpfplljgaaGreatZ16
import Derived.Test.YtloghnpfplljgaaGreatZ17
import Derived.Test.YtloghnpfplljgaaGreatZ19
namespace Go.Proofs.YtloghnpfplljgaaGreat
set_option maxRecDepth 100000
set_option maxHeartbeats 8000000
set_option linter.unusedVariables false
open Go.Proofs.Tryz
section
open Go.RowKit Go.Shelf
attribute [local go_sem] Oper.semAt_some
def thT (vM pc c i : Value) : Array Value := #[.int .u64 0, .int .u64 0, .int .u64 0, .int .u64 0, .int .u64 0, .int .u64 0, .int .u64 0, .int .u64 0, .int .u64 0, .int .u64 0, .int .u64 0, .int .u64 0, .int .u64 0, .int .u64 0, .int .u64 0, .int .u64 0, pc, vM, c, i, .int .u64 0, .int .u64 0, .int .i64 0, .int .u64 0, .int .u64 0, .int .u64 0, .int .u64 0, .bool false, .slice none 0 0, .int .u64 0, .int .u64 0, .slice none 0 0, .slice none 0 0, .slice none 0 0, .slice none 0 0]
def thC (vL vM pc r c i lo hi : Value) : Array Value := #[.int .u64 0, .int .i64 4, vL, .int .i64 1, .bool false, .slice none 0 0, .slice none 0 0, .slice none 0 0, .int .u64 0, r, .int .u64 0, .int .u64 0, .int .u64 0, .int .u64 0, .int .u64 0, .int .u64 0, .int .u64 0, .int .u64 0, .int .u64 0, .int .u64 0, .int .u64 0, .int .u64 0, .int .u64 0, .int .u64 0, pc, vM, c, i, .int .u64 0, .int .u64 0, .int .i64 0, .int .u64 0, .int .u64 0, .int .u64 0, .int .u64 0, .bool false, .slice none 0 0, lo, hi, .slice none 0 0, .slice none 0 0, .slice none 0 0, .slice none 0 0, .slice none 0 0, .slice none 0 0, .int .u64 0, .int .u64 0, .int .u64 0, .int .u64 0, .slice none 0 0, .slice none 0 0]
def nthO (L M : Lb) (pc r c i lo hi : Int) : Ob := ⟨0, 4, L, 1, false, [], [], [], { zTh with regs := [0, r, 0, 0, 0, 0, 0, 0, 0, 0, 0, 0, 0, 0, 0, 0], pc := pc, clear := M, sc := c, si := i, lo := lo, hi := hi }, zGt, [], []⟩
theorem thT_size {vM pc c i : Value} : (thT vM pc c i).size = 35 := rfl
variable {pc r c i lo hi : Int}
theorem thC_d {D : Nat → Prop} {w : World} {aL aM : Option Addr} {nL cL nM cM : Nat} {L M : Lb} (hL : LabD D w aL nL cL L) (hM : LabD D w aM nM cM M) : ObD D w (thC (.slice aL nL cL) (.slice aM nM cM) (.int .u64 pc) (.int .u64 r) (.int .u64 c) (.int .u64 i) (.int .u64 lo) (.int .u64 hi)) (nthO L M pc r c i lo hi) := by
 refine ⟨rfl, by kernel_rfl, rfl, rfl, ⟨aL, nL, cL, rfl, hL⟩, rfl, rfl, CtV.zero _ _, CtV.zero _ _, MpV.zero _ _, ?_, ?_, CtV.zero _ _, CtV.zero _ _⟩
 ·refine ⟨rfl, fun j hj => ?_, rfl, ⟨aM, nM, cM, rfl, hM⟩, rfl, rfl, rfl, rfl, rfl, rfl, rfl, rfl, rfl, rfl, CtV.zero _ _, rfl, rfl, LbV.zero _ _, LbV.zero _ _, LbV.zero _ _, LbV.zero _ _⟩
  match j, hj with
  | 0, _ => rfl
  | 1, _ => rfl
  | 2, _ => rfl
  | 3, _ => rfl
  | 4, _ => rfl
  | 5, _ => rfl
  | 6, _ => rfl
  | 7, _ => rfl
  | 8, _ => rfl
  | 9, _ => rfl
  | 10, _ => rfl
  | 11, _ => rfl
  | 12, _ => rfl
  | 13, _ => rfl
  | 14, _ => rfl
  | 15, _ => rfl
  | j + 16, q => exact absurd q (by omega)
 ·exact ⟨LbV.zero _ _, LbV.zero _ _, rfl, rfl, rfl, rfl⟩
theorem vHz {L M : Lb} (hL : L.length < 1048576) (hM : M.length < 1048576) : Small (nthO L M pc r c i lo hi) :=
 ⟨show L.length < _ by omega, show (0 : Nat) < _ by decide, show (0 : Nat) < _ by decide, show (0 : Nat) < _ by decide, show M.length < _ by omega, show (0 : Nat) < _ by decide, show (0 : Nat) < _ by decide, show (0 : Nat) < _ by decide, show (0 : Nat) < _ by decide, show (0 : Nat) < _ by decide, show (0 : Nat) < _ by decide, show (0 : Nat) < _ by decide, show (0 : Nat) < _ by decide, show (0 : Nat) < _ by decide⟩
theorem bRz (aL : Option Addr) (nL cL : Nat) : prog.built 55 [(1, .int .i64 4), (2, .slice aL nL cL), (3, .int .i64 1)] = some (comC (.int .u64 0) (.int .i64 4) (.slice aL nL cL) (.int .i64 1) (.bool false)) := by kernel_rfl
theorem th_put1 (vL vM pc c i : Value) : (comC (.int .u64 0) (.int .i64 4) vL (.int .i64 1) (.bool false)).extract 0 8 ++ thT vM pc c i ++ (comC (.int .u64 0) (.int .i64 4) vL (.int .i64 1) (.bool false)).extract (8 + (thT vM pc c i).size) (comC (.int .u64 0) (.int .i64 4) vL (.int .i64 1) (.bool false)).size = thC vL vM pc (.int .u64 0) c i (.int .u64 0) (.int .u64 0) := by kernel_rfl
theorem th_put2 (vL vM pc r c i lo hi : Value) : (thC vL vM pc (.int .u64 0) c i lo hi).setIfInBounds 9 r = thC vL vM pc r c i lo hi := by kernel_rfl
theorem th_put3 (vL vM pc r c i u v lo hi : Value) : (thC vL vM pc r c i u v).extract 0 37 ++ #[lo, hi] ++ (thC vL vM pc r c i u v).extract (37 + (#[lo, hi] : Array Value).size) (thC vL vM pc r c i u v).size = thC vL vM pc r c i lo hi := by kernel_rfl
theorem yUz {b o i : Nat} (hi : i < 16) (w : World) : (Instr.indexAt 42 (.pointer (some ⟨b, o, none⟩)) (.int .i64 (i : Int))).run prog w = .ok (.pointer (some ⟨b, o + i, none⟩)) w := by
 have hi' : (i : Int) < 16 := by omega
 go_simp
variable {Z : Nat → Prop} {ao : Option Addr} {n cap : Nat} {w W : World}
theorem lab_in {B Q : Nat} {L : Lb} (h : LabD (Kx Z B w) w ao n cap L) (k : Kt B w W) (hQ : w.heap.size ≤ Q) : LabD (Kx (fun b => Z b ∨ b = Q) B W) W ao n cap L :=
 (h.laterK fun b hb => k.oth b hb.1.1 hb.1.2).wide fun b hb => ⟨⟨ltz hb.1.1 k.low.size, hb.1.2⟩, fun q => q.elim hb.2 fun e => by have := hb.1.1; omega⟩
theorem kWz {B : Nat} {L : Lb} (h : LabD (Kx Z B w) w ao n cap L) (k : Kt B w W) : LabD (Kx Z B W) W ao n cap L :=
 (h.laterK fun b hb => k.oth b hb.1.1 hb.1.2).wide fun b hb => ⟨⟨ltz hb.1.1 k.low.size, hb.1.2⟩, hb.2⟩
theorem lab_lt {B : Nat} {L : Lb} (h : LabD (Kx Z B w) w ao n cap L) (k : Kt B w W) : LabD (LtN W) W ao n cap L := (kWz h k).wide fun b hb => hb.1.1
def spnB (x : Ob) (L M : Lb) : Bool := (!CkM.abvB L && !CkM.abvB M) && (leqB x.label L && (leqB L M && leqB M x.th.clear))
theorem mkth_v {w : World} {B : Nat} {T : TypeId} {F : Array Value} {x : Ob} {t ro : Int} {key a b : Nat} {X : List Ob} {A : List Int} (h : Kz Z w B T F x t (key : Int) ro ao n cap X A) (hg : Kg X n x) (hc : x.th.clear.length < 1048576) (hl : ∀ k, (labT x.th k).length < 1048576) {k1 k2 : Nat} (hA1 : A.getD 1 0 = (k1 : Int)) (hA2 : A.getD 2 0 = (k2 : Int)) (hx : fnd X x.id = some x) (hw : Kw x a b) : Calls prog 54 #[.pointer (some ⟨B, 0, none⟩)] w fun e w' => (((k1 < 4 ∧ k2 < 4) ∧ 0 < SrM.share a b ∧ q9z { nthO (labT x.th k1) (labT x.th k2) (A.getD 3 0) (A.getD 4 0) (A.getD 5 0) (A.getD 6 0) 0 0 with id := 1 } = true ∧ attE (puR X (spO x ((a + 1 : Nat) : Int) ((b - SrM.share a b : Nat) : Int))) (A.getD 0 0) { nthO (labT x.th k1) (labT x.th k2) (A.getD 3 0) (A.getD 4 0) (A.getD 5 0) (A.getD 6 0) ((b - SrM.share a b : Nat) : Int) (b : Int) with id := ((Pm.nameN key a : Nat) : Int) } = 0) ∧ e = .returned (.int .u64 (Pm.nameN key a : Nat)) ∧ (∃ F' ao2 n2 cap2, Kz Z w' B T F' (spO x ((a + 1 : Nat) : Int) ((b - SrM.share a b : Nat) : Int)) t (key : Int) ro ao2 n2 cap2 (attX (puR X (spO x ((a + 1 : Nat) : Int) ((b - SrM.share a b : Nat) : Int))) (A.getD 0 0) { nthO (labT x.th k1) (labT x.th k2) (A.getD 3 0) (A.getD 4 0) (A.getD 5 0) (A.getD 6 0) ((b - SrM.share a b : Nat) : Int) (b : Int) with id := ((Pm.nameN key a : Nat) : Int) }) A) ∧ Kt B w w') ∨ ((∃ k, k ≠ 0 ∧ e = .panicked (wfz k)) ∧ (∃ F' x', Kz Z w' B T F' x' t (key : Int) ro ao n cap X A) ∧ Kt B w w') := by
 by_cases hk1 : k1 < 4
 rotate_left
 ·have hln : Calls prog 86 #[.pointer (some ⟨B, 0, none⟩), .int .i64 1] w fun e w' => e = .panicked (wfz 4) ∧ w = w' := lab_no h (i := 1) (by omega) (by rw [hA1]; omega)
  go_enter func54, ntmps54
  go_wp2_with (go_at_call 86; (with_reducible refine hln.mono ?_); rintro e w1 ⟨rfl, rfl⟩)
  exact ⟨rfl, .inr ⟨⟨4, by decide, rfl⟩, ⟨F, x, h⟩, Kt.refl B w⟩⟩
 have hl1 := hl k1
 have hl2 := hl k2
 have hmx : prog.follows .mixedOrders = true := by kernel_rfl
 have hBl := h.blk.lt
 have ha0 := h.arg 0 (by omega)
 have ha3 := h.arg 3 (by omega)
 have ha4 := h.arg 4 (by omega)
 have ha5 := h.arg 5 (by omega)
 have ha6 := h.arg 6 (by omega)
 have hlb : ∀ {W : World}, Kz Z W B T F x t (key : Int) ro ao n cap X A → Calls prog 86 #[.pointer (some ⟨B, 0, none⟩), .int .i64 1] W fun e w' => ∃ v, e = .returned v ∧ LbV (Kx Z B W) W (some v) (labT x.th k1) ∧ W = w' := fun h => bgz h (i := 1) (by omega) hA1 hk1
 obtain ⟨d, hed⟩ : ∃ y, A.getD 0 0 = y := ⟨_, rfl⟩
 obtain ⟨a3, hea3⟩ : ∃ y, A.getD 3 0 = y := ⟨_, rfl⟩
 obtain ⟨a4, hea4⟩ : ∃ y, A.getD 4 0 = y := ⟨_, rfl⟩
 obtain ⟨a5, hea5⟩ : ∃ y, A.getD 5 0 = y := ⟨_, rfl⟩
 obtain ⟨a6, hea6⟩ : ∃ y, A.getD 6 0 = y := ⟨_, rfl⟩
 rw [hed] at ha0
 rw [hea3] at ha3
 rw [hea4] at ha4
 rw [hea5] at ha5
 rw [hea6] at ha6
 rw [hed, hea3, hea4, hea5, hea6]
 replace hed : Hid _ := hed
 clear hea3 hea4 hea5 hea6
 have hk : Kt B w w := Kt.refl B w
 go_enter func54, ntmps54
 go_upto_region 2 with (first
  | go_skip
  | (go_at_call 86; (with_reducible refine (hlb h).mono ?_); rintro e w2 ⟨_, rfl, ⟨aL, nL, cL, e9, hL⟩, rfl⟩; cases e9; obtain ⟨C0, hC0⟩ : ∃ C0, Hid (comC (.int .u64 0) (.int .i64 4) (.slice aL nL cL) (.int .i64 1) (.bool false) = C0) := ⟨_, rfl⟩; have zC0 : C0.size = 51 := (by rw [← hC0.out]; rfl); have oC0 : C0.all (·.oneCell') = true := (by rw [← hC0.out]; kernel_rfl))
  | ((with_reducible refine qyz rfl 55 [(1, .const (.int .i64 4)), (2, .tmp 7), (3, .const (.int .i64 1))] rfl C0 ?hf ?_); (case hf => (rw [← hC0.out]; exact bRz _ _ _)))
  | ((with_reducible refine qdz rfl 55 rfl zC qsz ?_); intro Q W1 hN1 hQ hk1; have hQw : w.heap.size = Q := hN1.out.1; have hm := h.more hk1 hQ.lt (Nat.le_of_eq hQw); replace hk := hk.trans (Kt.of hk1 hBl))
  | ((with_reducible refine qbz rfl _ _ _ rfl Q rfl C0 rfl zC hQ (qfz zC0) (qoz.trans zC0.symm) oC0 ?_); intro W2 hQ2 q2; replace hm := hm.oth q2 (.inr rfl) (by omega); replace hk := hk.put q2 (by omega) hBl))
 replace hQ := hQ2
 clear hQ2
 have hB := hm.blk
 have hBm := hm.blk.lt
 have hkz := brz W2.heap.size W2
 by_cases hk2 : k2 < 4
 rotate_left
 ·have hlb2 : ∀ {W : World}, Kz (fun b => Z b ∨ b = Q) W B T F x t (key : Int) ro ao n cap X A → Calls prog 86 #[.pointer (some ⟨B, 0, none⟩), .int .i64 2] W fun e w' => e = .panicked (wfz 4) ∧ W = w' := fun h => lab_no h (i := 2) (by omega) (by rw [hA2]; omega)
  refine xMz (S := fun W => Blk W B F T ∧ Blk W Q C0 55 ∧ Below W2.heap.size W2 W) 25 hmx (⟨hB.next (brz _ _).drew, hQ.next (brz _ _).drew, hkz.trans ((brz _ _).drew.mono hkz.size)⟩) (fun hS2 => ?_)
  generalize W2.drew = v2 at hS2 ⊢
  refine wlz (by kernel_rfl) (fun _ _ _ _ _ h => h) hS2 [(0, none, []), (1, none, []), (2, none, []), (4, none, []), (5, none, []), (6, none, []), (7, none, []), (8, some (.pointer (some ⟨B, 58, none⟩)), []), (9, some (.int .u64 a3), []), (10, none, []), (11, none, []), (12, none, []), (13, none, []), (14, some (.pointer (some ⟨B, 60, none⟩)), []), (15, some (.int .u64 a5), []), (16, none, []), (17, none, []), (18, none, []), (19, none, []), (20, some (.pointer (some ⟨B, 61, none⟩)), []), (21, some (.int .u64 a6), []), (22, none, [])] (l' := #[tt, tt, tt, ff, tt, tt, tt, tt, tt, tt, tt, tt, tt, tt, tt, tt, tt, tt, tt, tt, tt, tt, tt, ff, ff, ff]) (a' := { tmps := #[.pointer (some ⟨B, 0, none⟩), undef, .int .u64 0, .pointer (some ⟨Q, 0, none⟩), .pointer (some ⟨B, 0, none⟩), .pointer (some ⟨B, 0, none⟩), .pointer (some ⟨B, 0, none⟩), .slice aL nL cL, .agg C0, .pointer (some ⟨B, 0, none⟩), .pointer (some ⟨B, 0, none⟩), .pointer (some ⟨B, 0, none⟩), undef, .pointer (some ⟨B, 0, none⟩), .pointer (some ⟨B, 0, none⟩), .pointer (some ⟨B, 0, none⟩), .pointer (some ⟨B, 55, none⟩), .pointer (some ⟨B, 58, none⟩), .int .u64 a3, .pointer (some ⟨B, 0, none⟩), .pointer (some ⟨B, 0, none⟩), .pointer (some ⟨B, 0, none⟩), .pointer (some ⟨B, 55, none⟩), .pointer (some ⟨B, 60, none⟩), .int .u64 a5, .pointer (some ⟨B, 0, none⟩), .pointer (some ⟨B, 0, none⟩), .pointer (some ⟨B, 0, none⟩), .pointer (some ⟨B, 55, none⟩), .pointer (some ⟨B, 61, none⟩), .int .u64 a6, .agg #[.int .u64 a5, .int .u64 a6], ud, ud, ud, ud, ud, ud, ud, ud, ud, ud, ud, ud, ud, ud, ud, ud, ud, ud, ud, ud, ud, ud, ud, ud, ud, ud, ud, ud, ud, ud, ud, ud, ud, ud, ud, undef], defers := [] }) (obs := [.ia 27 (.pointer (some ⟨B, 55, none⟩)) (.int .i64 3) (.pointer (some ⟨B, 58, none⟩)), .load 22 B 58 (.int .u64 a3), .ia 27 (.pointer (some ⟨B, 55, none⟩)) (.int .i64 5) (.pointer (some ⟨B, 60, none⟩)), .load 22 B 60 (.int .u64 a5), .ia 27 (.pointer (some ⟨B, 55, none⟩)) (.int .i64 6) (.pointer (some ⟨B, 61, none⟩)), .load 22 B 61 (.int .u64 a6)]) (n := 4) (by kernel_rfl) (by kernel_rfl) ⟨wEz (i := 3) (by omega), qez (fun W hS => hS.1) ha3 isAgg22, wEz (i := 5) (by omega), qez (fun W hS => hS.1) ha5 isAgg22, wEz (i := 6) (by omega), qez (fun W hS => hS.1) ha6 isAgg22, trivial⟩ ?_
  refine wSz (i := 3) (n := 3) rfl (by kernel_rfl) ?_
  refine wLz (f := 86) (vs := [.pointer (some ⟨B, 0, none⟩), .int .i64 2]) (d := some 12) (by kernel_rfl) call86 (hlb2 (hm.next hS2.2.2)) ?_
  rintro e w9 ⟨rfl, rfl⟩
  refine .inr ⟨_, rfl, ?_⟩
  exact ⟨rfl, .inr ⟨⟨4, by decide, rfl⟩, ⟨F, x, (hm.next hS2.2.2).less fun b hb => .inl hb⟩, hk.trans (Kt.of hS2.2.2 hBm)⟩⟩
 have hlb2 : ∀ {W : World}, Kz (fun b => Z b ∨ b = Q) W B T F x t (key : Int) ro ao n cap X A → Calls prog 86 #[.pointer (some ⟨B, 0, none⟩), .int .i64 2] W fun e w' => ∃ v, e = .returned v ∧ LbV (Kx (fun b => Z b ∨ b = Q) B W) W (some v) (labT x.th k2) ∧ W = w' := fun h => bgz h (i := 2) (by omega) hA2 hk2
 refine xMz (S := fun W => Blk W B F T ∧ Blk W Q C0 55 ∧ Below W2.heap.size W2 W) 25 hmx (⟨hB.next (brz _ _).drew, hQ.next (brz _ _).drew, hkz.trans ((brz _ _).drew.mono hkz.size)⟩) (fun hS2 => ?_)
 generalize W2.drew = v2 at hS2 ⊢
 refine wlz (by kernel_rfl) (fun _ _ _ _ _ h => h) hS2 [(0, none, []), (1, none, []), (2, none, []), (4, none, []), (5, none, []), (6, none, []), (7, none, []), (8, some (.pointer (some ⟨B, 58, none⟩)), []), (9, some (.int .u64 a3), []), (10, none, []), (11, none, []), (12, none, []), (13, none, []), (14, some (.pointer (some ⟨B, 60, none⟩)), []), (15, some (.int .u64 a5), []), (16, none, []), (17, none, []), (18, none, []), (19, none, []), (20, some (.pointer (some ⟨B, 61, none⟩)), []), (21, some (.int .u64 a6), []), (22, none, [])] (l' := #[tt, tt, tt, ff, tt, tt, tt, tt, tt, tt, tt, tt, tt, tt, tt, tt, tt, tt, tt, tt, tt, tt, tt, ff, ff, ff]) (a' := { tmps := #[.pointer (some ⟨B, 0, none⟩), undef, .int .u64 0, .pointer (some ⟨Q, 0, none⟩), .pointer (some ⟨B, 0, none⟩), .pointer (some ⟨B, 0, none⟩), .pointer (some ⟨B, 0, none⟩), .slice aL nL cL, .agg C0, .pointer (some ⟨B, 0, none⟩), .pointer (some ⟨B, 0, none⟩), .pointer (some ⟨B, 0, none⟩), undef, .pointer (some ⟨B, 0, none⟩), .pointer (some ⟨B, 0, none⟩), .pointer (some ⟨B, 0, none⟩), .pointer (some ⟨B, 55, none⟩), .pointer (some ⟨B, 58, none⟩), .int .u64 a3, .pointer (some ⟨B, 0, none⟩), .pointer (some ⟨B, 0, none⟩), .pointer (some ⟨B, 0, none⟩), .pointer (some ⟨B, 55, none⟩), .pointer (some ⟨B, 60, none⟩), .int .u64 a5, .pointer (some ⟨B, 0, none⟩), .pointer (some ⟨B, 0, none⟩), .pointer (some ⟨B, 0, none⟩), .pointer (some ⟨B, 55, none⟩), .pointer (some ⟨B, 61, none⟩), .int .u64 a6, .agg #[.int .u64 a5, .int .u64 a6], ud, ud, ud, ud, ud, ud, ud, ud, ud, ud, ud, ud, ud, ud, ud, ud, ud, ud, ud, ud, ud, ud, ud, ud, ud, ud, ud, ud, ud, ud, ud, ud, ud, ud, ud, undef], defers := [] }) (obs := [.ia 27 (.pointer (some ⟨B, 55, none⟩)) (.int .i64 3) (.pointer (some ⟨B, 58, none⟩)), .load 22 B 58 (.int .u64 a3), .ia 27 (.pointer (some ⟨B, 55, none⟩)) (.int .i64 5) (.pointer (some ⟨B, 60, none⟩)), .load 22 B 60 (.int .u64 a5), .ia 27 (.pointer (some ⟨B, 55, none⟩)) (.int .i64 6) (.pointer (some ⟨B, 61, none⟩)), .load 22 B 61 (.int .u64 a6)]) (n := 4) (by kernel_rfl) (by kernel_rfl) ⟨wEz (i := 3) (by omega), qez (fun W hS => hS.1) ha3 isAgg22, wEz (i := 5) (by omega), qez (fun W hS => hS.1) ha5 isAgg22, wEz (i := 6) (by omega), qez (fun W hS => hS.1) ha6 isAgg22, trivial⟩ ?_
 refine wSz (i := 3) (n := 3) rfl (by kernel_rfl) ?_
 refine quz (f := 86) (vs := [.pointer (some ⟨B, 0, none⟩), .int .i64 2]) (d := some 12) (by kernel_rfl) call86 (hlb2 (hm.next hS2.2.2)) ?_
 rintro e w21 ⟨_, rfl, ⟨aM, nM, cM, e9, hM⟩, rfl⟩
 cases e9
 refine ⟨_, rfl, fun _ => hS2, ?_⟩
 refine wlz (by kernel_rfl) (fun _ _ _ _ _ h => h) hS2 [(23, none, []), (24, none, [])] (l' := #[tt, tt, tt, tt, tt, tt, tt, tt, tt, tt, tt, tt, tt, tt, tt, tt, tt, tt, tt, tt, tt, tt, tt, tt, tt, ff]) (a' := { tmps := #[.pointer (some ⟨B, 0, none⟩), undef, .int .u64 0, .pointer (some ⟨Q, 0, none⟩), .pointer (some ⟨B, 0, none⟩), .pointer (some ⟨B, 0, none⟩), .pointer (some ⟨B, 0, none⟩), .slice aL nL cL, .agg C0, .pointer (some ⟨B, 0, none⟩), .pointer (some ⟨B, 0, none⟩), .pointer (some ⟨B, 0, none⟩), .slice aM nM cM, .pointer (some ⟨B, 0, none⟩), .pointer (some ⟨B, 0, none⟩), .pointer (some ⟨B, 0, none⟩), .pointer (some ⟨B, 55, none⟩), .pointer (some ⟨B, 58, none⟩), .int .u64 a3, .pointer (some ⟨B, 0, none⟩), .pointer (some ⟨B, 0, none⟩), .pointer (some ⟨B, 0, none⟩), .pointer (some ⟨B, 55, none⟩), .pointer (some ⟨B, 60, none⟩), .int .u64 a5, .pointer (some ⟨B, 0, none⟩), .pointer (some ⟨B, 0, none⟩), .pointer (some ⟨B, 0, none⟩), .pointer (some ⟨B, 55, none⟩), .pointer (some ⟨B, 61, none⟩), .int .u64 a6, .agg #[.int .u64 a5, .int .u64 a6], .agg (thT (.slice aM nM cM) (.int .u64 a3) (.int .u64 a5) (.int .u64 a6)), .pointer (some ⟨Q, 8, none⟩), ud, ud, ud, ud, ud, ud, ud, ud, ud, ud, ud, ud, ud, ud, ud, ud, ud, ud, ud, ud, ud, ud, ud, ud, ud, ud, ud, ud, ud, ud, ud, ud, ud, undef], defers := [] }) (obs := []) (n := 1) (by kernel_rfl) (by kernel_rfl) trivial ?_
 obtain ⟨W3, hr3, hQ3, q3⟩ := xxz (ty := 51) (o := 8) hS2.2.1 (C := thT (.slice aM nM cM) (.int .u64 a3) (.int .u64 a5) (.int .u64 a6)) (by kernel_rfl) (by rw [zC0, thT_size]; decide) (by kernel_rfl)
 refine wmz (i := 25) (n := 0) rfl (by kernel_rfl) (by kernel_rfl) ?_
 refine qQz (ty := 51) (B := Q) (off := 8) (v := .agg (thT (.slice aM nM cM) (.int .u64 a3) (.int .u64 a5) (.int .u64 a6))) (d := none) (by kernel_rfl) hr3 ?_
 refine xAz (by kernel_rfl) ?_ _
 replace hk := hk.trans (Kt.of hS2.2.2 hBm)
 have hm3 := (hm.next hS2.2.2).oth q3 (.inr rfl) (by omega)
 have hM3 : LabD (Kx (fun b => Z b ∨ b = Q) B W3) W3 aM nM cM (labT x.th k2) := (hM.laterK fun b hb => q3.block b fun e => hb.2 (.inr e)).wide fun b hb => ⟨⟨by rw [q3.size]; exact hb.1.1, hb.1.2⟩, hb.2⟩
 replace hk := hk.put q3 (by omega) hBl
 obtain ⟨C1, hC1⟩ : ∃ C1, Hid (thC (.slice aL nL cL) (.slice aM nM cM) (.int .u64 a3) (.int .u64 0) (.int .u64 a5) (.int .u64 a6) (.int .u64 0) (.int .u64 0) = C1) := ⟨_, rfl⟩
 rw [← hC0.out, th_put1, hC1.out] at hQ3
 have zC1 : C1.size = 51 := by rw [← hC1.out]; rfl
 obtain ⟨C2, hC2⟩ : ∃ C2, Hid (thC (.slice aL nL cL) (.slice aM nM cM) (.int .u64 a3) (.int .u64 a4) (.int .u64 a5) (.int .u64 a6) (.int .u64 0) (.int .u64 0) = C2) := ⟨_, rfl⟩
 have e2 : C1.setIfInBounds 9 (.int .u64 a4) = C2 := by rw [← hC1.out, ← hC2.out]; exact th_put2 _ _ _ _ _ _ _ _
 have zC2 : C2.size = 51 := by rw [← hC2.out]; rfl
 have eL2 : C2[2]? = some (.slice aL nL cL) := by rw [← hC2.out]; rfl
 have eM2 : C2[25]? = some (.slice aM nM cM) := by rw [← hC2.out]; rfl
 have hB3 := hm3.blk
 have hi7 := fun W => xDz (b := B) (o := 55) (i := 4) (by omega) W
 have hi16 := fun W => yUz (b := Q) (o := 8) (i := 1) (by omega) W
 go_upto_region 4 with (first
  | go_skip
  | (with_reducible refine qVz (by kernel_rfl) _ _ _ rfl _ _ rfl rfl _ (hi7 _) ?_)
  | (with_reducible refine qVz (by kernel_rfl) _ _ _ rfl _ _ rfl rfl _ (hi16 _) ?_)
  | (with_reducible refine qaz (by kernel_rfl) _ _ rfl B _ rfl _ _ hB3 _ ha4 isAgg22 ?_)
  | ((with_reducible refine qiz rfl 22 _ _ rfl Q 9 rfl (.int .u64 a4) rfl rfl C1 _ hQ3 (by kernel_rfl) (by rw [zC1]; decide) rfl ?_); intro W4 hQ4 q4; rw [e2] at hQ4; have hm4 := hm3.oth q4 (.inr rfl) (by omega); replace hk := hk.put q4 (by omega) hBl; have hM4 : LabD (Kx (fun b => Z b ∨ b = Q) B W4) W4 aM nM cM (labT x.th k2) := (hM3.laterK fun b hb => q4.block b fun e => hb.2 (.inr e)).wide fun b hb => ⟨⟨by rw [q4.size]; exact hb.1.1, hb.1.2⟩, hb.2⟩))
 replace hB := hm4.blk
 replace hQ := hQ4
 have hBm4 := hm4.blk.lt
 have hkw := brz W4.heap.size W4
 have hL4 := lab_in hL hk (Nat.le_of_eq hQw)
 have kL : nL < 1048576 := by rw [← hL.1]; exact hl1
 have kM : nM < 1048576 := by rw [← hM4.1]; exact hl2
 have hsp : ∀ {W : World}, Below W4.heap.size W4 W → Calls prog 89 #[.pointer (some ⟨B, 0, none⟩), .slice aL nL cL, .slice aM nM cM] W fun e w' => e = .returned (.bool (spnB x (labT x.th k1) (labT x.th k2))) ∧ Below W.heap.size W w' := fun k => spawns_v (hm4.next k) hg.lab hc (lab_lt hL4 (Kt.of k hBm4)) (lab_lt hM4 (Kt.of k hBm4)) kL kM
 have hod : ∀ {W : World}, Kt B W4 W → ObD (Kx (fun b => Z b ∨ b = Q) B W) W C2 (nthO (labT x.th k1) (labT x.th k2) a3 a4 a5 a6 0 0) := fun k => by
  rw [← hC2.out]
  exact thC_d (kWz hL4 k) (kWz hM4 k)
 by_cases hE : dirE X x.label d true = 0 ∧ spnB x (labT x.th k1) (labT x.th k2) = true ∧ q9z { nthO (labT x.th k1) (labT x.th k2) a3 a4 a5 a6 0 0 with id := 1 } = true
 rotate_left
 ·have hal : ∀ {W : World}, Below W4.heap.size W4 W → Calls prog 88 #[.pointer (some ⟨B, 0, none⟩), .agg C2, .bool (spnB x (labT x.th k1) (labT x.th k2))] W fun e w' => (∃ k, k ≠ 0 ∧ e = .panicked (wfz k)) ∧ Below W.heap.size W w' := fun hk => by
   by_cases h1 : dirE X x.label d true = 0
   ·cases h2 : spnB x (labT x.th k1) (labT x.th k2) with
    | false => exact bVz (hm4.next hk) hg ((hod (Kt.of hk hBm4)).wide fun b hb => hb.1.1) (hed.out.symm ▸ h1) rfl
    | true =>
     by_cases h3 : q9z { nthO (labT x.th k1) (labT x.th k2) a3 a4 a5 a6 0 0 with id := 1 } = true
     ·exact absurd ⟨h1, h2, h3⟩ hE
     ·exact bUz (hm4.next hk) hg ((hod (Kt.of hk hBm4)).wide fun b hb => hb.1.1) (hed.out.symm ▸ h1) rfl h3
   ·exact bWz (hm4.next hk) hg ((hod (Kt.of hk hBm4)).wide fun b hb => hb.1.1) (hed.out.symm ▸ h1)
  refine PgM.region_out (S := fun W => Blk W B F T ∧ Blk W Q C2 55 ∧ Below W4.heap.size W4 W) hmx (⟨hB.next (brz _ _).drew, hQ.next (brz _ _).drew, hkw.trans ((brz _ _).drew.mono hkw.size)⟩) (fun hS4 => ?_)
  generalize W4.drew = v4 at hS4 ⊢
  refine qCz (by kernel_rfl) (fun _ _ _ _ _ h => h) hS4 [(0, none), (1, some (.agg C2)), (2, none), (3, none), (4, some (.slice aL nL cL)), (5, none), (6, none), (7, some (.slice aM nM cM))] (l' := #[tt, tt, tt, tt, tt, tt, tt, tt, ff, ff]) (a' := { tmps := #[.pointer (some ⟨B, 0, none⟩), undef, .int .u64 0, .pointer (some ⟨Q, 0, none⟩), .pointer (some ⟨B, 0, none⟩), .pointer (some ⟨B, 0, none⟩), .pointer (some ⟨B, 0, none⟩), .slice aL nL cL, .agg C0, .pointer (some ⟨B, 0, none⟩), .pointer (some ⟨B, 0, none⟩), .pointer (some ⟨B, 0, none⟩), .slice aM nM cM, .pointer (some ⟨B, 0, none⟩), .pointer (some ⟨B, 0, none⟩), .pointer (some ⟨B, 0, none⟩), .pointer (some ⟨B, 55, none⟩), .pointer (some ⟨B, 58, none⟩), .int .u64 a3, .pointer (some ⟨B, 0, none⟩), .pointer (some ⟨B, 0, none⟩), .pointer (some ⟨B, 0, none⟩), .pointer (some ⟨B, 55, none⟩), .pointer (some ⟨B, 60, none⟩), .int .u64 a5, .pointer (some ⟨B, 0, none⟩), .pointer (some ⟨B, 0, none⟩), .pointer (some ⟨B, 0, none⟩), .pointer (some ⟨B, 55, none⟩), .pointer (some ⟨B, 61, none⟩), .int .u64 a6, .agg #[.int .u64 a5, .int .u64 a6], .agg (thT (.slice aM nM cM) (.int .u64 a3) (.int .u64 a5) (.int .u64 a6)), .pointer (some ⟨Q, 8, none⟩), .pointer (some ⟨B, 0, none⟩), .pointer (some ⟨B, 0, none⟩), .pointer (some ⟨B, 0, none⟩), .pointer (some ⟨B, 55, none⟩), .pointer (some ⟨B, 59, none⟩), .int .u64 a4, .pointer (some ⟨Q, 8, none⟩), .pointer (some ⟨Q, 8, none⟩), .pointer (some ⟨Q, 9, none⟩), .pointer (some ⟨B, 0, none⟩), .agg C2, .pointer (some ⟨B, 0, none⟩), .pointer (some ⟨Q, 2, none⟩), .slice aL nL cL, .pointer (some ⟨Q, 8, none⟩), .pointer (some ⟨Q, 25, none⟩), .slice aM nM cM, ud, ud, ud, ud, ud, ud, ud, ud, ud, ud, ud, ud, ud, ud, ud, ud, undef], defers := [] }) (obs := [.load 55 Q 0 (.agg C2), .load 39 Q 2 (.slice aL nL cL), .load 39 Q 25 (.slice aM nM cM)]) (n := 2) (by kernel_rfl) (by kernel_rfl) ⟨qBz (fun W hS => hS.2.1) underlying55 rfl (qfz zC2), qez (fun W hS => hS.2.1) eL2 isAgg39, qez (fun W hS => hS.2.1) eM2 isAgg39, trivial⟩ ?_
  refine qkz (i := 8) (n := 1) rfl (by kernel_rfl) ?_
  refine quz (f := 89) (vs := [.pointer (some ⟨B, 0, none⟩), .slice aL nL cL, .slice aM nM cM]) (d := some 51) (by kernel_rfl) call89 (hsp hS4.2.2) ?_
  rintro e w41 ⟨rfl, hb5⟩
  have hS41 : Blk w41 B F T ∧ Blk w41 Q C2 55 ∧ Below W4.heap.size W4 w41 := ⟨hS4.1.next hb5, hS4.2.1.next hb5, hS4.2.2.trans (hb5.mono hS4.2.2.size)⟩
  refine ⟨_, rfl, hS41, ?_⟩
  refine qkz (i := 9) (n := 0) rfl (by kernel_rfl) ?_
  refine wLz (f := 88) (vs := [.pointer (some ⟨B, 0, none⟩), .agg C2, .bool (spnB x (labT x.th k1) (labT x.th k2))]) (d := some 52) (by kernel_rfl) call88 (hal hS41.2.2) ?_
  rintro e w9 ⟨⟨k, hk0, rfl⟩, hb9⟩
  refine .inr ⟨_, rfl, ?_⟩
  have hk9 := hS41.2.2.trans (hb9.mono hS41.2.2.size)
  exact ⟨rfl, .inr ⟨⟨k, hk0, rfl⟩, ⟨F, x, (hm4.next hk9).less fun b hb => .inl hb⟩, hk.trans (Kt.of hk9 hBm4)⟩⟩
 have hal : ∀ {W : World}, Below W4.heap.size W4 W → Calls prog 88 #[.pointer (some ⟨B, 0, none⟩), .agg C2, .bool (spnB x (labT x.th k1) (labT x.th k2))] W fun e w' => e = .returned (.tuple #[]) ∧ Below W.heap.size W w' := fun hk => by
  rw [hE.2.1]
  exact uBz (hm4.next hk) hg ((hod (Kt.of hk hBm4)).wide fun b hb => hb.1.1) (hed.out.symm ▸ hE.1) rfl hE.2.2
 refine PgM.region_out (S := fun W => Blk W B F T ∧ Blk W Q C2 55 ∧ Below W4.heap.size W4 W) hmx (⟨hB.next (brz _ _).drew, hQ.next (brz _ _).drew, hkw.trans ((brz _ _).drew.mono hkw.size)⟩) (fun hS4 => ?_)
 generalize W4.drew = v4 at hS4 ⊢
 refine qCz (by kernel_rfl) (fun _ _ _ _ _ h => h) hS4 [(0, none), (1, some (.agg C2)), (2, none), (3, none), (4, some (.slice aL nL cL)), (5, none), (6, none), (7, some (.slice aM nM cM))] (l' := #[tt, tt, tt, tt, tt, tt, tt, tt, ff, ff]) (a' := { tmps := #[.pointer (some ⟨B, 0, none⟩), undef, .int .u64 0, .pointer (some ⟨Q, 0, none⟩), .pointer (some ⟨B, 0, none⟩), .pointer (some ⟨B, 0, none⟩), .pointer (some ⟨B, 0, none⟩), .slice aL nL cL, .agg C0, .pointer (some ⟨B, 0, none⟩), .pointer (some ⟨B, 0, none⟩), .pointer (some ⟨B, 0, none⟩), .slice aM nM cM, .pointer (some ⟨B, 0, none⟩), .pointer (some ⟨B, 0, none⟩), .pointer (some ⟨B, 0, none⟩), .pointer (some ⟨B, 55, none⟩), .pointer (some ⟨B, 58, none⟩), .int .u64 a3, .pointer (some ⟨B, 0, none⟩), .pointer (some ⟨B, 0, none⟩), .pointer (some ⟨B, 0, none⟩), .pointer (some ⟨B, 55, none⟩), .pointer (some ⟨B, 60, none⟩), .int .u64 a5, .pointer (some ⟨B, 0, none⟩), .pointer (some ⟨B, 0, none⟩), .pointer (some ⟨B, 0, none⟩), .pointer (some ⟨B, 55, none⟩), .pointer (some ⟨B, 61, none⟩), .int .u64 a6, .agg #[.int .u64 a5, .int .u64 a6], .agg (thT (.slice aM nM cM) (.int .u64 a3) (.int .u64 a5) (.int .u64 a6)), .pointer (some ⟨Q, 8, none⟩), .pointer (some ⟨B, 0, none⟩), .pointer (some ⟨B, 0, none⟩), .pointer (some ⟨B, 0, none⟩), .pointer (some ⟨B, 55, none⟩), .pointer (some ⟨B, 59, none⟩), .int .u64 a4, .pointer (some ⟨Q, 8, none⟩), .pointer (some ⟨Q, 8, none⟩), .pointer (some ⟨Q, 9, none⟩), .pointer (some ⟨B, 0, none⟩), .agg C2, .pointer (some ⟨B, 0, none⟩), .pointer (some ⟨Q, 2, none⟩), .slice aL nL cL, .pointer (some ⟨Q, 8, none⟩), .pointer (some ⟨Q, 25, none⟩), .slice aM nM cM, ud, ud, ud, ud, ud, ud, ud, ud, ud, ud, ud, ud, ud, ud, ud, ud, undef], defers := [] }) (obs := [.load 55 Q 0 (.agg C2), .load 39 Q 2 (.slice aL nL cL), .load 39 Q 25 (.slice aM nM cM)]) (n := 2) (by kernel_rfl) (by kernel_rfl) ⟨qBz (fun W hS => hS.2.1) underlying55 rfl (qfz zC2), qez (fun W hS => hS.2.1) eL2 isAgg39, qez (fun W hS => hS.2.1) eM2 isAgg39, trivial⟩ ?_
 refine qkz (i := 8) (n := 1) rfl (by kernel_rfl) ?_
 refine quz (f := 89) (vs := [.pointer (some ⟨B, 0, none⟩), .slice aL nL cL, .slice aM nM cM]) (d := some 51) (by kernel_rfl) call89 (hsp hS4.2.2) ?_
 rintro e w41 ⟨rfl, hb5⟩
 have hS41 : Blk w41 B F T ∧ Blk w41 Q C2 55 ∧ Below W4.heap.size W4 w41 := ⟨hS4.1.next hb5, hS4.2.1.next hb5, hS4.2.2.trans (hb5.mono hS4.2.2.size)⟩
 refine ⟨_, rfl, hS41, ?_⟩
 refine qkz (i := 9) (n := 0) rfl (by kernel_rfl) ?_
 refine quz (f := 88) (vs := [.pointer (some ⟨B, 0, none⟩), .agg C2, .bool (spnB x (labT x.th k1) (labT x.th k2))]) (d := some 52) (by kernel_rfl) call88 (hal hS41.2.2) ?_
 rintro e w42 ⟨rfl, hb6⟩
 have hS42 : Blk w42 B F T ∧ Blk w42 Q C2 55 ∧ Below W4.heap.size W4 w42 := ⟨hS41.1.next hb6, hS41.2.1.next hb6, hS41.2.2.trans (hb6.mono hS41.2.2.size)⟩
 refine ⟨_, rfl, hS42, ?_⟩
 refine wpAnyH_done (by kernel_rfl) ?_ _
 have hm5 := hm4.next hS42.2.2
 have hk5 : Kt B W4 w42 := Kt.of hS42.2.2 hBm4
 replace hQ := hS42.2.1
 have hcw : b - SrM.share a b ≤ b := Nat.sub_le _ _
 by_cases hs : 0 < SrM.share a b
 rotate_left
 ·replace hs : SrM.share a b = 0 := by omega
  have hsh := share_no hm5 hw.lo hw.hi hw.ab hw.le hs
  go_wp2_with (first
   | (go_at_call 90; (with_reducible refine hsh.mono ?_); rintro e w7 ⟨rfl, hb7⟩))
  exact ⟨rfl, .inr ⟨⟨7, by decide, rfl⟩, ⟨F, x, (hm5.next hb7).less fun b hb => .inl hb⟩, hk.trans (hk5.trans (Kt.of hb7 hm5.blk.lt))⟩⟩
 have hac : a < b - SrM.share a b := by have := hw.ab; unfold SrM.share at hs ⊢; omega
 obtain ⟨c, hcc⟩ : ∃ c, Hid (b - SrM.share a b = c) := ⟨_, rfl⟩
 simp only [hcc.out] at hac hcw ⊢
 have hcb : c ≤ 2305843009213693952 := by have := hw.le; omega
 have hsh := share_ok hm5 hw.lo hw.hi hw.ab hw.le hs hcc.out
 obtain ⟨S, hS⟩ : ∃ S : Array Value, Hid (#[.int .u64 (c : Int), .int .u64 (b : Int)] = S) := ⟨_, rfl⟩
 rw [hS.out] at hsh
 have zS : S.size = 2 := by rw [← hS.out]; rfl
 have oS : S.all (·.oneCell') = true := by rw [← hS.out]; kernel_rfl
 have hsz : 37 + S.size ≤ C2.size := by rw [zS, zC2]; decide
 have hQ5l := hQ.lt
 have h5s := hk5.low.size
 obtain ⟨C3, hC3⟩ : ∃ C3, Hid (thC (.slice aL nL cL) (.slice aM nM cM) (.int .u64 a3) (.int .u64 a4) (.int .u64 a5) (.int .u64 a6) (.int .u64 (c : Int)) (.int .u64 (b : Int)) = C3) := ⟨_, rfl⟩
 have e3 : C2.extract 0 37 ++ S ++ C2.extract (37 + S.size) C2.size = C3 := by rw [← hC2.out, ← hS.out, ← hC3.out]; exact th_put3 _ _ _ _ _ _ _ _ _ _
 have zC3 : C3.size = 51 := by rw [← hC3.out]; rfl
 go_upto_region 6 with (first
  | go_skip
  | (go_at_call 90; (with_reducible refine hsh.mono ?_); rintro e w7 ⟨rfl, ⟨F7, hm7⟩, hk7⟩; replace hQ : Blk w7 Q C2 55 := (hk7.oth Q hQ5l (by omega)).trans hQ)
  | ((with_reducible refine qKz rfl 48 _ _ rfl Q 37 rfl S rfl C2 55 hQ (w4z zS) hsz oS ?_); intro W8 hQ8 q8; rw [e3] at hQ8; have hm8 := hm7.oth q8 (.inr rfl) (by omega)))
 replace hQ := hQ8
 replace hB := hm8.blk
 have hBm8 := hm8.blk.lt
 have hky := brz W8.heap.size W8
 have hk57 := hk5.trans hk7
 have hk8 : Kt B w W8 := (hk.trans hk57).put q8 (by omega) hBl
 have hL8 : LabD (Kx (fun b => Z b ∨ b = Q) B W8) W8 aL nL cL (labT x.th k1) := ((kWz hL4 hk57).laterK fun b hb => q8.block b fun e => hb.2 (.inr e)).wide fun b hb => ⟨⟨by rw [q8.size]; exact hb.1.1, hb.1.2⟩, hb.2⟩
 have hM8 : LabD (Kx (fun b => Z b ∨ b = Q) B W8) W8 aM nM cM (labT x.th k2) := ((kWz hM4 hk57).laterK fun b hb => q8.block b fun e => hb.2 (.inr e)).wide fun b hb => ⟨⟨by rw [q8.size]; exact hb.1.1, hb.1.2⟩, hb.2⟩
 have ha08 := hm8.arg 0 (by omega)
 rw [hed.out] at ha08
 have hg8 : Kg X n { x with th := { x.th with lo := (a : Int), hi := (c : Int) } } := ⟨hg.lay, hg.len, hg.lab, kpz hg.sm _ _⟩
 have hod8 : ∀ {W : World}, Below W8.heap.size W8 W → ObD (Kx (fun b => Z b ∨ b = Q) B W) W C3 (nthO (labT x.th k1) (labT x.th k2) a3 a4 a5 a6 (c : Int) (b : Int)) := fun k => by
  rw [← hC3.out]
  exact thC_d (kWz hL8 (Kt.of k hBm8)) (kWz hM8 (Kt.of k hBm8))
 by_cases hAt : attE (puR X (spO x ((a + 1 : Nat) : Int) (c : Int))) d { nthO (labT x.th k1) (labT x.th k2) a3 a4 a5 a6 (c : Int) (b : Int) with id := ((Pm.nameN key a : Nat) : Int) } = 0
 rotate_left
 ·have hat := fun {W : World} (k : Below W8.heap.size W8 W) => uYz (hm8.next k) hg8 (jIz hg.lay hx ((a + 1 : Nat) : Int) (c : Int)) rfl rfl hac hcb (hod8 k) (vHz hl1 hl2) hl1 hAt
  refine xMz (S := fun W => Blk W B F7 T ∧ Blk W Q C3 55 ∧ Below W8.heap.size W8 W) 10 hmx (⟨hB.next (brz _ _).drew, hQ.next (brz _ _).drew, hky.trans ((brz _ _).drew.mono hky.size)⟩) (fun hS6 => ?_)
  generalize W8.drew = v6 at hS6 ⊢
  refine wlz (by kernel_rfl) (fun _ _ _ _ _ h => h) hS6 [(0, none, [1, 2]), (1, none, [2]), (2, none, []), (3, none, [4, 5, 6, 7, 8]), (4, none, [5, 6, 7, 8]), (5, none, [6, 7, 8]), (6, none, [7, 8]), (7, some (.pointer (some ⟨B, 55, none⟩)), [8]), (8, some (.int .u64 d), []), (9, some (.agg C3), [])] (l' := #[tt, tt, tt, tt, tt, tt, tt, tt, tt, tt, ff, ff]) (a' := { tmps := #[.pointer (some ⟨B, 0, none⟩), undef, .int .u64 0, .pointer (some ⟨Q, 0, none⟩), .pointer (some ⟨B, 0, none⟩), .pointer (some ⟨B, 0, none⟩), .pointer (some ⟨B, 0, none⟩), .slice aL nL cL, .agg C0, .pointer (some ⟨B, 0, none⟩), .pointer (some ⟨B, 0, none⟩), .pointer (some ⟨B, 0, none⟩), .slice aM nM cM, .pointer (some ⟨B, 0, none⟩), .pointer (some ⟨B, 0, none⟩), .pointer (some ⟨B, 0, none⟩), .pointer (some ⟨B, 55, none⟩), .pointer (some ⟨B, 58, none⟩), .int .u64 a3, .pointer (some ⟨B, 0, none⟩), .pointer (some ⟨B, 0, none⟩), .pointer (some ⟨B, 0, none⟩), .pointer (some ⟨B, 55, none⟩), .pointer (some ⟨B, 60, none⟩), .int .u64 a5, .pointer (some ⟨B, 0, none⟩), .pointer (some ⟨B, 0, none⟩), .pointer (some ⟨B, 0, none⟩), .pointer (some ⟨B, 55, none⟩), .pointer (some ⟨B, 61, none⟩), .int .u64 a6, .agg #[.int .u64 a5, .int .u64 a6], .agg (thT (.slice aM nM cM) (.int .u64 a3) (.int .u64 a5) (.int .u64 a6)), .pointer (some ⟨Q, 8, none⟩), .pointer (some ⟨B, 0, none⟩), .pointer (some ⟨B, 0, none⟩), .pointer (some ⟨B, 0, none⟩), .pointer (some ⟨B, 55, none⟩), .pointer (some ⟨B, 59, none⟩), .int .u64 a4, .pointer (some ⟨Q, 8, none⟩), .pointer (some ⟨Q, 8, none⟩), .pointer (some ⟨Q, 9, none⟩), .pointer (some ⟨B, 0, none⟩), .agg C2, .pointer (some ⟨B, 0, none⟩), .pointer (some ⟨Q, 2, none⟩), .slice aL nL cL, .pointer (some ⟨Q, 8, none⟩), .pointer (some ⟨Q, 25, none⟩), .slice aM nM cM, .bool true, .tuple #[], .pointer (some ⟨B, 0, none⟩), .agg S, .pointer (some ⟨Q, 8, none⟩), .pointer (some ⟨Q, 37, none⟩), .pointer (some ⟨B, 0, none⟩), .pointer (some ⟨B, 0, none⟩), .pointer (some ⟨B, 0, none⟩), .pointer (some ⟨B, 0, none⟩), .pointer (some ⟨B, 0, none⟩), .pointer (some ⟨B, 0, none⟩), .pointer (some ⟨B, 55, none⟩), .pointer (some ⟨B, 55, none⟩), .int .u64 d, .agg C3, undef], defers := [] }) (obs := [.ia 27 (.pointer (some ⟨B, 55, none⟩)) (.int .i64 0) (.pointer (some ⟨B, 55, none⟩)), .load 22 B 55 (.int .u64 d), .load 55 Q 0 (.agg C3)]) (n := 2) (by kernel_rfl) (by kernel_rfl) ⟨wEz (i := 0) (by omega), qez (fun W hS => hS.1) ha08 isAgg22, qBz (fun W hS => hS.2.1) underlying55 rfl (qfz zC3), trivial⟩ ?_
  refine wmz (i := 10) (n := 1) rfl (by kernel_rfl) (by kernel_rfl) ?_
  refine wLz (f := 91) (vs := [.pointer (some ⟨B, 0, none⟩), .int .u64 d, .agg C3]) (d := some 67) (by kernel_rfl) call91 (hat hS6.2.2) ?_
  rintro e w9 ⟨rfl, ⟨F9, h9⟩, hk9⟩
  refine .inr ⟨_, rfl, ?_⟩
  exact ⟨rfl, .inr ⟨⟨_, hAt, rfl⟩, ⟨F9, _, h9.less fun b hb => .inl hb⟩, (hk8.trans ((Kt.of hS6.2.2 hBm8).trans hk9))⟩⟩
 have hat := fun {W : World} (k : Below W8.heap.size W8 W) => jvz (hm8.next k) hg8 (jIz hg.lay hx ((a + 1 : Nat) : Int) (c : Int)) rfl rfl hac hcb (hod8 k) (vHz hl1 hl2) hl1 hAt
 refine xMz (S := fun W => Blk W B F7 T ∧ Blk W Q C3 55 ∧ Below W8.heap.size W8 W) 10 hmx (⟨hB.next (brz _ _).drew, hQ.next (brz _ _).drew, hky.trans ((brz _ _).drew.mono hky.size)⟩) (fun hS6 => ?_)
 generalize W8.drew = v6 at hS6 ⊢
 refine wlz (by kernel_rfl) (fun _ _ _ _ _ h => h) hS6 [(0, none, [1, 2]), (1, none, [2]), (2, none, []), (3, none, [4, 5, 6, 7, 8]), (4, none, [5, 6, 7, 8]), (5, none, [6, 7, 8]), (6, none, [7, 8]), (7, some (.pointer (some ⟨B, 55, none⟩)), [8]), (8, some (.int .u64 d), []), (9, some (.agg C3), [])] (l' := #[tt, tt, tt, tt, tt, tt, tt, tt, tt, tt, ff, ff]) (a' := { tmps := #[.pointer (some ⟨B, 0, none⟩), undef, .int .u64 0, .pointer (some ⟨Q, 0, none⟩), .pointer (some ⟨B, 0, none⟩), .pointer (some ⟨B, 0, none⟩), .pointer (some ⟨B, 0, none⟩), .slice aL nL cL, .agg C0, .pointer (some ⟨B, 0, none⟩), .pointer (some ⟨B, 0, none⟩), .pointer (some ⟨B, 0, none⟩), .slice aM nM cM, .pointer (some ⟨B, 0, none⟩), .pointer (some ⟨B, 0, none⟩), .pointer (some ⟨B, 0, none⟩), .pointer (some ⟨B, 55, none⟩), .pointer (some ⟨B, 58, none⟩), .int .u64 a3, .pointer (some ⟨B, 0, none⟩), .pointer (some ⟨B, 0, none⟩), .pointer (some ⟨B, 0, none⟩), .pointer (some ⟨B, 55, none⟩), .pointer (some ⟨B, 60, none⟩), .int .u64 a5, .pointer (some ⟨B, 0, none⟩), .pointer (some ⟨B, 0, none⟩), .pointer (some ⟨B, 0, none⟩), .pointer (some ⟨B, 55, none⟩), .pointer (some ⟨B, 61, none⟩), .int .u64 a6, .agg #[.int .u64 a5, .int .u64 a6], .agg (thT (.slice aM nM cM) (.int .u64 a3) (.int .u64 a5) (.int .u64 a6)), .pointer (some ⟨Q, 8, none⟩), .pointer (some ⟨B, 0, none⟩), .pointer (some ⟨B, 0, none⟩), .pointer (some ⟨B, 0, none⟩), .pointer (some ⟨B, 55, none⟩), .pointer (some ⟨B, 59, none⟩), .int .u64 a4, .pointer (some ⟨Q, 8, none⟩), .pointer (some ⟨Q, 8, none⟩), .pointer (some ⟨Q, 9, none⟩), .pointer (some ⟨B, 0, none⟩), .agg C2, .pointer (some ⟨B, 0, none⟩), .pointer (some ⟨Q, 2, none⟩), .slice aL nL cL, .pointer (some ⟨Q, 8, none⟩), .pointer (some ⟨Q, 25, none⟩), .slice aM nM cM, .bool true, .tuple #[], .pointer (some ⟨B, 0, none⟩), .agg S, .pointer (some ⟨Q, 8, none⟩), .pointer (some ⟨Q, 37, none⟩), .pointer (some ⟨B, 0, none⟩), .pointer (some ⟨B, 0, none⟩), .pointer (some ⟨B, 0, none⟩), .pointer (some ⟨B, 0, none⟩), .pointer (some ⟨B, 0, none⟩), .pointer (some ⟨B, 0, none⟩), .pointer (some ⟨B, 55, none⟩), .pointer (some ⟨B, 55, none⟩), .int .u64 d, .agg C3, undef], defers := [] }) (obs := [.ia 27 (.pointer (some ⟨B, 55, none⟩)) (.int .i64 0) (.pointer (some ⟨B, 55, none⟩)), .load 22 B 55 (.int .u64 d), .load 55 Q 0 (.agg C3)]) (n := 2) (by kernel_rfl) (by kernel_rfl) ⟨wEz (i := 0) (by omega), qez (fun W hS => hS.1) ha08 isAgg22, qBz (fun W hS => hS.2.1) underlying55 rfl (qfz zC3), trivial⟩ ?_
 refine wmz (i := 10) (n := 1) rfl (by kernel_rfl) (by kernel_rfl) ?_
 refine quz (f := 91) (vs := [.pointer (some ⟨B, 0, none⟩), .int .u64 d, .agg C3]) (d := some 67) (by kernel_rfl) call91 (hat hS6.2.2) ?_
 rintro e w61 ⟨rfl, hK, hk9⟩
 refine ⟨_, rfl, ?_⟩
 refine wmz (i := 11) (n := 0) rfl (by kernel_rfl) (by kernel_rfl) ?_
 refine vdz (d := some 2) (v := .int .u64 (Pm.nameN key a : Nat)) (by kernel_rfl) ?_
 refine xAz (by kernel_rfl) ?_ _
 go_wp2
 go_ret
 simp only [hcc.out]
 exact .inl ⟨hAt, rfl, (by obtain ⟨F', ao2, n2, cap2, h9⟩ := hK; exact ⟨F', ao2, n2, cap2, h9.less fun b hb => .inl hb⟩), (hk8.trans ((Kt.of hS6.2.2 hBm8).trans hk9))⟩
end
section
structure Ct (X : List Ob) (x : Ob) (a b : Nat) : Prop where
 kw : Kw x a b
 cl : x.th.clear.length ≤ 16
 lb : ∀ k, (labT x.th k).length ≤ 16
 ll : x.label.length ≤ 16
 sm : Small x
 fd : fnd X x.id = some x
 kd : x.kind = 4
theorem bQz {t : Int} {key : Nat} {ro i : Int} {X : List Ob} (hF : fitD t key ro X = true) (hw : ∀ x ∈ X, WdO x) (h1 : (fnd X i).isSome = true) (h4 : (fO X i).kind = 4) : ∃ a b : Nat, Ct X (fO X i) a b ∧ (fO X i).id = i := by
 have htr := vnz hF
 obtain ⟨e1, e2, e3⟩ := fO_id h1
 have hs := htr.snd _ e2
 have hc := qSz.1 (qqz.1 hs).1
 have ho := (qqz.1 hs).2.1
 unfold ownB at ho
 rw [if_neg (by rw [h4]; decide), if_neg (by rw [h4]; decide), if_neg (by rw [h4]; decide), if_pos h4] at ho
 simp only [Bool.and_eq_true] at ho
 obtain ⟨_, hb, ht⟩ := ho
 have hb' := q5z.1 hb
 obtain ⟨hl, _, _, _, hsp, _⟩ := q8z.1 ht
 unfold jbz at hsp
 simp only [Bool.and_eq_true, decide_eq_true_eq] at hsp
 obtain ⟨_, hlo, hhi⟩ := hw _ e2
 refine ⟨(fO X i).th.lo.toNat, (fO X i).th.hi.toNat, ⟨⟨by omega, by omega, by omega, by omega⟩, (qvz.1 hb'.2.1).1, fun k => ?_, (qvz.1 hb'.1).1, w7z hs, by rw [e1]; exact e3, h4⟩, e1⟩
 have h0 := (qvz.1 (hl 0 (by omega))).1
 have h1 := (qvz.1 (hl 1 (by omega))).1
 have h2 := (qvz.1 (hl 2 (by omega))).1
 have h3 := (qvz.1 (hl 3 (by omega))).1
 unfold labT
 split
 ·exact h0
 ·split
  ·exact h1
  ·split
   ·exact h2
   ·exact h3
theorem made_th {X : List Ob} {x o : Ob} {d a' c : Int} (hL : Lays X) (hx : fnd X x.id = some x) (h4 : x.kind = 4) (hA : attE (puR X (spO x a' c)) d o = 0) : fnd (attX (puR X (spO x a' c)) d o) x.id = some (spO x a' c) ∧ fnd (attX (puR X (spO x a' c)) d o) o.id = some o := by
 have hs := (jIz hL hx a' c).srt
 have hp : fnd (puR X (spO x a' c)) x.id = some (spO x a' c) := yAz hL.srt (spO x a' c)
 generalize puR X (spO x a' c) = Y at *
 obtain ⟨g1, g2, g3, g4⟩ := att_zero hA
 obtain ⟨e1, e2, e3⟩ := fO_id g1
 have hne : o.id ≠ (fO Y d).id := by rw [e1]; intro q; rw [q, e3] at g3; cases g3
 have hxd : x.id ≠ (fO Y d).id := by
  rw [e1]
  intro q
  rw [q] at hp
  have h2 := j3z hp
  rw [h2] at g2
  have g2' : x.kind = 2 := g2
  omega
 have hxo : x.id ≠ o.id := by
  intro q
  rw [q, g3] at hp
  cases hp
 rw [g4, bdz hs hne, bdz hs hne, if_neg hxd, if_neg hxo, if_neg hne, if_pos rfl]
 exact ⟨hp, rfl⟩
theorem has_not1 {key a b c : Nat} (ha : a < c) (hc : c ≤ 2305843009213693952) : SrM.hasK key c b (Pm.nameN key a) = false := by
 unfold SrM.hasK SrM.hasB
 rw [Pm.num_name, show a % 2305843009213693952 = a by omega, decide_eq_false (show ¬ c ≤ a by omega)]
 simp
theorem has_not2 {key a c : Nat} (ha : a < 2305843009213693952) : SrM.hasK key (a + 1) c (Pm.nameN key a) = false := by
 unfold SrM.hasK SrM.hasB
 rw [Pm.num_name, show a % 2305843009213693952 = a by omega, decide_eq_false (show ¬ a + 1 ≤ a by omega)]
 simp
theorem rap_yes (a b c : Nat) : rapB c b (a + 1) c = true := by unfold rapB; simp
end
section
open Go.RowKit Go.Shelf
attribute [local go_sem] Oper.semAt_some
def few20P (t : Int) (key : Nat) (ro : Int) (l : List Ob) : Prop := (l.length ≤ 24 ∧ ∀ i, i < l.length → fewO (oat l i)) ∧ fitD t key ro l = true
variable {ao : Option Addr} {w : World} {X : List Ob}
theorem bEz {t ro : Int} {key : Nat} {n cap : Nat} (h : Obs w ao n cap X) (hw : ∀ x ∈ X, WdO x) : Asks 7 #[.agg #[.int .i64 t, .int .u64 (key : Int), .int .u64 ro, .slice ao n cap]] (few20P t key ro X) w := by
  have hn : Hid (X.length = n) := h.1
  have hnc := h.2.1
  have hcm := h.2.2.1.1
  have hft := fun (W : World) (hk : Below w.heap.size w W) => rtfit_w (t := t) (ro := ro) (key := key) (qwz h hk) (fun hf x hx => w7z ((yBz hf).2.1 x hx)) hw
  have hzg : (prog.info? 25).map (·.size) = some (#[.int .i64 t, .int .u64 (key : Int), .int .u64 ro, .slice ao n cap] : Array Value).size := by kernel_rfl
  have c3 : (#[.int .i64 t, .int .u64 (key : Int), .int .u64 ro, .slice ao n cap] : Array Value)[3]? = some (.slice ao n cap) := rfl
  obtain ⟨D, hD⟩ : ∃ D : Array Value, D = #[.int .i64 t, .int .u64 (key : Int), .int .u64 ro, .slice ao n cap] := ⟨_, rfl⟩
  rw [← hD] at hft hzg c3
  rw [← hD]
  clear hD
  obtain ⟨fb, hfb⟩ : ∃ fb, Hid (fitD t key ro X = fb) := ⟨_, rfl⟩
  rw [hfb.out] at hft
  have ga3 := isAgg23
  unfold Asks
  by_cases h20 : n ≤ 24
  · have h20' : ¬ (24 : Int) < n := by omega
    go_enter func7, ntmps7
    go_wp2_with (first
      | (with_reducible refine qcz rfl 25 _ rfl D rfl ?_; intro B W0 hN0 hB kw)
      | (with_reducible refine qaz (by kernel_rfl) _ _ rfl B _ rfl _ _ hB _ c3 ga3 ?_))
    go_loopw [12] (fun i wr => ∃ k : Nat, k ≤ n ∧ i = .int .i64 k ∧ Hid (∀ j, j < k → fewO (oat X j)) ∧ Blk wr B D 25 ∧ Below w.heap.size w wr) (fun i _ => n - (intOf i).toNat)
    case atStart => exact ⟨0, Nat.zero_le _, rfl, fun j hj => absurd hj (by omega), hB, kw⟩
    case round =>
      clear hB kw
      obtain ⟨k, hk, rfl, hal, hB, hb⟩ := hrel
      have hbs := hb.size
      by_cases hkn : k < n
      · obtain ⟨b, off, C, rfl, hbb, hC, hr⟩ := w3z (qwz h hb) hkn
        have hkn' : (k : Int) < n := by omega
        have hz := hC.size
        obtain ⟨a2, n2, q2, c2, l2⟩ := hC.label
        obtain ⟨a5, n5, q5, c5, l5⟩ := hC.links
        obtain ⟨a6, n6, q6, c6, l6⟩ := hC.data
        obtain ⟨a7, n7, q7, c7, l7⟩ := hC.maps
        have m2 : Hid ((oat X k).label.length = n2) := l2.1
        have m5 : Hid ((oat X k).links.length = n5) := l5.1
        have m6 : Hid ((oat X k).data.length = n6) := l6.1
        have m7 : Hid ((oat X k).maps.length = n7) := l7.1
        have hone := hC.one
        clear l2 l5 l6 l7 hC hft
        go_wp2_with (first
          | (with_reducible refine qxz (by kernel_rfl) 55 _ rfl b _ rfl C hr _ underlying55 (by kernel_rfl) (qfz hz) ?_)
          | ((with_reducible refine qdz rfl _ rfl zC qsz ?_); intro R W1 hB1 hR1 hk1)
          | ((with_reducible refine qbz rfl _ _ _ rfl R rfl C rfl zC hR1 (qfz hz) (qoz.trans hz.symm) hone ?_); intro W2 hR2 o2; have k2 := o2.below wr.heap.size wr (by have := hB1.out.1; omega) hk1; have k3 := hb.trans (k2.mono hbs); have hB2 := hB.next k2)
          | (with_reducible refine qaz (by kernel_rfl) _ _ rfl R _ rfl _ _ hR2 _ c2 isAgg39 ?_)
          | (with_reducible refine qaz (by kernel_rfl) _ _ rfl R _ rfl _ _ hR2 _ c5 isAgg40 ?_)
          | (with_reducible refine qaz (by kernel_rfl) _ _ rfl R _ rfl _ _ hR2 _ c6 isAgg40 ?_)
          | (with_reducible refine qaz (by kernel_rfl) _ _ rfl R _ rfl _ _ hR2 _ c7 isAgg41 ?_)
          | ((with_reducible refine qgz (by kernel_rfl) .gtr 3 _ _ _ rfl (.int .i64 (n2 : Int)) _ rfl rfl (qLz _ _ _ _ _ _) ?_ ?_) <;> intro e2)
          | ((with_reducible refine qgz (by kernel_rfl) .gtr 3 _ _ _ rfl (.int .i64 (n5 : Int)) _ rfl rfl (qLz _ _ _ _ _ _) ?_ ?_) <;> intro e5)
          | ((with_reducible refine qgz (by kernel_rfl) .gtr 3 _ _ _ rfl (.int .i64 (n6 : Int)) _ rfl rfl (qLz _ _ _ _ _ _) ?_ ?_) <;> intro e6)
          | ((with_reducible refine qgz (by kernel_rfl) .gtr 3 _ _ _ rfl (.int .i64 (n7 : Int)) _ rfl rfl (qLz _ _ _ _ _ _) ?_ ?_) <;> intro e7))
        all_goals first
          | (go_ret
             refine qjz (Y := fewO (oat X k)) ?_ k3 (fun e => e.1.2 k (by rw [hn.out]; exact hkn))
             refine (?_ : ¬ fewO (oat X k))
             rintro ⟨f2, f5, f6, f7⟩
             rw [m2.out] at f2
             rw [m5.out] at f5
             rw [m6.out] at f6
             rw [m7.out] at f7
             simp only [Hid] at *
             omega)
          | (go_roundw
             case rel => exact ⟨k + 1, by omega, by go_num, wKz hal.out (by refine ⟨?_, ?_, ?_, ?_⟩ <;> first | (rw [m2.out]; have := e2.out; omega) | (rw [m5.out]; have := e5.out; omega) | (rw [m6.out]; have := e6.out; omega) | (rw [m7.out]; have := e7.out; omega)), hB2, k3⟩
             case measure => simp [intOf]; omega)
      · obtain rfl : k = n := by omega
        go_wp2_with (first
          | (with_reducible refine qhz (by kernel_rfl) 25 _ rfl B rfl D hB _ underlying25 (by kernel_rfl) hzg ?_)
          | (go_at_call 13; (with_reducible refine (hft _ hb).mono ?_); rintro e w2 ⟨rfl, hb2⟩))
        go_ret
        refine ⟨fb, rfl, ⟨fun e => ⟨⟨by rw [hn.out]; exact h20, fun i hi => hal.out i (by rw [hn.out] at hi; exact hi)⟩, by rw [hfb.out]; exact e⟩, fun e => hfb.out.symm.trans e.2⟩, btz hb hb2⟩
  · have h20' : (24 : Int) < n := by omega
    have hq : Hid (¬ n ≤ 24) := h20
    go_enter func7, ntmps7
    go_wp2_with (first
      | (with_reducible refine qcz rfl 25 _ rfl D rfl ?_; intro B W0 hN0 hB kw)
      | (with_reducible refine qaz (by kernel_rfl) _ _ rfl B _ rfl _ _ hB _ c3 ga3 ?_))
    go_ret
    exact qjz hq kw (fun e => by have := e.1.1; rw [hn.out] at this; exact this)
theorem ytz : ∀ args w, (callFunc 54 args).run prog w = .ok (.enter 54 args) w := enters_of func54 (by kernel_rfl) rfl
theorem vKz : ∀ args w, (callFunc 51 args).run prog w = .ok (.enter 51 args) w := enters_of func51 (by kernel_rfl) rfl
def nthN (x : Ob) (key a b : Nat) (A : List Int) (k1 k2 : Nat) : Ob := { nthO (labT x.th k1) (labT x.th k2) (A.getD 3 0) (A.getD 4 0) (A.getD 5 0) (A.getD 6 0) ((b - SrM.share a b : Nat) : Int) (b : Int) with id := ((Pm.nameN key a : Nat) : Int) }
def ThOk (X : List Ob) (x : Ob) (key a b : Nat) (A : List Int) (k1 k2 : Nat) : Prop := (k1 < 4 ∧ k2 < 4) ∧ 0 < SrM.share a b ∧ attE (puR X (spO x ((a + 1 : Nat) : Int) ((b - SrM.share a b : Nat) : Int))) (A.getD 0 0) (nthN x key a b A k1 k2) = 0
def thX (X : List Ob) (x : Ob) (key a b : Nat) (A : List Int) (k1 k2 : Nat) : List Ob := attX (puR X (spO x ((a + 1 : Nat) : Int) ((b - SrM.share a b : Nat) : Int))) (A.getD 0 0) (nthN x key a b A k1 k2)
theorem kdo_th {t ro i : Int} {key a b k1 k2 : Nat} {n cap : Nat} {A : List Int} (h : Obs w ao n cap X) (hL : Lays X) (hn : n < 1000) (hC : Ct X (fO X i) a b) (hA1 : A.getD 1 0 = (k1 : Int)) (hA2 : A.getD 2 0 = (k2 : Int)) :
  Calls prog 10 #[.agg #[.int .i64 t, .int .u64 (key : Int), .int .u64 ro, .slice ao n cap], .int .u64 i, .int .i64 16, .agg (argV A)] w fun e w' => ∃ V' v' k X3, e = .returned (.tuple #[.agg V', .int .u64 v', .int .i64 k, .bool true]) ∧ Wr w' V' t (key : Int) ro X3 ∧ Below w.heap.size w w' ∧ Kend (ThOk X (fO X i) key a b A k1 k2) True ((Pm.nameN key a : Nat) : Int) X (thX X (fO X i) key a b A k1 k2) v' k X3 :=
 kdo_v (x2 := spO (fO X i) ((a + 1 : Nat) : Int) ((b - SrM.share a b : Nat) : Int)) ytz (fun p w => kcall_16 p w) h hL.srt (by omega) (fun x hx => hL.sms x hx) hL.nul (fun {Z B T F W ao2 n2 cap2} hz => by
  have hn2 : n2 < 1000 := by have := hz.obs.1; have := h.1; omega
  refine (mkth_v hz ⟨hL, hn2, by have := hC.ll; omega, hC.sm⟩ (by have := hC.cl; omega) (fun k => by have := hC.lb k; omega) hA1 hA2 hC.fd hC.kw).mono ?_
  rintro e w' (⟨⟨q1, q2, _, q4⟩, r⟩ | r)
  ·exact .inl ⟨⟨q1, q2, q4⟩, r⟩
  ·exact .inr ⟨trivial, r⟩)
def thr20P (X : List Ob) (i : Int) : Prop := (fnd X i).isSome = true ∧ (fO X i).kind = 4
theorem voz {V : Array Value} {t ke ro : Int} (h : Wr w V t ke ro X) (i : Int) : Asks 8 #[.agg V, .int .u64 i] (thr20P X i) w := by
 have hzV : (prog.info? 25).map (·.size) = some V.size := by obtain ⟨_, _, _, rfl, _⟩ := h; kernel_rfl
 have hfd := fun {W : World} (hk : Below w.heap.size w W) => xbz (h.next hk) (i := i)
 unfold Asks
 cases hs : (fnd X i).isSome with
 | false =>
  simp only [hs] at hfd
  have hq : Hid (¬ (fnd X i).isSome = true) := by show ¬ _; rw [hs]; decide
  clear hs h
  go_enter func8, ntmps8
  go_wp2_with (first
   | go_skip
   | (with_reducible refine qcz rfl 25 _ rfl V rfl ?_; intro B W0 hN0 hB hk)
   | (with_reducible refine qhz (by kernel_rfl) 25 _ rfl B rfl V hB _ underlying25 (by kernel_rfl) hzV ?_)
   | (go_at_call 14; (with_reducible refine (hfd hk).mono ?_); rintro e w2 ⟨C, rfl, oC, hb2⟩; replace hk := btz hk hb2; have zC1 := oC.size; have oC1 := oC.one; have k1 := oC.kind; clear hfd)
   | ((with_reducible refine qdz rfl 55 rfl zC qsz ?_); intro R W4 hN4 hR hk4; have hRw := hN4.out.1; have hRg := hk.size; replace hk := btz hk hk4)
   | ((with_reducible refine qbz rfl _ _ _ rfl R rfl C rfl zC hR (qfz zC1) (qoz.trans zC1.symm) oC1 ?_); intro W5 hR5 q5; have k9 := q5.below w.heap.size w (by omega) hk)
   | (with_reducible refine qaz (by kernel_rfl) _ _ rfl R _ rfl _ _ hR5 _ k1 isAgg3 ?_))
  go_ret
  exact qjz hq k9 (fun e => e.1)
 | true =>
  simp only [hs] at hfd
  by_cases h4 : (fO X i).kind = 4
  ·have hq : Hid ((fnd X i).isSome = true) := hs
   have hq4 : Hid ((fO X i).kind = 4) := h4
   clear hs h4 h
   go_enter func8, ntmps8
   go_wp2_with (first
    | go_skip
    | (with_reducible refine qcz rfl 25 _ rfl V rfl ?_; intro B W0 hN0 hB hk)
    | (with_reducible refine qhz (by kernel_rfl) 25 _ rfl B rfl V hB _ underlying25 (by kernel_rfl) hzV ?_)
    | (go_at_call 14; (with_reducible refine (hfd hk).mono ?_); rintro e w2 ⟨C, rfl, oC, hb2⟩; replace hk := btz hk hb2; have zC1 := oC.size; have oC1 := oC.one; have k1 := oC.kind; rw [hq4.out] at k1; clear hfd)
    | ((with_reducible refine qdz rfl 55 rfl zC qsz ?_); intro R W4 hN4 hR hk4; have hRw := hN4.out.1; have hRg := hk.size; replace hk := btz hk hk4)
    | ((with_reducible refine qbz rfl _ _ _ rfl R rfl C rfl zC hR (qfz zC1) (qoz.trans zC1.symm) oC1 ?_); intro W5 hR5 q5; have k9 := q5.below w.heap.size w (by omega) hk)
    | (with_reducible refine qaz (by kernel_rfl) _ _ rfl R _ rfl _ _ hR5 _ k1 isAgg3 ?_))
   go_ret
   exact qpz ⟨hq.out, hq4.out⟩ k9
  ·have g1 : ((fO X i).kind == 4) = false := by rw [beq_eq_false_iff_ne]; exact h4
   have hq : Hid (¬ (fO X i).kind = 4) := h4
   clear hs h4 h
   go_enter func8, ntmps8
   go_wp2_with (first
    | go_skip
    | (with_reducible refine qcz rfl 25 _ rfl V rfl ?_; intro B W0 hN0 hB hk)
    | (with_reducible refine qhz (by kernel_rfl) 25 _ rfl B rfl V hB _ underlying25 (by kernel_rfl) hzV ?_)
    | (go_at_call 14; (with_reducible refine (hfd hk).mono ?_); rintro e w2 ⟨C, rfl, oC, hb2⟩; replace hk := btz hk hb2; have zC1 := oC.size; have oC1 := oC.one; have k1 := oC.kind; clear hfd)
    | ((with_reducible refine qdz rfl 55 rfl zC qsz ?_); intro R W4 hN4 hR hk4; have hRw := hN4.out.1; have hRg := hk.size; replace hk := btz hk hk4)
    | ((with_reducible refine qbz rfl _ _ _ rfl R rfl C rfl zC hR (qfz zC1) (qoz.trans zC1.symm) oC1 ?_); intro W5 hR5 q5; have k9 := q5.below w.heap.size w (by omega) hk)
    | (with_reducible refine qaz (by kernel_rfl) _ _ rfl R _ rfl _ _ hR5 _ k1 isAgg3 ?_))
   go_ret
   exact qjz hq k9 (fun e => e.2)
def kaT : Ob := ⟨1152921504606846977, 4, [], 1, false, [], [], [], { zTh with lo := 5, hi := 9 }, zGt, [], []⟩
def kaC : Ob := ⟨1152921504606846976, 2, [], 9, false, [1152921504606846977], [], [], zTh, zGt, [], []⟩
def kaX : List Ob := [kaC, kaT]
def kaA : List Int := [1152921504606846976, 0, 2, 3, 0, 0, 0]
def kaV : Int := ((Pm.nameN 3 5 : Nat) : Int)
def kaY : List Ob := atX kaX kaT 3 5 9 1152921504606846976 (nsO [] 2 3)
theorem blz : fitD 0 3 1152921504606846976 kaX = true := by decide +kernel
theorem ka_fo : fO kaX 1152921504606846977 = kaT := by kernel_rfl
theorem ka_fd : fnd kaX kaT.id = some kaT := by kernel_rfl
theorem ka_e1 : dirE kaX kaT.label 1152921504606846976 true = 0 := by decide +kernel
theorem ka_e2 : creB kaT (labT kaT.th ((0 : Nat) : Int)) = true := by decide +kernel
theorem ka_e3 : q9z { nsO (labT kaT.th ((0 : Nat) : Int)) 2 3 with id := 1 } = true := by decide +kernel
theorem ka_at : atN kaX kaT 3 5 9 1152921504606846976 (nsO (labT kaT.th ((0 : Nat) : Int)) 2 3) = 0 := by decide +kernel
theorem ka_is : (fnd kaY kaV).isSome = true := by decide +kernel
theorem ka_dt : (fO kaY kaV).data.length = 3 := by decide +kernel
theorem ka_ln : kaY.length = 3 := by decide +kernel
theorem ka_sm : Small kaT := (knz (vnz blz)).sms kaT (by simp [kaX])
variable {W : World}
theorem kdo_ka {cap : Nat} (h : Obs W ao 2 cap kaX) : Calls prog 10 #[.agg #[.int .i64 0, .int .u64 3, .int .u64 1152921504606846976, .slice ao 2 cap], .int .u64 1152921504606846977, .int .i64 13, .agg #[.int .u64 1152921504606846976, .int .u64 0, .int .u64 2, .int .u64 3, .int .u64 0, .int .u64 0, .int .u64 0]] W fun e w' => ∃ ao2 cap2, e = .returned (.tuple #[.agg #[.int .i64 0, .int .u64 3, .int .u64 1152921504606846976, .slice ao2 3 cap2], .int .u64 kaV, .int .i64 0, .bool true]) ∧ Obs w' ao2 3 cap2 kaY ∧ Below W.heap.size W w' := by
 have hL := knz (vnz blz)
 have := kdo_v (t := 0) (ke := ((3 : Nat) : Int)) (ro := 1152921504606846976) (i := 1152921504606846977) (A := kaA) (OK := True) (NO := False) (v := kaV) (x2 := spO kaT ((5 + 1 : Nat) : Int) ((9 : Nat) : Int)) (X2 := kaY) vKz (fun p w => kcall_13 p w) h hL.srt (by omega) (fun x hx => hL.sms x hx) hL.nul (fun {Z B T F W ao2 n2 cap2} hz => by
  rw [ka_fo] at hz
  have hn2 : n2 = 2 := hz.obs.1.symm
  refine (mkseg_ok (key := 3) (a := 5) (b := 9) (k := 0) (m := 3) (q := 2) hz ⟨hL, by omega, by decide, ka_sm⟩ ka_fd ⟨rfl, rfl, by decide, by decide⟩ (by decide) rfl (by decide) (by decide) rfl (by decide) (by decide) ⟨ka_e1, ka_e2, ka_e3⟩ (by decide) ka_at).mono ?_
  rintro e w' ⟨rfl, hK, hk⟩
  exact .inl ⟨trivial, rfl, hK, hk⟩)
 refine Calls.mono this ?_
 rintro e w' ⟨V', v', k, X3, rfl, ⟨ao3, n3, cap3, rfl, hO⟩, hb, (⟨_, rfl, rfl, rfl⟩ | ⟨q, _⟩)⟩
 ·obtain rfl : 3 = n3 := ka_ln.symm.trans hO.1
  exact ⟨ao3, cap3, rfl, hO, hb⟩
 ·exact q.elim
theorem kdo_kz {cap : Nat} (h : Obs W ao 2 cap kaX) : Calls prog 10 #[.agg #[.int .i64 0, .int .u64 3, .int .u64 1152921504606846976, .slice ao 2 cap], .int .u64 1152921504606846977, .int .i64 99, .agg #[.int .u64 0, .int .u64 0, .int .u64 0, .int .u64 0, .int .u64 0, .int .u64 0, .int .u64 0]] W fun e w' => ∃ V', V'.size = 4 ∧ V'.all (·.oneCell') = true ∧ e = .returned (.tuple #[.agg V', .int .u64 0, .int .i64 0, .bool false]) ∧ Below W.heap.size W w' := by
 have hL := knz (vnz blz)
 exact kdo_99 (t := 0) (ke := 3) (ro := 1152921504606846976) (i := 1152921504606846977) (A := []) h hL.srt (by omega) (fun x hx => hL.sms x hx) hL.nul
def kaTh : Array Value := #[.int .u64 0, .int .u64 0, .int .u64 0, .int .u64 0, .int .u64 0, .int .u64 0, .int .u64 0, .int .u64 0, .int .u64 0, .int .u64 0, .int .u64 0, .int .u64 0, .int .u64 0, .int .u64 0, .int .u64 0, .int .u64 0, .int .u64 0, .slice none 0 0, .int .u64 0, .int .u64 0, .int .u64 0, .int .u64 0, .int .i64 0, .int .u64 0, .int .u64 0, .int .u64 0, .int .u64 0, .bool false, .slice none 0 0, .int .u64 5, .int .u64 9, .slice none 0 0, .slice none 0 0, .slice none 0 0, .slice none 0 0]
def kaOb : Array Value := #[.int .u64 1152921504606846977, .int .i64 4, .slice none 0 0, .int .i64 1, .bool false, .slice none 0 0, .slice none 0 0, .slice none 0 0, .int .u64 0, .int .u64 0, .int .u64 0, .int .u64 0, .int .u64 0, .int .u64 0, .int .u64 0, .int .u64 0, .int .u64 0, .int .u64 0, .int .u64 0, .int .u64 0, .int .u64 0, .int .u64 0, .int .u64 0, .int .u64 0, .int .u64 0, .slice none 0 0, .int .u64 0, .int .u64 0, .int .u64 0, .int .u64 0, .int .i64 0, .int .u64 0, .int .u64 0, .int .u64 0, .int .u64 0, .bool false, .slice none 0 0, .int .u64 5, .int .u64 9, .slice none 0 0, .slice none 0 0, .slice none 0 0, .slice none 0 0, .slice none 0 0, .slice none 0 0, .int .u64 0, .int .u64 0, .int .u64 0, .int .u64 0, .slice none 0 0, .slice none 0 0]
theorem xUz : kaOb.size = 51 := rfl
theorem kaOb_one : kaOb.all (·.oneCell') = true := by kernel_rfl
theorem ka_td (D : Nat → Prop) (w : World) : ObD D w kaOb kaT := by
 refine ⟨rfl, by kernel_rfl, rfl, rfl, LbV.zero _ _, rfl, rfl, CtV.zero _ _, CtV.zero _ _, MpV.zero _ _, ?_, ?_, CtV.zero _ _, CtV.zero _ _⟩
 ·refine ⟨rfl, fun j hj => ?_, rfl, LbV.zero _ _, rfl, rfl, rfl, rfl, rfl, rfl, rfl, rfl, rfl, rfl, CtV.zero _ _, rfl, rfl, LbV.zero _ _, LbV.zero _ _, LbV.zero _ _, LbV.zero _ _⟩
  match j, hj with
  | 0, _ => rfl
  | 1, _ => rfl
  | 2, _ => rfl
  | 3, _ => rfl
  | 4, _ => rfl
  | 5, _ => rfl
  | 6, _ => rfl
  | 7, _ => rfl
  | 8, _ => rfl
  | 9, _ => rfl
  | 10, _ => rfl
  | 11, _ => rfl
  | 12, _ => rfl
  | 13, _ => rfl
  | 14, _ => rfl
  | 15, _ => rfl
  | j + 16, q => exact absurd q (by omega)
 ·exact ⟨LbV.zero _ _, LbV.zero _ _, rfl, rfl, rfl, rfl⟩
def kaCo (g : Nat) : Array Value := #[.int .u64 1152921504606846976, .int .i64 2, .slice none 0 0, .int .i64 9, .bool false, .slice (some ⟨g, 0, none⟩) 1 1, .slice none 0 0, .slice none 0 0, .int .u64 0, .int .u64 0, .int .u64 0, .int .u64 0, .int .u64 0, .int .u64 0, .int .u64 0, .int .u64 0, .int .u64 0, .int .u64 0, .int .u64 0, .int .u64 0, .int .u64 0, .int .u64 0, .int .u64 0, .int .u64 0, .int .u64 0, .slice none 0 0, .int .u64 0, .int .u64 0, .int .u64 0, .int .u64 0, .int .i64 0, .int .u64 0, .int .u64 0, .int .u64 0, .int .u64 0, .bool false, .slice none 0 0, .int .u64 0, .int .u64 0, .slice none 0 0, .slice none 0 0, .slice none 0 0, .slice none 0 0, .slice none 0 0, .slice none 0 0, .int .u64 0, .int .u64 0, .int .u64 0, .int .u64 0, .slice none 0 0, .slice none 0 0]
theorem bmz (g : Nat) : (kaCo g).size = 51 := by kernel_rfl
theorem ka_fst (g : Nat) : (kaCo g ++ kaOb).extract 0 (0 + 51) = kaCo g := by kernel_rfl
theorem ka_snd (g : Nat) : (kaCo g ++ kaOb).extract 51 (51 + 51) = kaOb := by kernel_rfl
theorem kun_bs2 {C D : Array Value} (hz : C.size = 51) (hy : D.size = 51) (w : World) : (Instr.buildSlice 23 2 #[(0, .agg C), (1, .agg D)]).run prog w = .ok (.slice (some ⟨w.heap.size, 0, none⟩) 2 2) (w.alloc (.cells (C ++ D) 55)) := by
 obtain ⟨i0, hi, hz0, hz1, hz2⟩ := info_parts infoO
 refine run_buildSlice w _ _ 2 _ (C ++ D) i0 _ underlying23 hi hz0 (by rw [hz1]; omega) (by rw [hz1]; omega) ?_
 rw [hz1, show C ++ D = (C.toList ++ D.toList).toArray by simp]
 have := Great.fill_whole (s := 51) (by omega) [.agg C, .agg D] ((Array.range (2 * 51)).map ((Value.agg zC).cells[· % (Value.agg zC).cells.size]!)) (by simp [Value.cells, hz, hy]) (by simp)
 simpa [Value.cells] using this
theorem uXz {ops : Array Oper} {Q : Exit → Act → World → Prop} {a : Act} {op : Oper} {rest : List Oper} (hgd : op.guard = none) (x y : Operand) (ho : op.op = .buildSlice 23 2 #[(0, x), (1, y)]) (C D : Array Value) (hx : a.eval x = .agg C) (hx2 : a.eval y = .agg D) (hz : C.size = 51) (hy : D.size = 51)
  (h : ∀ B W, Hid (w.heap.size = B ∧ W.heap.size = B + 1) → Blk W B (C ++ D) 55 → Below w.heap.size w W → wpList prog ops Q rest (a.put op.dst (.slice (some ⟨B, 0, none⟩) 2 2)) W) : wpList prog ops Q (op :: rest) a w :=
 wpList_plain hgd fun K hK => by
  have e : (#[(0, x), (1, y)].map fun ((i : Nat), x) => (i, a.eval x)) = #[(0, Value.agg C), (1, Value.agg D)] := by simp [hx, hx2]
  unfold Oper.wp execOp
  simp only [ho, e, Sem.run_bind, kun_bs2 hz hy, Result.andThen_ok]
  exact hK _ _ (h _ _ ⟨rfl, by simp⟩ (Blk.new w (C ++ D) 55) ((brz _ w).alloc (lrz _) _))
theorem ka_obs {B g : Nat} (h : Blk W B (kaCo g ++ kaOb) 55) (hg : Blk W g #[.int .u64 1152921504606846977] 22) : Obs W (some ⟨B, 0, none⟩) 2 2 kaX := by
 have hE : ObD (LtN W) W (kaCo g) kaC := by
  refine ⟨rfl, by kernel_rfl, rfl, rfl, LbV.zero _ _, rfl, rfl, ⟨some ⟨g, 0, none⟩, 1, 1, rfl, rfl, lrz _, ⟨by omega, fun e => by cases e⟩, fun _ => ⟨g, 0, rfl, hg.lt, fun i hi => by
   obtain rfl : i = 0 := by omega
   exact hg.cell 0⟩⟩, CtV.zero _ _, MpV.zero _ _, ?_, ?_, CtV.zero _ _, CtV.zero _ _⟩
  ·refine ⟨rfl, fun j hj => ?_, rfl, LbV.zero _ _, rfl, rfl, rfl, rfl, rfl, rfl, rfl, rfl, rfl, rfl, CtV.zero _ _, rfl, rfl, LbV.zero _ _, LbV.zero _ _, LbV.zero _ _, LbV.zero _ _⟩
   match j, hj with
   | 0, _ => rfl
   | 1, _ => rfl
   | 2, _ => rfl
   | 3, _ => rfl
   | 4, _ => rfl
   | 5, _ => rfl
   | 6, _ => rfl
   | 7, _ => rfl
   | 8, _ => rfl
   | 9, _ => rfl
   | 10, _ => rfl
   | 11, _ => rfl
   | 12, _ => rfl
   | 13, _ => rfl
   | 14, _ => rfl
   | 15, _ => rfl
   | j + 16, q => exact absurd q (by omega)
  ·exact ⟨LbV.zero _ _, LbV.zero _ _, rfl, rfl, rfl, rfl⟩
 have hS : ObD (LtN W) W kaOb kaT := ka_td _ W
 refine ⟨rfl, lrz _, ⟨by omega, fun e => by cases e⟩, fun _ => ⟨B, 0, rfl, h.lt, fun i hi => ?_⟩⟩
 match i, hi with
 | 0, _ =>
  refine ⟨_, hE, ?_⟩
  have := h.range 0 51
  rw [ka_fst] at this
  exact this
 | 1, _ =>
  refine ⟨_, hS, ?_⟩
  have := h.range 51 51
  rw [ka_snd] at this
  exact this
theorem w0z (w : World) : Calls prog 9 #[] w fun e w' => e = .returned (.bool true) ∧ Below w.heap.size w w' := by
 have hz2 : ∀ v, (prog.info? 25).map (·.size) = some (#[.int .i64 0, .int .u64 3, .int .u64 1152921504606846976, v] : Array Value).size := fun _ => q0z
 have hs2 : ∀ v, zW.size = (#[.int .i64 0, .int .u64 3, .int .u64 1152921504606846976, v] : Array Value).size := fun _ => rfl
 have h12 : ∀ ao n cap, (#[.int .i64 0, .int .u64 3, .int .u64 1152921504606846976, .slice ao n cap] : Array Value).all (·.oneCell') = true := fun _ _ _ => by kernel_rfl
 have ga3 := isAgg23
 have ga1 := isAgg22
 have ga6 := isAgg40
 have k0 : kaOb[0]? = some (.int .u64 1152921504606846977) := rfl
 have hk := brz w.heap.size w
 go_enter func9, ntmps9
 go_upto_region 4 with (first
  | go_skip
  | ((with_reducible refine qTz (by kernel_rfl) 25 [(1, .const (.int .u64 3)), (2, .const (.int .u64 1152921504606846976))] rfl #[.int .i64 0, .int .u64 3, .int .u64 1152921504606846976, .slice none 0 0] ?hf ?_); (case hf => kernel_rfl))
  | ((with_reducible refine qdz rfl 25 rfl zW wyz ?_); intro P W1 hN1 hPa hk1; replace hk := btz hk hk1)
  | ((with_reducible refine qbz rfl _ _ _ rfl P rfl #[.int .i64 0, .int .u64 3, .int .u64 1152921504606846976, .slice none 0 0] rfl zW hPa (hz2 _) (hs2 _) (h12 _ _ _) ?_); intro V1 hP q1; replace hk := q1.below _ _ (by have := hN1.out; omega) hk)
  | ((with_reducible refine qTz (by kernel_rfl) 48 [(0, .const (.int .u64 5)), (1, .const (.int .u64 9))] rfl #[.int .u64 5, .int .u64 9] ?hf ?_); (case hf => kernel_rfl))
  | ((with_reducible refine qTz (by kernel_rfl) 51 [(9, .tmp 14)] rfl kaTh ?hf ?_); (case hf => kernel_rfl))
  | ((with_reducible refine qTz (by kernel_rfl) 55 [(0, .const (.int .u64 1152921504606846977)), (1, .const (.int .i64 4)), (3, .const (.int .i64 1)), (8, .tmp 15)] rfl kaOb ?hf ?_); (case hf => kernel_rfl))
  | ((with_reducible refine qdz rfl 55 rfl zC qsz ?_); intro R W2 hN2 hRa hk2; have hRw := hN2.out.1; have hRg := hk.size; replace hP := hP.next hk2; replace hk := btz hk hk2)
  | ((with_reducible refine qbz rfl _ _ _ rfl R rfl kaOb rfl zC hRa (qfz xUz) (qoz.trans xUz.symm) kaOb_one ?_); intro V2 hR q2; replace hP := hP.other q2 (by have := hN1.out; have := q1.size; omega); replace hk := q2.below _ _ (by omega) hk)
  | (with_reducible refine qaz (by kernel_rfl) _ _ rfl R _ rfl _ _ hR _ k0 ga1 ?_)
  | ((with_reducible refine xZz rfl _ rfl 1152921504606846977 rfl ?_); intro g W3 hN3 hg hk3; replace hP := hP.next hk3; replace hR := hR.next hk3; replace hk := btz hk hk3)
  | ((with_reducible refine qTz (by kernel_rfl) 55 [(0, .const (.int .u64 1152921504606846976)), (1, .const (.int .i64 2)), (3, .const (.int .i64 9)), (5, .tmp 19)] rfl (kaCo g) ?hf ?_); (case hf => kernel_rfl))
  | (with_reducible refine qhz (by kernel_rfl) 55 _ rfl R rfl kaOb hR _ underlying55 (by kernel_rfl) (qfz xUz) ?_)
  | ((with_reducible refine uXz rfl _ _ rfl (kaCo g) kaOb rfl rfl (bmz g) xUz ?_); intro B W4 hN4 hB hk4; replace hP := hP.next hk4; replace hR := hR.next hk4; replace hg := hg.next hk4; have hBw := hN4.out.1; have hgw := hN3.out; replace hk := btz hk hk4)
  | ((with_reducible refine qiz rfl 23 _ _ rfl P 3 rfl (.slice (some ⟨B, 0, none⟩) 2 2) rfl rfl #[.int .i64 0, .int .u64 3, .int .u64 1152921504606846976, .slice none 0 0] _ hP (by kernel_rfl) (by decide) rfl ?_); intro V4 hP4 q4; have hOb := ka_obs (hB.other q4 (by have := hP.lt; have := hk4.size; have := hN1.out; have := hN2.out; have := q1.size; have := q2.size; omega)) (hg.other q4 (by have := hN1.out; have := hN2.out; have := q1.size; have := q2.size; omega)); replace hR := hR.other q4 (by have := hN1.out; have := q1.size; omega); replace hk := q4.below _ _ (by have := hN1.out; omega) hk))
 clear hN1 hN2 hN3 hN4 hPa hRa hk1 hk2 hk3 hk4 q1 q2 q4 hg hB hP hRw hRg hBw hgw
 replace hP4 : Blk V4 P #[.int .i64 0, .int .u64 3, .int .u64 1152921504606846976, .slice (some ⟨B, 0, none⟩) 2 2] 25 := hP4
 have hd13 := fun {W : World} (k : Below V4.heap.size V4 W) => kdo_ka (qwz hOb k)
 have hd99 := fun {W : World} (k : Below V4.heap.size V4 W) => kdo_kz (qwz hOb k)
 have h4 := brz V4.heap.size V4
 have hPl := hP4.lt
 have hRl := hR.lt
 clear hOb
 go_upto_region 5 with (first
  | go_skip
  | (with_reducible refine qhz (by kernel_rfl) 25 _ rfl P rfl #[.int .i64 0, .int .u64 3, .int .u64 1152921504606846976, .slice (some ⟨B, 0, none⟩) 2 2] hP4 _ underlying25 (by kernel_rfl) (hz2 _) ?_)
  | (with_reducible refine qaz (by kernel_rfl) _ _ rfl R _ rfl _ _ hR _ k0 ga1 ?_)
  | ((with_reducible refine qTz (by kernel_rfl) 27 [(0, .const (.int .u64 1152921504606846976)), (1, .const (.int .u64 0)), (2, .const (.int .u64 2)), (3, .const (.int .u64 3))] rfl #[.int .u64 1152921504606846976, .int .u64 0, .int .u64 2, .int .u64 3, .int .u64 0, .int .u64 0, .int .u64 0] ?hf ?_); (case hf => kernel_rfl))
  | (go_at_call 10; (with_reducible refine (hd13 h4).mono ?_); rintro e w5 ⟨ao5, cap5, rfl, hO5, hb5⟩; replace hP4 := hP4.next hb5; replace hR := hR.next hb5; replace hk := btz hk hb5; replace h4 := btz h4 hb5)
  | ((with_reducible refine qdz rfl 25 rfl zW wyz ?_); intro P5 W6 hN6 hP5a hk6; have h6w := hN6.out.1; have h6g := hk.size; have h6h := h4.size; replace hP4 := hP4.next hk6; replace hR := hR.next hk6; replace hk := btz hk hk6; replace h4 := btz h4 hk6)
  | ((with_reducible refine qbz rfl _ _ _ rfl P5 rfl #[.int .i64 0, .int .u64 3, .int .u64 1152921504606846976, .slice ao5 3 cap5] rfl zW hP5a (hz2 _) (hs2 _) (h12 _ _ _) ?_); intro V6 hP5 q6))
 have b56 : Below w5.heap.size w5 V6 := q6.below _ _ (by omega) hk6
 replace hO5 := qwz hO5 b56
 replace hk : Below w.heap.size w V6 := q6.below _ _ (by omega) hk
 replace h4 : Below V4.heap.size V4 V6 := q6.below _ _ (by omega) h4
 replace hP4 := hP4.other q6 (by omega)
 replace hR := hR.other q6 (by omega)
 clear hd13 hN6 hP5a hk6 q6 b56
 go_upto_region 6 with (first
  | go_skip
  | (with_reducible refine qhz (by kernel_rfl) 25 _ rfl P rfl #[.int .i64 0, .int .u64 3, .int .u64 1152921504606846976, .slice (some ⟨B, 0, none⟩) 2 2] hP4 _ underlying25 (by kernel_rfl) (hz2 _) ?_)
  | (with_reducible refine qaz (by kernel_rfl) _ _ rfl R _ rfl _ _ hR _ k0 ga1 ?_)
  | ((with_reducible refine qTz (by kernel_rfl) 27 [] rfl #[.int .u64 0, .int .u64 0, .int .u64 0, .int .u64 0, .int .u64 0, .int .u64 0, .int .u64 0] ?hf ?_); (case hf => kernel_rfl))
  | (go_at_call 10; (with_reducible refine (hd99 h4).mono ?_); rintro e w7 ⟨V7, zV7, oV7, rfl, hb7⟩; replace hP5 := hP5.next hb7; replace hO5 := qwz hO5 hb7; replace hk := btz hk hb7; have sV7 : zW.size = V7.size := (by rw [zV7]; rfl); have iV7 : (prog.info? 25).map (·.size) = some V7.size := (by rw [zV7]; exact q0z))
  | ((with_reducible refine qdz rfl 25 rfl zW wyz ?_); intro P7 W8 hN8 hP7a hk8; have h8w := hN8.out.1; have h8g := hk.size; have h8l := hP5.lt; replace hP5 := hP5.next hk8; replace hk := btz hk hk8)
  | ((with_reducible refine qbz rfl _ _ _ rfl P7 rfl V7 rfl zW hP7a iV7 sV7 oV7 ?_); intro V8 hP7 q8))
 have b78 : Below w7.heap.size w7 V8 := q8.below _ _ (by omega) hk8
 replace hO5 := qwz hO5 b78
 replace hk : Below w.heap.size w V8 := q8.below _ _ (by omega) hk
 replace hP5 := hP5.other q8 (by omega)
 clear hd99 hN8 hP7a hk8 q8 b78 hP7 hP4 hR
 have hfd := xbz (ke := 3) (t := 0) (ro := 1152921504606846976) (i := kaV) (⟨ao5, 3, cap5, rfl, hO5⟩ : Wr V8 #[.int .i64 0, .int .u64 3, .int .u64 1152921504606846976, .slice ao5 3 cap5] 0 3 1152921504606846976 kaY)
 rw [ka_is] at hfd
 have e3 : (#[.int .i64 0, .int .u64 3, .int .u64 1152921504606846976, .slice ao5 3 cap5] : Array Value)[3]? = some (.slice ao5 3 cap5) := rfl
 go_wp2_with (first
  | go_skip
  | (with_reducible refine qhz (by kernel_rfl) 25 _ rfl P5 rfl #[.int .i64 0, .int .u64 3, .int .u64 1152921504606846976, .slice ao5 3 cap5] hP5 _ underlying25 (by kernel_rfl) (hz2 _) ?_)
  | (go_at_call 14; (with_reducible refine hfd.mono ?_); rintro e w9 ⟨C, rfl, oC, hb9⟩; replace hP5 := hP5.next hb9; replace hk := btz hk hb9; have zC1 := oC.size; have oC1 := oC.one; obtain ⟨a6, n6, q6, c6, l6⟩ := oC.data; have hn6 : 3 = n6 := (ka_dt.symm.trans l6.1); subst hn6; clear l6 oC)
  | ((with_reducible refine qdz rfl 55 rfl zC qsz ?_); intro RR W10 hN10 hRR hk10; have h10w := hN10.out.1; have h10g := hk.size; have h10l := hP5.lt; replace hP5 := hP5.next hk10; replace hk := btz hk hk10)
  | ((with_reducible refine qbz rfl _ _ _ rfl RR rfl C rfl zC hRR (qfz zC1) (qoz.trans zC1.symm) oC1 ?_); intro V10 hRR5 q10; replace hP5 := hP5.other q10 (by omega); replace hk := q10.below _ _ (by omega) hk)
  | (with_reducible refine qaz (by kernel_rfl) _ _ rfl RR _ rfl _ _ hRR5 _ c6 ga6 ?_)
  | (with_reducible refine qaz (by kernel_rfl) _ _ rfl P5 _ rfl _ _ hP5 _ e3 ga3 ?_))
 go_ret
 exact ⟨rfl, hk⟩
theorem two_at {C : Array Value} {o : Nat} {u v : Value} (hu : C[o]? = some u) (hv : C[o + 1]? = some v) : C.extract o (o + 2) = #[u, v] := by
 have hs : o + 1 < C.size := (Array.getElem?_eq_some_iff.1 hv).1
 apply Array.ext_getElem?
 intro i
 match i with
 | 0 => rw [q1z (by omega) (by omega)]; exact hu
 | 1 => rw [q1z (by omega) (by omega)]; exact hv
 | i + 2 => rw [Array.getElem?_eq_none (by simp; omega), Array.getElem?_eq_none (by simp)]
theorem kHz {B o : Nat} {C : Array Value} {t : TypeId} {u v : Value} (h : Blk W B C t) (hu : C[o]? = some u) (hv : C[o + 1]? = some v) : W.rangeAt B o #[u, v].toList := by
 have := h.range o 2
 rw [two_at hu hv] at this
 exact this
theorem ob_ia4 {S : World → Prop} {b o i : Nat} (hi : i < 4) : Obl.holds prog S (.ia 49 (.pointer (some ⟨b, o, none⟩)) (.int .u64 (i : Int)) (.pointer (some ⟨b, o + i, none⟩))) := fun w hS => gCz hi w
theorem g5z {S : World → Prop} {x y : Operand} {k : Nat} (h : k < 4) : Obl.holds prog S (.test .and 22 x y (.int .u64 (k : Int)) (.int .u64 3) (.int .u64 (k : Int))) := fun w hS => by
 match k, h with
 | 0, _ => go_simp; rfl
 | 1, _ => go_simp; rfl
 | 2, _ => go_simp; rfl
 | 3, _ => go_simp; rfl
 | k + 4, q => exact absurd q (by omega)
theorem sizeR2 (u v : Value) : (prog.info? 44).map (·.size) = some (#[u, v] : Array Value).size := by kernel_rfl
end
end Go.Proofs.YtloghnpfplljgaaGreat
