/-
 PROVED HERE: DEFINED AND PROVED HERE: instructions as rows of integers: which parts an operation uses, which are fit, their. What is asked stands at each.
-/
import Derived.Test.YtdeddhojjolihaaGreatRows
import Derived.WalkKit
import Derived.ProofKit
import Derived.OpenShut
import Derived.Below
import Derived.Laws.BitsAllLaws
import Derived.Test.YtdeddhojjolihaaGreatZ32
import Derived.Test.YtdeddhojjolihaaGreatZ38
namespace Go.Proofs.YtdeddhojjolihaaGreat
set_option maxRecDepth 100000
set_option maxHeartbeats 8000000
set_option linter.unusedVariables false
section
namespace Ins
def shp (op : Int) : List UInt8 :=
 if op = 1 ∨ op = 2 ∨ op = 19 ∨ op = 20 ∨ op = 21 then [97, 105]
 else if op = 3 then [97, 98]
 else if op = 4 ∨ op = 5 ∨ op = 6 ∨ op = 7 ∨ op = 8 ∨ op = 9 ∨ op = 10 ∨ op = 11 ∨ op = 12 ∨ op = 13 ∨ op = 15 ∨ op = 16 ∨ op = 17 then [97, 98, 99]
 else if op = 14 ∨ op = 23 ∨ op = 24 then [97, 98, 105]
 else if op = 18 ∨ op = 25 then [105]
 else if op = 22 then [97]
 else []
def shS (op : Int) : ByteArray := ⟨(shp op).toArray⟩
theorem shp_cases (op : Int) : shp op = [97, 105] ∨ shp op = [97, 98] ∨ shp op = [97, 98, 99] ∨ shp op = [97, 98, 105] ∨ shp op = [105] ∨ shp op = [97] ∨ shp op = [] := by
 unfold shp
 repeat' split
 all_goals simp
def us (op : Int) (c : UInt8) : Bool := (shp op).contains c
def rg (n : Int) (u : Bool) : Bool := n == 0 || (u && decide (0 < n) && decide (n < 16))
def opB (op : Int) : Bool := decide (0 ≤ op) && decide (op < 26)
def fitB (op a b c i : Int) : Bool := opB op && rg a (us op 97) && rg b (us op 98) && rg c (us op 99) && (i == 0 || us op 105)
def encI (op a b c i : Int) : Int := op + a * 256 + b * 4096 + c * 65536 + (i % 4294967296) * 4294967296
def wordI (op a b c i : Int) : Int := if fitB op a b c i then encI op a b c i else 0
def fOp (w : Int) : Int := w % 256
def fA (w : Int) : Int := w / 256 % 16
def fB (w : Int) : Int := w / 4096 % 16
def fC (w : Int) : Int := w / 65536 % 16
def fI (w : Int) : Int := if w / 4294967296 < 2147483648 then w / 4294967296 else w / 4294967296 - 4294967296
def fitW (w : Int) : Bool := fitB (fOp w) (fA w) (fB w) (fC w) (fI w)
def decB (w : Int) : Bool := fitW w && decide (w / 1048576 % 4096 = 0)
theorem kvz {n : Int} {u : Bool} (h : rg n u = true) : 0 ≤ n ∧ n < 16 := by
 unfold rg at h
 simp at h
 omega
theorem fit_bounds {op a b c i : Int} (h : fitB op a b c i = true) : (0 ≤ op ∧ op < 26) ∧ (0 ≤ a ∧ a < 16) ∧ (0 ≤ b ∧ b < 16) ∧ (0 ≤ c ∧ c < 16) := by
 simp only [fitB, opB, Bool.and_eq_true, decide_eq_true_eq] at h
 exact ⟨h.1.1.1.1, kvz h.1.1.1.2, kvz h.1.1.2, kvz h.1.2⟩
variable {w : Int}
theorem fI_mod (h0 : 0 ≤ w) (h1 : w < 18446744073709551616) : fI w % 4294967296 = w / 4294967296 := by
 unfold fI; split <;> omega
theorem yKz (h0 : 0 ≤ w) (h1 : w < 18446744073709551616) : encI (fOp w) (fA w) (fB w) (fC w) (fI w) + w / 1048576 % 4096 * 1048576 = w := by
 unfold encI fOp fA fB fC
 rw [fI_mod h0 h1]
 omega
theorem enc_iff (h0 : 0 ≤ w) (h1 : w < 18446744073709551616) : encI (fOp w) (fA w) (fB w) (fC w) (fI w) = w ↔ w / 1048576 % 4096 = 0 := by
 have := yKz h0 h1
 omega
theorem fields_bounds (h0 : 0 ≤ w) (h1 : w < 18446744073709551616) : (0 ≤ fOp w ∧ fOp w < 256) ∧ (0 ≤ fA w ∧ fA w < 16) ∧ (0 ≤ fB w ∧ fB w < 16) ∧ (0 ≤ fC w ∧ fC w < 16) ∧ (-2147483648 ≤ fI w ∧ fI w < 2147483648) := by
 unfold fOp fA fB fC fI
 refine ⟨by omega, by omega, by omega, by omega, ?_⟩
 split <;> omega
end Ins
end
section
open Go.ChangeShapes Go.WideShapes Go.ChangeAt Go.RowKit
namespace Al
def addN (b c : Nat) : Nat := (b + c) % 18446744073709551616
def subN (b c : Nat) : Nat := (b + (18446744073709551616 - c)) % 18446744073709551616
def mulN (b c : Nat) : Nat := b * c % 18446744073709551616
def quoN (b c : Nat) : Nat := if c = 0 then 18446744073709551615 else b / c
def remN (b c : Nat) : Nat := b % c
def andN (b c : Nat) : Nat := b &&& c
def orN (b c : Nat) : Nat := b ||| c
def xorN (b c : Nat) : Nat := b ^^^ c
def shlN (b c : Nat) : Nat := b * 2 ^ (c % 64) % 18446744073709551616
def shrN (b c : Nat) : Nat := b / 2 ^ (c % 64)
def eqN (b c : Nat) : Nat := if b = c then 1 else 0
def ltuN (b c : Nat) : Nat := if b < c then 1 else 0
def upN (b : Nat) : Nat := (b + 9223372036854775808) % 18446744073709551616
def ltsN (b c : Nat) : Nat := if upN b < upN c then 1 else 0
def movhN (a : Nat) (i : Int) : Nat := a % 4294967296 + (i % 4294967296).toNat * 4294967296
def extN (i : Int) : Nat := (i % 18446744073709551616).toNat
def doN (op : Int) (b c : Nat) : Nat :=
 if op = 4 then addN b c else if op = 5 then subN b c else if op = 6 then mulN b c else if op = 7 then quoN b c else if op = 8 then remN b c
 else if op = 9 then andN b c else if op = 10 then orN b c else if op = 11 then xorN b c else if op = 12 then shlN b c else if op = 13 then shrN b c
 else if op = 15 then eqN b c else if op = 16 then ltuN b c else if op = 17 then ltsN b c else 0
def okB (op : Int) : Bool := (decide (4 ≤ op) && decide (op ≤ 13)) || (decide (15 ≤ op) && decide (op ≤ 17))
abbrev W (b : Nat) : Prop := b < 18446744073709551616
theorem add_lt (b c : Nat) : W (addN b c) := Nat.mod_lt _ (by omega)
theorem sub_lt (b c : Nat) : W (subN b c) := Nat.mod_lt _ (by omega)
theorem mul_lt (b c : Nat) : W (mulN b c) := Nat.mod_lt _ (by omega)
theorem shl_lt (b c : Nat) : W (shlN b c) := Nat.mod_lt _ (by omega)
theorem quo_lt {b : Nat} (hb : W b) (c : Nat) : W (quoN b c) := by
 unfold quoN; split
 ·show _ < _; omega
 ·exact Nat.lt_of_le_of_lt (Nat.div_le_self _ _) hb
theorem shr_lt {b : Nat} (hb : W b) (c : Nat) : W (shrN b c) := Nat.lt_of_le_of_lt (Nat.div_le_self _ _) hb
theorem rem_lt {b : Nat} (hb : W b) (c : Nat) : W (remN b c) := Nat.lt_of_le_of_lt (Nat.mod_le _ _) hb
variable {b c : Nat}
theorem and_lt (hb : W b) (hc : W c) : W (andN b c) := Nat.lt_of_le_of_lt Nat.and_le_left hb
theorem or_lt (hb : W b) (hc : W c) : W (orN b c) := Nat.or_lt_two_pow (n := 64) hb hc
theorem xor_lt (hb : W b) (hc : W c) : W (xorN b c) := Nat.xor_lt_two_pow (n := 64) hb hc
theorem eq_lt (b c : Nat) : W (eqN b c) := by unfold eqN; split <;> (show _ < _; omega)
theorem ltu_lt (b c : Nat) : W (ltuN b c) := by unfold ltuN; split <;> (show _ < _; omega)
theorem lts_lt (b c : Nat) : W (ltsN b c) := by unfold ltsN; split <;> (show _ < _; omega)
theorem do4 (b c : Nat) : doN 4 b c = addN b c := by unfold doN; simp
theorem do5 (b c : Nat) : doN 5 b c = subN b c := by unfold doN; simp
theorem do6 (b c : Nat) : doN 6 b c = mulN b c := by unfold doN; simp
theorem do7 (b c : Nat) : doN 7 b c = quoN b c := by unfold doN; simp
theorem do8 (b c : Nat) : doN 8 b c = remN b c := by unfold doN; simp
theorem do9 (b c : Nat) : doN 9 b c = andN b c := by unfold doN; simp
theorem do10 (b c : Nat) : doN 10 b c = orN b c := by unfold doN; simp
theorem do11 (b c : Nat) : doN 11 b c = xorN b c := by unfold doN; simp
theorem do12 (b c : Nat) : doN 12 b c = shlN b c := by unfold doN; simp
theorem do13 (b c : Nat) : doN 13 b c = shrN b c := by unfold doN; simp
theorem do15 (b c : Nat) : doN 15 b c = eqN b c := by unfold doN; simp
theorem do16 (b c : Nat) : doN 16 b c = ltuN b c := by unfold doN; simp
theorem do17 (b c : Nat) : doN 17 b c = ltsN b c := by unfold doN; simp
theorem do_lt (op : Int) (hb : W b) (hc : W c) : W (doN op b c) := by
 by_cases h4 : op = 4
 ·subst h4; rw [do4]; exact add_lt _ _
 by_cases h5 : op = 5
 ·subst h5; rw [do5]; exact sub_lt _ _
 by_cases h6 : op = 6
 ·subst h6; rw [do6]; exact mul_lt _ _
 by_cases h7 : op = 7
 ·subst h7; rw [do7]; exact quo_lt hb _
 by_cases h8 : op = 8
 ·subst h8; rw [do8]; exact rem_lt hb _
 by_cases h9 : op = 9
 ·subst h9; rw [do9]; exact and_lt hb hc
 by_cases h10 : op = 10
 ·subst h10; rw [do10]; exact or_lt hb hc
 by_cases h11 : op = 11
 ·subst h11; rw [do11]; exact xor_lt hb hc
 by_cases h12 : op = 12
 ·subst h12; rw [do12]; exact shl_lt _ _
 by_cases h13 : op = 13
 ·subst h13; rw [do13]; exact shr_lt hb _
 by_cases h15 : op = 15
 ·subst h15; rw [do15]; exact eq_lt _ _
 by_cases h16 : op = 16
 ·subst h16; rw [do16]; exact ltu_lt _ _
 by_cases h17 : op = 17
 ·subst h17; rw [do17]; exact lts_lt _ _
 unfold doN
 rw [if_neg h4, if_neg h5, if_neg h6, if_neg h7, if_neg h8, if_neg h9, if_neg h10, if_neg h11, if_neg h12, if_neg h13, if_neg h15, if_neg h16, if_neg h17]
 show _ < _; omega
/-! P9.3, P9.4 -/
theorem movh_lt (a : Nat) (i : Int) : W (movhN a i) := by
 unfold movhN
 have h : i % 4294967296 < 4294967296 := Int.emod_lt_of_pos _ (by omega)
 have h0 : 0 ≤ i % 4294967296 := Int.emod_nonneg _ (by omega)
 show _ < _; omega
end Al
end
section
def rgI (t : Th) (k : Int) : Int := t.regs.getD k.toNat 0
def nxI (t : Th) : Int := (t.pc + 1) % 18446744073709551616
def frI (t : Th) (i : Int) : Int := (t.pc + 1 + i) % 18446744073709551616
def smI (t : Th) (b i : Int) : Int := (rgI t b + i) % 18446744073709551616
def seI (t : Th) (a v : Int) : Th := { t with regs := t.regs.set a.toNat v, pc := nxI t }
def doI (op b c : Int) : Int := ((Al.doN op b.toNat c.toNat : Nat) : Int)
def plT (op a b c i : Int) (t : Th) : Th :=
 if op = 0 then { t with state := 2 }
 else if op = 1 then seI t a (i % 18446744073709551616)
 else if op = 2 then seI t a ((Al.movhN (rgI t a).toNat i : Nat) : Int)
 else if op = 3 then seI t a (rgI t b)
 else if op = 14 then seI t a (smI t b i)
 else if op = 18 then { t with pc := frI t i }
 else if op = 19 then { t with pc := if rgI t a = 0 then frI t i else nxI t }
 else if op = 20 then { t with pc := if rgI t a = 0 then nxI t else frI t i }
 else if op = 21 then { t with regs := t.regs.set a.toNat (nxI t), pc := frI t i }
 else if op = 22 then { t with pc := rgI t a }
 else seI t a (doI op (rgI t b) (rgI t c))
def spB (op : Int) : Bool := decide (op = 23) || decide (op = 24) || decide (op = 25)
structure Rs where
 X : List Ob
 t : Th
 n : Int
def exR (X : List Ob) (x : Ob) (op a b c i : Int) : Rs :=
 if op = 23 then (if wkE X x (smI x.th b i) = 0 then ⟨X, seI x.th a (ldV X x (smI x.th b i)), -1⟩ else ⟨X, flT x.th 3, -1⟩)
 else if op = 24 then (if stB X x (smI x.th b i) = true then ⟨stX X x (smI x.th b i) (rgI x.th a), { x.th with pc := nxI x.th }, -1⟩ else ⟨X, flT x.th 4, -1⟩)
 else if op = 25 then (if i < 0 then ⟨X, flT x.th 2, -1⟩ else ⟨X, { x.th with pc := nxI x.th }, i⟩)
 else ⟨X, plT op a b c i x.th, -1⟩
def tuR (X : List Ob) (x : Ob) : Rs :=
 if alB x.th = true then ⟨X, alT x.th, -1⟩
 else if wkE X x x.th.pc ≠ 0 then ⟨X, flT x.th 1, -1⟩
 else if Ins.decB (ldV X x x.th.pc) = false then ⟨X, flT x.th 2, -1⟩
 else exR X x (Ins.fOp (ldV X x x.th.pc)) (Ins.fA (ldV X x x.th.pc)) (Ins.fB (ldV X x x.th.pc)) (Ins.fC (ldV X x x.th.pc)) (Ins.fI (ldV X x x.th.pc))
def stpX (X : List Ob) (i : Int) : List Ob := if ruB X i = true then puR (tuR X (fO X i)).X { fO X i with th := (tuR X (fO X i)).t } else X
def stpN (X : List Ob) (i : Int) : Int := if ruB X i = true then (tuR X (fO X i)).n else -1
end
section
structure Tk (t t' : Th) : Prop where
 clear : t'.clear = t.clear
 sc : t'.sc = t.sc
 si : t'.si = t.si
 w : t'.wc = t.wc ∧ t'.wi = t.wi ∧ t'.wx = t.wx ∧ t'.wv = t.wv ∧ t'.wd = t.wd
 al : t'.alerts.length ≤ t.alerts.length
 lo : t'.lo = t.lo
 hi : t'.hi = t.hi
 l0 : t'.l0 = t.l0
 l1 : t'.l1 = t.l1
 l2 : t'.l2 = t.l2
 l3 : t'.l3 = t.l3
 st : t'.state = t.state ∨ t'.state = 2
theorem Tk.refl (t : Th) : Tk t t := ⟨rfl, rfl, rfl, ⟨rfl, rfl, rfl, rfl, rfl⟩, Nat.le_refl _, rfl, rfl, rfl, rfl, rfl, rfl, .inl rfl⟩
theorem tk_se (t : Th) (a v : Int) : Tk t (seI t a v) := ⟨rfl, rfl, rfl, ⟨rfl, rfl, rfl, rfl, rfl⟩, Nat.le_refl _, rfl, rfl, rfl, rfl, rfl, rfl, .inl rfl⟩
theorem tk_pc (t : Th) (v : Int) : Tk t { t with pc := v } := ⟨rfl, rfl, rfl, ⟨rfl, rfl, rfl, rfl, rfl⟩, Nat.le_refl _, rfl, rfl, rfl, rfl, rfl, rfl, .inl rfl⟩
theorem tk_rp (t : Th) (r : List Int) (v : Int) : Tk t { t with regs := r, pc := v } := ⟨rfl, rfl, rfl, ⟨rfl, rfl, rfl, rfl, rfl⟩, Nat.le_refl _, rfl, rfl, rfl, rfl, rfl, rfl, .inl rfl⟩
theorem tk_ha (t : Th) : Tk t { t with state := 2 } := ⟨rfl, rfl, rfl, ⟨rfl, rfl, rfl, rfl, rfl⟩, Nat.le_refl _, rfl, rfl, rfl, rfl, rfl, rfl, .inr rfl⟩
theorem tk_fl (t : Th) (why : Int) : Tk t (flT t why) := by
 unfold flT
 split
 ·exact tk_ha t
 ·exact ⟨rfl, rfl, rfl, ⟨rfl, rfl, rfl, rfl, rfl⟩, Nat.le_refl _, rfl, rfl, rfl, rfl, rfl, rfl, .inl rfl⟩
theorem tk_al (t : Th) : Tk t (alT t) := by
 unfold alT
 split
 ·exact ⟨rfl, rfl, rfl, ⟨rfl, rfl, rfl, rfl, rfl⟩, by show (t.alerts.drop 1).length ≤ _; rw [List.length_drop]; omega, rfl, rfl, rfl, rfl, rfl, rfl, .inl rfl⟩
 ·exact Tk.refl t
theorem tk_pl (op a b c i : Int) (t : Th) : Tk t (plT op a b c i t) := by
 unfold plT
 repeat' split
 all_goals first | exact tk_ha t | exact tk_se _ _ _ | exact tk_pc _ _ | exact tk_rp _ _ _
theorem tk_tu (X : List Ob) (x : Ob) : Tk x.th (tuR X x).t := by
 unfold tuR exR
 repeat' split
 all_goals first | exact tk_al _ | exact tk_fl _ _ | exact tk_se _ _ _ | exact tk_pc _ _ | exact tk_pl _ _ _ _ _ _
theorem tu_X (X : List Ob) (x : Ob) : (tuR X x).X = X ∨ ∃ a v, stB X x a = true ∧ (tuR X x).X = stX X x a v ∧ ∃ k, v = rgI x.th k := by
 unfold tuR exR
 repeat' split
 all_goals first | exact .inl rfl | (rename_i h; exact .inr ⟨_, _, h, rfl, _, rfl⟩)
theorem tk_small {y : Ob} {u : Th} (h : Small y) (k : Tk y.th u) : Small { y with th := u } :=
 ⟨h.c2, h.c5, h.c6, h.c7, by show u.clear.length < _; rw [k.clear]; exact h.c25, by have := h.c36; have := k.al; show u.alerts.length < _; omega, by show u.l0.length < _; rw [k.l0]; exact h.c39, by show u.l1.length < _; rw [k.l1]; exact h.c40, by show u.l2.length < _; rw [k.l2]; exact h.c41, by show u.l3.length < _; rw [k.l3]; exact h.c42, h.c43, h.c44, h.c49, h.c50⟩
theorem Kin.symm {x y : Ob} (h : Kin x y) : Kin y x := ⟨h.id.symm, h.kind.symm, h.label.symm, h.quota.symm, h.fixed.symm, h.links.symm, h.dlen.symm, h.lo.symm, h.hi.symm⟩
theorem Kin.trans {x y z : Ob} (h : Kin x y) (k : Kin y z) : Kin x z := ⟨k.id.trans h.id, k.kind.trans h.kind, k.label.trans h.label, k.quota.trans h.quota, k.fixed.trans h.fixed, k.links.trans h.links, k.dlen.trans h.dlen, k.lo.trans h.lo, k.hi.trans h.hi⟩
section
variable {X : List Ob} {t ro : Int} {key : Nat} {x y : Ob}
theorem y5z (hf : fitD t key ro X = true) : fitD t key ro (tuR X x).X = true := by
 rcases tu_X X x with e | ⟨a, v, _, e, _⟩
 ·rw [e]; exact hf
 ·rw [e]; exact st_fit hf
theorem tu_kin (hs : Srt X) (hy : y ∈ X) : ∃ z ∈ (tuR X x).X, Kin y z := by
 rcases tu_X X x with e | ⟨a, v, h, e, _⟩
 ·rw [e]; exact ⟨y, hy, Kin.refl y⟩
 ·rw [e, vPz hs h]
  exact ⟨_, List.mem_map.2 ⟨y, hy, rfl⟩, (u6z _ _ _).kin y⟩
theorem vZz {i : Int} (h : ruB X i = true) : fO X i ∈ X ∧ (fO X i).id = i ∧ (fO X i).kind = 4 ∧ (fO X i).th.state = 0 := by
 unfold ruB at h
 rw [Bool.and_eq_true, Bool.and_eq_true, decide_eq_true_eq, decide_eq_true_eq] at h
 obtain ⟨m, e⟩ := kIz h.1
 exact ⟨m, e, h.2.1, h.2.2⟩
end
end
end Go.Proofs.YtdeddhojjolihaaGreat
