/-
  DEFINED AND PROVED HERE: programs as rows of lines: which names marks may have, which lines are such, marks' places, the words of a program and its first error. No condition.
-/
import Derived.Test.YtnghendglcblkaaGreatDoorIns15
namespace Go.Proofs.YtnghendglcblkaaGreatDoor
namespace Asm
set_option linter.unusedVariables false

/-- A line. -/
structure Ln where
  mark : ByteArray
  op : Int
  a : Int
  b : Int
  c : Int
  i : Int
  to : ByteArray
instance : Inhabited Ln := ⟨⟨⟨#[]⟩, 0, 0, 0, 0, 0, ⟨#[]⟩⟩⟩
/-- Its parts are what Go's types hold. -/
def Ln.ok (x : Ln) : Prop := I64 x.op ∧ I64 x.a ∧ I64 x.b ∧ I64 x.c ∧ -2147483648 ≤ x.i ∧ x.i < 2147483648
def emB (s : ByteArray) : Bool := s.size == 0
theorem emB_iff (s : ByteArray) : emB s = true ↔ s = ⟨#[]⟩ := by
  unfold emB
  rw [beq_iff_eq]
  constructor
  · intro h; exact ba_ext (by rw [show s.data.toList = [] from List.eq_nil_of_length_eq_zero (by rw [size_list]; exact h)])
  · rintro rfl; rfl
def digB (c : UInt8) : Bool := decide (48 ≤ c.toNat) && decide (c.toNat ≤ 57)
def letB (c : UInt8) : Bool := c.toNat == 95 || (decide (97 ≤ c.toNat) && decide (c.toNat ≤ 122)) || (decide (65 ≤ c.toNat) && decide (c.toNat ≤ 90))
/-- A mark's name. -/
def nameL : List UInt8 → Bool
  | [] => false
  | c :: l => decide (l.length < 16) && !digB c && (c :: l).all (fun x => letB x || digB x)
def nameB (s : ByteArray) : Bool := nameL s.data.toList
def zeroB (x : Ln) : Bool := x.op == 0 && x.a == 0 && x.b == 0 && x.c == 0 && x.i == 0
def markB (x : Ln) : Bool := nameB x.mark && emB x.to && zeroB x
def jmpB (op : Int) : Bool := op == 18 || op == 19 || op == 20 || op == 21
def goB (op i : Int) : Bool := (jmpB op && i == 0) || op == 1
def insB (x : Ln) : Bool := emB x.mark && Ins.fitB x.op x.a x.b x.c x.i && (emB x.to || (nameB x.to && goB x.op x.i))
def goodB (x : Ln) : Bool := markB x || insB x
/-- How many instructions there are. -/
def cnt : List Ln → Nat
  | [] => 0
  | x :: l => (if emB x.mark then 1 else 0) + cnt l
theorem cnt_app (l m : List Ln) : cnt (l ++ m) = cnt l + cnt m := by
  induction l with
  | nil => simp [cnt]
  | cons x l ih => simp [cnt, ih]; omega
theorem cnt_le (l : List Ln) : cnt l ≤ l.length := by
  induction l with
  | nil => simp [cnt]
  | cons x l ih => simp only [cnt, List.length_cons]; split <;> omega
/-- A mark's place, k instructions ahead of the lines. -/
def fnd (m : ByteArray) : List Ln → Nat → Option Nat
  | [], _ => none
  | x :: l, k => if emB x.mark then fnd m l (k + 1) else if x.mark = m then some k else fnd m l k
/-- Marks and their places. -/
def mks : List Ln → Nat → List (ByteArray × Nat)
  | [], _ => []
  | x :: l, k => if emB x.mark then mks l (k + 1) else (x.mark, k) :: mks l k
theorem mks_snoc (l : List Ln) (x : Ln) (k : Nat) : mks (l ++ [x]) k = mks l k ++ (if emB x.mark then [] else [(x.mark, k + cnt l)]) := by
  induction l generalizing k with
  | nil => simp only [List.nil_append, mks, cnt, Nat.add_zero]
  | cons y l ih =>
    simp only [List.cons_append, mks, cnt]
    split
    · rw [ih, show k + 1 + cnt l = k + (1 + cnt l) by omega]
    · rw [ih, show k + (0 + cnt l) = k + cnt l by omega]; rfl
/-- What a key has among pairs. -/
def lkp (m : ByteArray) : List (ByteArray × Nat) → Option Nat
  | [] => none
  | p :: l => if p.1 = m then some p.2 else lkp m l
theorem mks_look (m : ByteArray) (l : List Ln) (k : Nat) : lkp m (mks l k) = fnd m l k := by
  induction l generalizing k with
  | nil => rfl
  | cons x l ih =>
    simp only [mks, fnd]
    split
    · exact ih _
    · simp only [lkp]
      split
      · rfl
      · exact ih _
theorem fnd_bounds {m : ByteArray} {l : List Ln} {k n : Nat} (h : fnd m l k = some n) : k ≤ n ∧ n ≤ k + cnt l := by
  induction l generalizing k with
  | nil => cases h
  | cons x l ih =>
    unfold fnd at h
    unfold cnt
    split at h
    · rename_i e; have := ih h; rw [if_pos e]; omega
    · rename_i e
      rw [if_neg e]
      split at h
      · cases h; omega
      · have := ih h; omega
/-- The first thing that is wrong, and where. -/
def scan (f : List Ln → Ln → Nat) (pre : List Ln) : List Ln → Nat × Nat
  | [] => (0, 0)
  | x :: l => if f pre x = 0 then scan f (pre ++ [x]) l else (pre.length, f pre x)
/-- A line's own error, behind others. -/
def bad1 (pre : List Ln) (x : Ln) : Nat := if !goodB x then 11 else if !emB x.mark && (lkp x.mark (mks pre 0)).isSome then 12 else 0
def tgt (l : List Ln) (x : Ln) : Nat := (fnd x.to l 0).getD 0
/-- An instruction's number at its place. -/
def aim (l : List Ln) (p : Nat) (x : Ln) : Int := if emB x.to then x.i else if x.op = 1 then (tgt l x : Int) + x.i else (tgt l x : Int) - p - 1
def inR (n : Int) : Bool := decide (-2147483648 ≤ n) && decide (n ≤ 2147483647)
/-- An instruction's error. -/
def err2 (l : List Ln) (p : Nat) (x : Ln) : Nat := if emB x.to then 0 else if (fnd x.to l 0).isNone then 1 else if inR (aim l p x) then 0 else 13
def bad2 (l : List Ln) (pre : List Ln) (x : Ln) : Nat := if emB x.mark then err2 l (cnt pre) x else 0
def wrd (l : List Ln) (p : Nat) (x : Ln) : Int := Ins.wordI x.op x.a x.b x.c (aim l p x)
def wds (l : List Ln) : List Ln → Nat → List Int
  | [], _ => []
  | x :: r, p => if emB x.mark then wrd l p x :: wds l r (p + 1) else wds l r p
theorem wds_app (l r s : List Ln) (p : Nat) : wds l (r ++ s) p = wds l r p ++ wds l s (p + cnt r) := by
  induction r generalizing p with
  | nil => simp [wds, cnt]
  | cons x r ih =>
    simp only [List.cons_append, wds, cnt]
    split
    · rw [ih, show p + 1 + cnt r = p + (1 + cnt r) by omega]; rfl
    · rw [ih, show p + (0 + cnt r) = p + cnt r by omega]
theorem wds_length (l r : List Ln) (p : Nat) : (wds l r p).length = cnt r := by
  induction r generalizing p with
  | nil => rfl
  | cons x r ih => simp only [wds, cnt]; split <;> simp [ih]; omega
/-- A program's words, where an error is, and which. -/
def put (l : List Ln) : List Int × Nat × Nat :=
  if (scan bad1 [] l).2 ≠ 0 then ([], scan bad1 [] l)
  else if (scan (bad2 l) [] l).2 ≠ 0 then ([], scan (bad2 l) [] l)
  else (wds l l 0, 0, 0)
def putW (l : List Ln) : List Int := (put l).1
def putK (l : List Ln) : Nat := (put l).2.1
def putE (l : List Ln) : Nat := (put l).2.2
theorem scan_zero {f : List Ln → Ln → Nat} : ∀ {l pre : List Ln}, (scan f pre l).2 = 0 → scan f pre l = (0, 0) ∧ ∀ q x r, l = q ++ x :: r → f (pre ++ q) x = 0
  | [], pre, _ => ⟨rfl, fun q x r e => by simp at e⟩
  | y :: l, pre, h => by
    unfold scan at h ⊢
    split at h
    · rename_i hy
      rw [if_pos hy]
      obtain ⟨h1, h2⟩ := scan_zero h
      refine ⟨h1, fun q x r e => ?_⟩
      cases q with
      | nil => simp at e; obtain ⟨rfl, rfl⟩ := e; simpa using hy
      | cons z q => simp at e; obtain ⟨rfl, e⟩ := e; have := h2 q x r e; simpa using this
    · rename_i hy; exact absurd h hy
theorem scan_of {f : List Ln → Ln → Nat} : ∀ {l pre : List Ln}, (∀ q x r, l = q ++ x :: r → f (pre ++ q) x = 0) → scan f pre l = (0, 0)
  | [], pre, _ => rfl
  | y :: l, pre, h => by
    unfold scan
    rw [if_pos (by simpa using h [] y l rfl)]
    exact scan_of fun q x r e => by have := h (y :: q) x r (by simp [e]); simpa using this
/-- Where the k first lines are right, and the next is not. -/
theorem scan_at {f : List Ln → Ln → Nat} {l q r : List Ln} {x : Ln} : ∀ {pre : List Ln}, l = q ++ x :: r → (∀ q' x' r', q = q' ++ x' :: r' → f (pre ++ q') x' = 0) → f (pre ++ q) x ≠ 0 → scan f pre l = (pre.length + q.length, f (pre ++ q) x) := by
  induction q generalizing l with
  | nil => intro pre e _ h; subst e; simp only [List.nil_append, List.append_nil] at *; unfold scan; rw [if_neg h]; simp
  | cons y q ih =>
    intro pre e h0 h
    subst e
    simp only [List.cons_append]
    unfold scan
    rw [if_pos (by simpa using h0 [] y q rfl)]
    have := ih (pre := pre ++ [y]) rfl (fun q' x' r' e => by have := h0 (y :: q') x' r' (by simp [e]); simpa using this) (by simpa using h)
    rw [this]
    simp; omega
/-- The lines that are instructions. -/
def insAt (l : List Ln) : List Nat := (List.range l.length).filter (fun k => emB (l.getD k default).mark)
end Asm
end Go.Proofs.YtnghendglcblkaaGreatDoor
