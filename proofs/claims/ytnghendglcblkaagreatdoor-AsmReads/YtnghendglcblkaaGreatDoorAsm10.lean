/-
  PROVED HERE: what the library's Cut, CutPrefix, CutSuffix, TrimPrefix, TrimSuffix, SplitN, Atoi and ParseInt return at this translation in plain words, and what stem, added and opsByName of package asm return (contracts over this translation). Texts of at most 65536 bytes.
-/
import Derived.Test.YtnghendglcblkaaGreatDoorAsmL
namespace Go.Proofs.YtnghendglcblkaaGreatDoor
open Go.RowKit Go.Shelf
set_option linter.unusedVariables false
open Asm

theorem gSyn : Tryz.prog.globalNamed "strconv.ErrSyntax" = some 1 := by kernel_rfl
theorem gRan : Tryz.prog.globalNamed "strconv.ErrRange" = some 2 := by kernel_rfl
theorem gMax : Tryz.prog.globalNamed "internal/bytealg.MaxLen" = some 0 := by kernel_rfl
/-- What the library's variables hold. -/
def AVars (w : World) : Prop :=
  Vars w ∧ (∃ tp p, w.var? Tryz.prog "strconv.ErrSyntax" = some #[.iface tp p]) ∧ (∃ tp p, w.var? Tryz.prog "strconv.ErrRange" = some #[.iface tp p]) ∧ ∃ m, w.var? Tryz.prog "internal/bytealg.MaxLen" = some #[.int .i64 m]
theorem AVars.later {w w' : World} (h : AVars w) (hb : Below w.heap.size w w') : AVars w' := by
  obtain ⟨h1, ⟨t2, p2, h2⟩, ⟨t3, p3, h3⟩, m, h4⟩ := h
  exact ⟨h1.later hb, ⟨t2, p2, var?_below hb gSyn (var_lt gSyn h2) h2⟩, ⟨t3, p3, var?_below hb gRan (var_lt gRan h3) h3⟩, m, var?_below hb gMax (var_lt gMax h4) h4⟩
theorem AVars.maxLen {w : World} (h : AVars w) : ∃ m, w.cell? ⟨0, 0, none⟩ = some (.int .i64 m) := by
  obtain ⟨_, _, _, m, h4⟩ := h
  exact ⟨m, by simpa using World.var?_cell gMax h4 0⟩
/-- A text's bytes. -/
def bl (s : ByteArray) : List UInt8 := s.data.toList
def sb (l : List UInt8) : ByteArray := ⟨l.toArray⟩
theorem bl_sb (l : List UInt8) : bl (sb l) = l := rfl
theorem sb_bl (s : ByteArray) : sb (bl s) = s := ba_ext rfl
theorem bl_len (s : ByteArray) : (bl s).length = s.size := size_list s
theorem sb_size (l : List UInt8) : (sb l).size = l.length := by rw [← bl_len, bl_sb]
theorem bl_app (a b : ByteArray) : bl (a ++ b) = bl a ++ bl b := app_list a b
def c1 (s sep : ByteArray) : ByteArray := sb (Lib.cut (bl s) (bl sep)).1
def c2 (s sep : ByteArray) : ByteArray := sb (Lib.cut (bl s) (bl sep)).2.1
def cB (s sep : ByteArray) : Bool := (Lib.cut (bl s) (bl sep)).2.2
def tP (s p : ByteArray) : ByteArray := sb (Lib.trimPrefix (bl s) (bl p))
def tS (s p : ByteArray) : ByteArray := sb (Lib.trimSuffix (bl s) (bl p))
def hP (s p : ByteArray) : Bool := Lib.hasPrefix (bl s) (bl p)
def hS (s p : ByteArray) : Bool := Lib.hasSuffix (bl s) (bl p)
theorem below_drewN (w : World) (n : Nat) : Below w.heap.size w (w.drewN n) := ⟨rfl, rfl, rfl, Nat.le_refl _, fun _ _ => rfl⟩
theorem cut_any (s sep : ByteArray) (w : World) (hs : s.size < 4294967281) (hv : AVars w) :
    Calls Tryz.prog 23 #[.string s, .string sep] w fun e w' => e = .returned (.tuple #[.string (c1 s sep), .string (c2 s sep), .bool (cB s sep)]) ∧ Below w.heap.size w w' := by
  obtain ⟨m, hm⟩ := hv.maxLen
  refine (Tryz.strings_Cut s sep m w hs hm).mono ?_
  rintro e w' ⟨rfl, n, rfl⟩
  exact ⟨rfl, below_drewN w n⟩
theorem cutPrefix_any (s p : ByteArray) (w : World) :
    Calls Tryz.prog 77 #[.string s, .string p] w fun e w' => e = .returned (.tuple #[.string (tP s p), .bool (hP s p)]) ∧ w = w' := by
  refine (Tryz.strings_CutPrefix s p w).mono ?_
  rintro e w' ⟨rfl, h⟩
  exact ⟨rfl, h.symm⟩
theorem cutSuffix_any (s p : ByteArray) (hs : s.size ≤ 65536) (w : World) :
    Calls Tryz.prog 25 #[.string s, .string p] w fun e w' => e = .returned (.tuple #[.string (tS s p), .bool (hS s p)]) ∧ w = w' := by
  refine (Tryz.strings_CutSuffix s p w (by omega)).mono ?_
  rintro e w' ⟨rfl, h⟩
  exact ⟨rfl, h.symm⟩
theorem trimPrefix_any (s p : ByteArray) (w : World) :
    Calls Tryz.prog 55 #[.string s, .string p] w fun e w' => e = .returned (.string (tP s p)) ∧ w = w' := by
  refine (Tryz.strings_TrimPrefix s p w).mono ?_
  rintro e w' ⟨rfl, h⟩
  exact ⟨rfl, h.symm⟩
theorem trimSuffix_any (s p : ByteArray) (hs : s.size ≤ 65536) (w : World) :
    Calls Tryz.prog 58 #[.string s, .string p] w fun e w' => e = .returned (.string (tS s p)) ∧ w = w' := by
  refine (Tryz.strings_TrimSuffix s p w (by omega)).mono ?_
  rintro e w' ⟨rfl, h⟩
  exact ⟨rfl, h.symm⟩
/-- The number that ParseInt at 32 bits leaves. -/
def numI (l : List UInt8) : Int := match Lib.parseIntB 32 l with
  | .ok v => v
  | .«syntax» => 0
  | .range => Lib.intSat 32 l
def atoI (l : List UInt8) : Int := match Lib.atoiAll l with
  | .ok v => v
  | .«syntax» => 0
  | .range => Lib.atoiSat l
theorem parseInt_any (s : ByteArray) (hs : s.size ≤ 65536) (w : World) (hv : AVars w) :
    Calls Tryz.prog 78 #[.string s, .int .i64 10, .int .i64 32] w fun e w' => (∃ u, e = .returned (.tuple #[.int .i64 (numI (bl s)), u])) ∧ Below w.heap.size w w' := by
  obtain ⟨_, ⟨t2, p2, h2⟩, ⟨t3, p3, h3⟩, _⟩ := hv
  cases h : Lib.parseIntB 32 (bl s) with
  | ok v =>
    refine (Tryz.strconv_ParseInt_10_at32_ok s (by omega) v h w).mono ?_
    rintro e w' ⟨rfl, hw⟩
    refine ⟨⟨_, by unfold numI; rw [h]⟩, ?_⟩
    rcases hw with rfl | ⟨t, rfl⟩
    · exact Below.refl _ _
    · exact Lib.bytesWorld_below w _ t
  | «syntax» =>
    refine (Tryz.strconv_ParseInt_10_at32_syntax_var s (by omega) h t2 p2 w h2).mono ?_
    rintro e w' ⟨N, rfl, _, _, hb⟩
    exact ⟨⟨_, by unfold numI; rw [h]⟩, hb⟩
  | range =>
    refine (Tryz.strconv_ParseInt_10_at32_range_var s (by omega) h t3 p3 w h3).mono ?_
    rintro e w' ⟨N, rfl, _, _, hb⟩
    exact ⟨⟨_, by unfold numI; rw [h]; rfl⟩, hb⟩
theorem atoi_any (s : ByteArray) (hs : s.size ≤ 65536) (w : World) (hv : AVars w) :
    Calls Tryz.prog 54 #[.string s] w fun e w' => (∃ u, e = .returned (.tuple #[.int .i64 (atoI (bl s)), u])) ∧ Below w.heap.size w w' := by
  obtain ⟨_, ⟨t2, p2, h2⟩, ⟨t3, p3, h3⟩, _⟩ := hv
  cases h : Lib.atoiAll (bl s) with
  | ok v =>
    refine (Tryz.strconv_Atoi_ok s (by omega) v h w).mono ?_
    rintro e w' ⟨rfl, hw⟩
    refine ⟨⟨_, by unfold atoI; rw [h]⟩, ?_⟩
    rcases hw with rfl | ⟨t, rfl⟩
    · exact Below.refl _ _
    · exact Lib.bytesWorld_below w _ t
  | «syntax» =>
    refine (Tryz.strconv_Atoi_syntax_var s (by omega) h t2 p2 w h2).mono ?_
    rintro e w' ⟨N, rfl, _, _, hb⟩
    exact ⟨⟨_, by unfold atoI; rw [h]⟩, hb⟩
  | range =>
    refine (Tryz.strconv_Atoi_range_var s (by omega) h t3 p3 w h3).mono ?_
    rintro e w' ⟨N, rfl, _, _, hb⟩
    exact ⟨⟨_, by unfold atoI; rw [h]; rfl⟩, hb⟩
/-- The parts of a text between blanks, four at most. -/
def spl (s : ByteArray) : List ByteArray := Lib.splitB ⟨#[32]⟩ 0 (min 4 (s.size + 1) - 1) s
theorem splitN_any (s : ByteArray) (hs : s.size ≤ 65536) (w : World) (hv : AVars w) :
    Calls Tryz.prog 26 #[.string s, .string ⟨#[32]⟩, .int .i64 4] w fun e w' => e = .returned (.slice (some ⟨w.heap.size, 0, none⟩) (spl s).length (min 4 (s.size + 1))) ∧ w' = w.alloc (.cells (Lib.cellsOf (spl s) (min 4 (s.size + 1))) 9) := by
  obtain ⟨m, hm⟩ := hv.maxLen
  exact Tryz.strings_SplitN s ⟨#[32]⟩ 4 m w (by omega) hm (by decide) (by omega) (by omega)
/-- The text of what is added. -/
def addS (i : Int) : ByteArray := if i = 0 then ⟨#[]⟩ else ⟨#[43]⟩ ++ itS i
theorem added_any (i : Int) (h0 : -2147483648 ≤ i) (h1 : i < 2147483648) (w : World) (hv : Vars w) :
    Calls Tryz.prog 32 #[.int .i32 i] w fun e w' => e = .returned (.string (addS i)) ∧ Below w.heap.size w w' := by
  have hsz := itS_size (v := i) (by omega) (by omega)
  go_enter Tryz.func32, Tryz.ntmps32
  by_cases hz : i = 0
  · have hr : Hid (addS i = ⟨#[]⟩) := if_pos hz
    subst hz
    go_wp2
    go_ret
    exact ⟨by rw [hr.out]; rfl, Below.refl _ _⟩
  · have hr : Hid (addS i = ⟨#[43]⟩ ++ itS i) := if_neg hz
    go_wp2_with (go_at_call 59; refine (itoa_any i (by omega) (by omega) _ hv).mono ?_; rintro e w' ⟨rfl, hb⟩)
    go_ret
    exact ⟨by rw [hr.out]; rfl, hb⟩
/-- An instruction's text up to its number. -/
def stemS (op a b c : Int) : ByteArray := tS (txS op a b c 0) ⟨#[48]⟩
theorem stem_any (op a b c i : Int) (ha : I64 a) (hb : I64 b) (hc : I64 c) (w : World) (hv : Vars w) :
    Calls Tryz.prog 31 #[.agg #[.int .i64 op, .int .i64 a, .int .i64 b, .int .i64 c, .int .i32 i]] w fun e w' => e = .returned (.string (stemS op a b c)) ∧ Below w.heap.size w w' := by
  have hsz := txS_size (op := op) ha hb hc (i := 0) ⟨by omega, by omega⟩
  have hB : Below w.heap.size w (w.alloc (.cells #[.int .i64 op, .int .i64 a, .int .i64 b, .int .i64 c, .int .i32 0] 35)) := (Below.refl _ w).alloc (Nat.le_refl _) _
  have hV := hv.later hB
  go_enter Tryz.func31, Tryz.ntmps31
  go_wp2_with (first | (go_at_call 20; refine (text_any _ _ _ _ _ (by omega) (by omega) _ hV).mono ?_; rintro e w' ⟨rfl, hb1⟩) | (go_at_call 58; refine (trimSuffix_any _ _ (by omega) _).mono ?_; rintro e w2 ⟨rfl, rfl⟩))
  go_ret
  exact ⟨rfl, hB.trans (hb1.mono hB.size)⟩
theorem index_hit {c : UInt8} : ∀ {x r : List UInt8}, (∀ d ∈ x, d ≠ c) → Lib.index (x ++ c :: r) [c] = x.length
  | [], r, _ => by simp [Lib.index, List.isPrefixOf]
  | d :: x, r, h => by
    have ih := index_hit (c := c) (x := x) (r := r) (fun e he => h e (by simp [he]))
    have hd : (c == d) = false := by simpa using fun e => h d (by simp) e.symm
    simp only [List.cons_append, Lib.index, List.isPrefixOf, hd, ih, Bool.false_and]
    simp
theorem index_miss {c : UInt8} : ∀ {x : List UInt8}, (∀ d ∈ x, d ≠ c) → Lib.index x [c] = -1
  | [], _ => by simp [Lib.index]
  | d :: x, h => by
    have ih := index_miss (c := c) (x := x) (fun e he => h e (by simp [he]))
    have hd : (c == d) = false := by simpa using fun e => h d (by simp) e.symm
    simp only [Lib.index, List.isPrefixOf, hd, ih, Bool.false_and]
    simp
theorem cut_hit {c : UInt8} {x r : List UInt8} (h : ∀ d ∈ x, d ≠ c) : Lib.cut (x ++ c :: r) [c] = (x, r, true) := by
  unfold Lib.cut
  rw [index_hit h, if_pos (by omega)]
  simp
theorem cut_miss {c : UInt8} {x : List UInt8} (h : ∀ d ∈ x, d ≠ c) : Lib.cut x [c] = (x, [], false) := by
  unfold Lib.cut
  rw [index_miss h, if_neg (by omega)]
/-- All names of instructions and their numbers. -/
def opsL (k : Nat) : List (ByteArray × Nat) := (List.range k).map fun (j : Nat) => (nmS (j : Int), j)
theorem fit_op {k : Nat} (hk : k < 26) : Ins.fitB (k : Int) 0 0 0 0 = true := by
  unfold Ins.fitB Ins.opB Ins.rg
  simp
  omega
theorem name_cut {k : Nat} (hk : k < 26) : c1 (txS (k : Int) 0 0 0 0) ⟨#[32]⟩ = nmS (k : Int) := by
  have hl := txS_list (fit_op hk)
  have hn : ∀ c ∈ bl (nmS (k : Int)), c ≠ 32 := nm_no32 ⟨k, hk⟩
  have hh := partsL_head 0 0 0 0 (Ins.shp (k : Int))
  unfold c1
  have e : bl (txS (k : Int) 0 0 0 0) = bl (nmS (k : Int)) ++ partsL 0 0 0 0 (Ins.shp (k : Int)) := hl
  rw [e]
  refine ba_ext ?_
  show (Lib.cut _ [32]).1 = _
  cases hp : partsL 0 0 0 0 (Ins.shp (k : Int)) with
  | nil => rw [List.append_nil, cut_miss hn]; rfl
  | cons d r => rw [hh d r hp, cut_hit hn]; rfl
theorem ops_none {k : Nat} (hk : k < 26) : ∀ {j : Nat}, j ≤ k → lkp (nmS (k : Int)) (opsL j) = none
  | 0, _ => rfl
  | j + 1, h => by
    have app : ∀ (l m : List (ByteArray × Nat)) s, lkp s (l ++ m) = (lkp s l).or (lkp s m) := fun l m s => by
      induction l with
      | nil => simp [lkp]
      | cons p l ih => simp only [List.cons_append, lkp]; split <;> simp [ih]
    unfold opsL
    rw [List.range_succ, List.map_append, app]
    have ih := ops_none hk (j := j) (by omega)
    unfold opsL at ih
    rw [ih]
    have hne : nmS (j : Int) ≠ nmS (k : Int) := fun e => by
      have := nm_inj ⟨j, by omega⟩ ⟨k, hk⟩ (by show (nmS (j : Int)).data.toList = _; rw [e])
      have := congrArg Fin.val this
      simp at this; omega
    simp [lkp, hne]
theorem ops_snoc (k : Nat) : opsL (k + 1) = opsL k ++ [(nmS (k : Int), k)] := by unfold opsL; rw [List.range_succ, List.map_append]; rfl
set_option maxRecDepth 100000 in
set_option maxHeartbeats 2000000 in
theorem ops_any (w : World) (hv : AVars w) :
    Calls Tryz.prog 10 #[] w fun e w' => e = .returned (.map (some w.heap.size)) ∧ MapAt w' w.heap.size (opsL 26) ∧ Below w.heap.size w w' := by
  have hmk : ∀ W, (Instr.makeMap 39 none).run Tryz.prog W = .ok (.map (some W.heap.size)) (W.alloc (.map #[] 0)) := fun W => run_makeMap _ _
  go_enter Tryz.func10, Tryz.ntmps10
  go_wp2
  go_loopw [7] (fun vi wr => ∃ k : Nat, k ≤ 26 ∧ vi = .int .i64 k ∧ MapAt wr w.heap.size (opsL k) ∧ Below w.heap.size w wr) (fun vi _ => 26 - (intOf vi).toNat)
  case atStart => exact ⟨0, by omega, rfl, World.alloc_heap_new w _, (Below.refl _ w).alloc (Nat.le_refl _) _⟩
  case round =>
    obtain ⟨k, hk, rfl, hM, hB⟩ := hrel
    by_cases hks : k < 26
    · have hV := hv.later hB
      have hsz := txS_size (op := (k : Int)) (a := 0) (b := 0) (c := 0) (i := 0) ⟨by omega, by omega⟩ ⟨by omega, by omega⟩ ⟨by omega, by omega⟩ ⟨by omega, by omega⟩
      have hnc : c1 (txS (k : Int) 0 0 0 0) ⟨#[32]⟩ = nmS (k : Int) := name_cut hks
      have hno := ops_none hks (Nat.le_refl k)
      have hct := fun W2 hV2 => cut_any (txS (k : Int) 0 0 0 0) ⟨#[32]⟩ W2 (by omega) hV2
      simp only [hnc] at hct
      clear hnc
      go_wp2_with (first | (go_at_call 20; refine (text_any _ _ _ _ _ (by omega) (by omega) _ hV.1).mono ?_; rintro e w3 ⟨rfl, hb3⟩) | (go_at_call 23; refine (hct _ (hV.later hb3)).mono ?_; rintro e w4 ⟨rfl, hb4⟩; have hM4 := (hM.next hb3).next hb4; have hpu := map_put hM4 (nmS (k : Int)) k hno))
      go_roundw
      case rel => exact ⟨k + 1, by omega, by simp, by rw [ops_snoc]; have hp := hM4.put (opsL k ++ [(nmS (k : Int), k)]); rw [List.length_append] at hp; exact hp, below_putObj ((hB.trans (hb3.mono hB.size)).trans (hb4.mono (Nat.le_trans hB.size hb3.size))) (Nat.le_refl _) _⟩
      case measure => simp [intOf]; omega
    · obtain rfl : k = 26 := by omega
      go_wp2
      go_ret
      exact ⟨rfl, hM, hB⟩
end Go.Proofs.YtnghendglcblkaaGreatDoor
