/-
  PROVED HERE: an instruction's name and a part's text: what inst.names, inst.told and the document's name and Digits return when they are called (contracts over this translation). Condition: the library's table of powers of ten is as the program's text lays it, where its numerals are asked for.
-/
import Derived.Test.YtnghendglcblkaaGreatDoorIns9
import Derived.Lib.AppendIntMem
import Derived.Lib.ItoaLen
import Derived.Laws.BytesString
import Derived.Deep.WholeRow
import Derived.Deep.Cut
namespace Go.Proofs.YtnghendglcblkaaGreatDoor
open Go.RowKit Go.Shelf
set_option linter.unusedVariables false

def PowTab (w : World) : Prop := Lib.TabIs Tryz.prog w "internal/strconv.uint64pow10" .u64 Lib.pow10Tab
theorem gPow : Tryz.prog.globalNamed "internal/strconv.uint64pow10" = some 5 := by kernel_rfl
theorem var_lt {w : World} {n : String} {g : Nat} {cs : Array Value} (hg : Tryz.prog.globalNamed n = some g) (h : w.var? Tryz.prog n = some cs) : g < w.heap.size := by
  unfold World.var? at h
  rw [hg] at h
  simp only [Option.bind_some] at h
  cases hh : w.heap[g]? with
  | none => rw [hh] at h; cases h
  | some o => exact (Array.getElem?_eq_some_iff.1 hh).1
/-- What the library's variables hold. -/
def Vars (w : World) : Prop := PowTab w
theorem Vars.later {w w' : World} (h : Vars w) (hb : Below w.heap.size w w') : Vars w' := var?_below hb gPow (var_lt gPow h) h
theorem Vars.drew {w : World} (h : Vars w) (k : Nat) : Vars (w.drewN k) := h
theorem ba_ext {a b : ByteArray} (h : a.data.toList = b.data.toList) : a = b := by rw [ByteArray.ext_iff]; simpa using h
theorem app_list (a b : ByteArray) : (a ++ b).data.toList = a.data.toList ++ b.data.toList := by simp [ByteArray.data_append]
theorem size_list (s : ByteArray) : s.data.toList.length = s.size := by show _ = s.data.size; rw [Array.length_toList]

/-- An operation's name. -/
def nmS (op : Int) : ByteArray :=
  if op = 0 then ⟨#[104, 97, 108, 116]⟩
  else if op = 1 then ⟨#[109, 111, 118, 105]⟩
  else if op = 2 then ⟨#[109, 111, 118, 104]⟩
  else if op = 3 then ⟨#[109, 111, 118]⟩
  else if op = 4 then ⟨#[97, 100, 100]⟩
  else if op = 5 then ⟨#[115, 117, 98]⟩
  else if op = 6 then ⟨#[109, 117, 108]⟩
  else if op = 7 then ⟨#[100, 105, 118]⟩
  else if op = 8 then ⟨#[114, 101, 109]⟩
  else if op = 9 then ⟨#[97, 110, 100]⟩
  else if op = 10 then ⟨#[111, 114]⟩
  else if op = 11 then ⟨#[120, 111, 114]⟩
  else if op = 12 then ⟨#[115, 104, 108]⟩
  else if op = 13 then ⟨#[115, 104, 114]⟩
  else if op = 14 then ⟨#[97, 100, 100, 105]⟩
  else if op = 15 then ⟨#[101, 113]⟩
  else if op = 16 then ⟨#[108, 116, 117]⟩
  else if op = 17 then ⟨#[108, 116, 115]⟩
  else if op = 18 then ⟨#[106, 109, 112]⟩
  else if op = 19 then ⟨#[106, 122]⟩
  else if op = 20 then ⟨#[106, 110, 122]⟩
  else if op = 21 then ⟨#[99, 97, 108, 108]⟩
  else if op = 22 then ⟨#[106, 114]⟩
  else if op = 23 then ⟨#[108, 111, 97, 100]⟩
  else if op = 24 then ⟨#[115, 116, 111, 114, 101]⟩
  else ⟨#[116, 114, 97, 112]⟩

def namesA : Array Value := #[.string ⟨#[104, 97, 108, 116]⟩, .string ⟨#[109, 111, 118, 105]⟩, .string ⟨#[109, 111, 118, 104]⟩, .string ⟨#[109, 111, 118]⟩, .string ⟨#[97, 100, 100]⟩, .string ⟨#[115, 117, 98]⟩, .string ⟨#[109, 117, 108]⟩, .string ⟨#[100, 105, 118]⟩, .string ⟨#[114, 101, 109]⟩, .string ⟨#[97, 110, 100]⟩, .string ⟨#[111, 114]⟩, .string ⟨#[120, 111, 114]⟩, .string ⟨#[115, 104, 108]⟩, .string ⟨#[115, 104, 114]⟩, .string ⟨#[97, 100, 100, 105]⟩, .string ⟨#[101, 113]⟩, .string ⟨#[108, 116, 117]⟩, .string ⟨#[108, 116, 115]⟩, .string ⟨#[106, 109, 112]⟩, .string ⟨#[106, 122]⟩, .string ⟨#[106, 110, 122]⟩, .string ⟨#[99, 97, 108, 108]⟩, .string ⟨#[106, 114]⟩, .string ⟨#[108, 111, 97, 100]⟩, .string ⟨#[115, 116, 111, 114, 101]⟩, .string ⟨#[116, 114, 97, 112]⟩]

def itS (v : Int) : ByteArray := ⟨(Lib.itoa v).toArray⟩
theorem itS_size {v : Int} (h0 : -9223372036854775808 ≤ v) (h1 : v ≤ 9223372036854775807) : (itS v).size ≤ 21 := by
  have := Lib.itoa_length_le v h0 h1
  show (Lib.itoa v).toArray.size ≤ 21
  simpa using this
theorem op_cases {op : Int} (h : 0 ≤ op) (k : op < 26) : op = 0 ∨ op = 1 ∨ op = 2 ∨ op = 3 ∨ op = 4 ∨ op = 5 ∨ op = 6 ∨ op = 7 ∨ op = 8 ∨ op = 9 ∨ op = 10 ∨ op = 11 ∨ op = 12 ∨ op = 13 ∨ op = 14 ∨ op = 15 ∨ op = 16 ∨ op = 17 ∨ op = 18 ∨ op = 19 ∨ op = 20 ∨ op = 21 ∨ op = 22 ∨ op = 23 ∨ op = 24 ∨ op = 25 := by omega
theorem if_size {p : Prop} [Decidable p] {x y : ByteArray} (hx : x.size ≤ 5) (hy : y.size ≤ 5) : (if p then x else y).size ≤ 5 := by split <;> assumption
theorem nmS_size (op : Int) : (nmS op).size ≤ 5 := by
  unfold nmS
  repeat (refine if_size (by decide) ?_)
  decide
def tldS (l v : Int) : ByteArray := if l = 105 then itS v else ⟨#[114]⟩ ++ itS v
theorem tldS_size (l : Int) {v : Int} (h0 : -9223372036854775808 ≤ v) (h1 : v ≤ 9223372036854775807) : (tldS l v).size ≤ 22 := by
  have := itS_size h0 h1
  unfold tldS
  split
  · omega
  · rw [ByteArray.size_append, show (ByteArray.mk #[114]).size = 1 from rfl]; omega

theorem itoa_any (v : Int) (h0 : -9223372036854775808 ≤ v) (h1 : v ≤ 9223372036854775807) (w : World) (hv : Vars w) :
    Calls Tryz.prog 59 #[.int .i64 v] w fun e w' => e = .returned (.string (itS v)) ∧ Below w.heap.size w w' :=
  (Tryz.strconv_Itoa v h0 h1 w hv).mono fun e w' ⟨he, k, os, hw⟩ => ⟨he, by rw [hw]; exact Lib.below_grow _ _ (Nat.le_refl _) _ _⟩
theorem told_any (l v : Int) (h0 : -9223372036854775808 ≤ v) (h1 : v ≤ 9223372036854775807) (w : World) (hv : Vars w) :
    Calls Tryz.prog 48 #[.int .i32 l, .int .i64 v] w fun e w' => e = .returned (.string (tldS l v)) ∧ Below w.heap.size w w' := by
  have hz := itS_size h0 h1
  by_cases h : l = 105
  · subst h
    have hr : Hid (tldS 105 v = itS v) := rfl
    go_enter Tryz.func48, Tryz.ntmps48
    go_wp2_with (go_at_call 59; refine (itoa_any v h0 h1 _ hv).mono ?_; rintro e w' ⟨rfl, hb⟩)
    go_ret
    exact ⟨by rw [hr.out]; rfl, hb⟩
  · have hr : Hid (tldS l v = ⟨#[114]⟩ ++ itS v) := by show tldS l v = _; unfold tldS; rw [if_neg h]
    go_enter Tryz.func48, Tryz.ntmps48
    go_wp2_with (go_at_call 59; refine (itoa_any v h0 h1 _ hv).mono ?_; rintro e w' ⟨rfl, hb⟩)
    go_ret
    exact ⟨by rw [hr.out]; rfl, hb⟩
def zerosA : Array Value := #[.string ⟨#[]⟩, .string ⟨#[]⟩, .string ⟨#[]⟩, .string ⟨#[]⟩, .string ⟨#[]⟩, .string ⟨#[]⟩, .string ⟨#[]⟩, .string ⟨#[]⟩, .string ⟨#[]⟩, .string ⟨#[]⟩, .string ⟨#[]⟩, .string ⟨#[]⟩, .string ⟨#[]⟩, .string ⟨#[]⟩, .string ⟨#[]⟩, .string ⟨#[]⟩, .string ⟨#[]⟩, .string ⟨#[]⟩, .string ⟨#[]⟩, .string ⟨#[]⟩, .string ⟨#[]⟩, .string ⟨#[]⟩, .string ⟨#[]⟩, .string ⟨#[]⟩, .string ⟨#[]⟩, .string ⟨#[]⟩]
theorem names_sizes : (Tryz.prog.info? 95).map (·.size) = some namesA.size ∧ zerosA.size = namesA.size ∧ namesA.all (·.oneCell') = true := ⟨by kernel_rfl, by kernel_rfl, by kernel_rfl⟩
section
variable {P : Program} {ops : Array Oper} {Q : Exit → Act → World → Prop} {rest : List Nat} {a : Act} {w w' : World} {o : Oper} {i : Nat}
theorem wpOps_value {v : Value} (ho : ops[i]? = some o) (hg : o.guard = none) (hr : (execOp a.eval o).run P w = .ok (.value v) w') (h : wpOps P ops Q rest (a.put o.dst v) w') : wpOps P ops Q (i :: rest) a w := by
  simp only [wpOps, ho]
  rw [if_pos (by simp [Region.wanted, hg])]
  exact Or.inl (by unfold Oper.wp; rw [hr]; exact h)
theorem wpOps_skip (ho : ops[i]? = some o) (hg : o.guard = none) (hr : (execOp a.eval o).run P w = .ok .skip w') (h : wpOps P ops Q rest (a.put o.dst undef) w') : wpOps P ops Q (i :: rest) a w := by
  simp only [wpOps, ho]
  rw [if_pos (by simp [Region.wanted, hg])]
  exact Or.inl (by unfold Oper.wp; rw [hr]; exact h)
end
theorem names_store (w : World) : (Instr.storeAt 95 (.pointer (some ⟨w.heap.size, 0, none⟩)) (.agg namesA)).run Tryz.prog (w.alloc (.cells zerosA 95)) = .ok () (w.alloc (.cells namesA 95)) :=
  run_storeAt_new w 95 zerosA namesA names_sizes.1 names_sizes.2.1 names_sizes.2.2
theorem names_load (w : World) : (loadVar 95 ⟨w.heap.size, 0, none⟩).run Tryz.prog (w.alloc (.cells namesA 95)) = .ok (.agg namesA) (w.alloc (.cells namesA 95)) :=
  run_loadVar_new w 95 namesA 26 9 Tryz.underlying95 names_sizes.1
set_option maxRecDepth 100000 in
set_option maxHeartbeats 2000000 in
theorem names_any (w : World) :
    Calls Tryz.prog 47 #[] w fun e w' => e = .returned (.agg namesA) ∧ Below w.heap.size w w' := by
  go_enter Tryz.func47, Tryz.ntmps47
  go_upto_region 1 with (fail)
  refine wp_region ?_
  refine wpOps_value (v := .agg namesA) (w' := w.alloc (.cells zerosA 95)) rfl rfl (by kernel_rfl) ?_
  refine wpOps_skip (w' := w.alloc (.cells namesA 95)) rfl rfl (by
    show (Sem.bind (Instr.storeAt 95 (.pointer (some ⟨w.heap.size, 0, none⟩)) (.agg namesA)) (fun _ => pure Next.skip)).run Tryz.prog _ = _
    rw [show ∀ (x : Sem Unit) (f : Unit → Sem Next), (x.bind f) = x >>= f from fun _ _ => rfl, Sem.run_bind, names_store w]; rfl) ?_
  rename_i K hK
  refine hK _ _ (wp_ret ?_)
  refine bodyPost_ret (v := .agg namesA) ?_ rfl ⟨rfl, (Below.refl _ w).alloc (Nat.le_refl _) _⟩
  exact results_cell_row rfl _ _ w.heap.size 95 namesA (0, 0) _ rfl (heap_alloc_last w _) Tryz.underlying95 rfl names_sizes.1
end Go.Proofs.YtnghendglcblkaaGreatDoor
