/-
 PROVED HERE: a region that draws its order, in the round of a loop over an iterator: what is shown of it outside a round ho. What is asked stands at each.
-/
import Derived.Test.YtdeddhojjolihaaGreatRows
import Derived.WalkKit
import Derived.OrdersHeld
import Derived.OrdersIn
import Derived.Deep.RegionHeld
import Derived.RangeFuncCalls
import Derived.RangeFuncNested
import Derived.OwnWalkIn
import Derived.Deep.RegionHeld3
import Derived.Test.YtdeddhojjolihaaGreatZ46
namespace Go.Proofs.YtdeddhojjolihaaGreat
set_option maxRecDepth 100000
set_option maxHeartbeats 8000000
set_option linter.unusedVariables false
open Go.Proofs.Tryz
namespace InM
open Go.RowKit
def noDefer (ops : Array Oper) : Bool := ops.all fun o => match o.op with | .defer _ => false | _ => true
variable {ops : Array Oper}
theorem noDefer_spec (h : noDefer ops = true) {i : Nat} {o : Oper} (ho : ops[i]? = some o) : ∀ c, o.op ≠ .defer c := by
 intro c e
 have hm : o ∈ ops := Array.mem_of_getElem? ho
 have := Array.all_eq_true_iff_forall_mem.1 h o hm
 rw [e] at this
 cases this
variable {Q : Exit → Act → World → Prop} {P : Program}
theorem wpOp_round (hd : noDefer ops = true) (hl : ¬ LetsOut Q) (l n i : Nat) {K : Act → World → Prop} {a : Act} {w : World} (h : wpOp P ops Q i K a w) :
  wpOpIn (Fence.wide.inRound l) n P ops Q i K a w := by
 unfold wpOp at h
 unfold wpOpIn
 cases ho : ops[i]? with
 | none => simpa [ho] using h
 | some o =>
  simp only [ho] at h ⊢
  split
  ·rename_i hw
   rw [if_pos hw] at h
   rcases h with h | ⟨_, h⟩
   ·refine ⟨fun _ _ => trivial, ?_⟩
    rw [Oper.semAt_plain (Fence.wide.inRound l) _ o (noDefer_spec hd ho)]
    unfold Oper.wp at h
    generalize (execOp a.eval o).run P w = r at *
    cases r with
    | ok nx w' =>
     cases nx with
     | enter f args => exact ⟨fun e => (by cases e), CallsIn.inRound l (callsIn_wide.2 h)⟩
     | value v => exact h
     | skip => exact h
     | defer d => exact h
     | row row args => exact ⟨fun e => (by cases e), fun c cs _ => (by obtain ⟨v, w2, r, s⟩ := h c cs; exact ⟨v, w2, r, stepsIn_wide.2 s⟩)⟩
     | _ => exact h.elim
    | halt x w' => cases x <;> exact h
   ·exact absurd h hl
  ·rename_i hw
   rw [if_neg hw] at h
   exact ⟨fun _ _ => trivial, h⟩
theorem wpAny_round {md : Region.Mode} (hd : noDefer ops = true) (hl : ¬ LetsOut Q) (l n : Nat) :
  ∀ (fuel : Nat) (listed : Array Bool) (a : Act) (w : World), wpAny P md ops Q fuel listed a w → wpAnyIn (Fence.wide.inRound l) n P md ops Q fuel listed a w
 | 0, _, _, _, h => h
 | fuel + 1, _, _, _, h => ⟨h.1, fun i hi => wpOpIn_mono (fun a' w' h' => wpAny_round hd hl l n fuel _ a' w' h') (wpOp_round hd hl l n i (h.2 i hi))⟩
theorem region_round {S : World → Prop} {id l n : Nat} {a : Act} {w : World} (hm : P.follows .mixedOrders = true) (hd : noDefer ops = true) (hl : ¬ LetsOut Q)
  (hS : S w.drew) (h : S w.drew → wpAnyH P .any ops Q S ops.size (Array.replicate ops.size false) a w.drew) : (Code.region id ops true).wpIn (Fence.wide.inRound l) n P Q a w :=
 wpIn_region_any hm (wpAny_round hd hl l n _ _ _ _ (wpAny_of_held _ _ _ _ (h hS)))
end InM
namespace InM
open Go.RowKit Go.Shelf
attribute [local go_sem] Oper.semAt_some
def stepW (ls : List UInt8) (a b c i : Int) (x : Int) (k : Nat) : Int := bits .or .u64 x (IntKind.u64.wrap (IntKind.u64.wrap (prt a b c i (ltr ls k)) * 2 ^ (plc (ltr ls k)).toNat))
def accW (ls : List UInt8) (op a b c i : Int) (pre : List Nat) : Int := pre.foldl (stepW ls a b c i) op
theorem shp_asc (op : Int) : ∀ x ∈ Ins.shp op, x.toNat < 128 := by
 rcases Ins.shp_cases op with h | h | h | h | h | h | h <;> rw [h] <;> decide
theorem plc_nat (l : Int) : ∃ p : Nat, plc l = (p : Int) ∧ p < 64 := by
 unfold plc
 repeat' split
 ·exact ⟨8, rfl, by omega⟩
 ·exact ⟨12, rfl, by omega⟩
 ·exact ⟨16, rfl, by omega⟩
 ·exact ⟨32, rfl, by omega⟩
theorem gLz (ls : List UInt8) (op a b c i : Int) (pre : List Nat) (x : Nat) : accW ls op a b c i (pre ++ [x]) = stepW ls a b c i (accW ls op a b c i pre) x := by simp [accW]
theorem fin_W {w W : World} {H N : Nat} {pre : List Nat} {f : List Nat → Int} {y z : Int} (hB : Below w.heap.size w W) (b : Boxed W H 22 (.int .u64 y)) (hH : w.heap.size ≤ H) (e : f pre = z) :
  KeepsFrom N W (W.drew.setCell ⟨H, 0, none⟩ (.int .u64 z)) ∧ Keeps (fun b => b = H + 1 + 1 ∨ b = H + 1) W (W.drew.setCell ⟨H, 0, none⟩ (.int .u64 z)) ∧ Boxed (W.drew.setCell ⟨H, 0, none⟩ (.int .u64 z)) H 22 (.int .u64 (f pre)) ∧ Below w.heap.size w (W.drew.setCell ⟨H, 0, none⟩ (.int .u64 z)) := by
 have b' : Boxed W.drew H 22 (.int .u64 y) := b
 refine ⟨((KeepsOthers.drew W).trans (KeepsOthers.setCell _ _ _)).from _, ⟨((KeepsOthers.drew W).trans (KeepsOthers.setCell _ _ _)).walks, fun j hj => ?_⟩, by rw [e]; exact b'.set _, hB.drew.setCell (p := ⟨H, 0, none⟩) hH _⟩
 exact Below.heap_setCell _ _ _ _ (by show j ≠ H; omega)
theorem orI (x m : Int) (k : Nat) (hx0 : 0 ≤ x) (hx : x < 2 ^ k) (hm0 : 0 ≤ m) (hk : x + m * 2 ^ k < 18446744073709551616) : bits .or .u64 x (IntKind.u64.wrap (m * 2 ^ k)) = x + m * 2 ^ k := by
 obtain ⟨x', rfl⟩ := Int.eq_ofNat_of_zero_le hx0
 obtain ⟨m', rfl⟩ := Int.eq_ofNat_of_zero_le hm0
 have e2 : ((2 : Int) ^ k) = ((2 ^ k : Nat) : Int) := by simp
 rw [e2] at hx hk ⊢
 have h1 : x' < 2 ^ k := Int.ofNat_lt.1 hx
 have h2 : x' + m' * 2 ^ k < 18446744073709551616 := by rw [← Int.natCast_mul, ← Int.natCast_add] at hk; exact Int.ofNat_lt.1 hk
 have e3 : ((m' : Int) * ((2 ^ k : Nat) : Int)) = ((m' * 2 ^ k : Nat) : Int) := (Int.natCast_mul _ _).symm
 rw [e3]
 have e4 : IntKind.u64.wrap ((m' * 2 ^ k : Nat) : Int) = ((m' * 2 ^ k : Nat) : Int) := by rw [IntKind.wrap_u64]; omega
 rw [e4, u64_or_nat _ _ (by omega) (by omega), Nat.or_comm, Nat.mul_comm m', ← Nat.two_pow_add_eq_or_of_lt h1, Nat.add_comm, Int.natCast_add]
variable {x a : Int}
theorem stA (h0 : 0 ≤ x) (h1 : x < 256) (a0 : 0 ≤ a) (a1 : a < 16) : bits .or .u64 x (IntKind.u64.wrap (IntKind.u64.wrap a * 2 ^ 8)) = x + a * 256 := by
 rw [show IntKind.u64.wrap a = a by rw [IntKind.wrap_u64]; omega, orI x a 8 h0 h1 a0 (by show x + a * 256 < _; omega)]; rfl
theorem stB (h0 : 0 ≤ x) (h1 : x < 4096) (a0 : 0 ≤ a) (a1 : a < 16) : bits .or .u64 x (IntKind.u64.wrap (IntKind.u64.wrap a * 2 ^ 12)) = x + a * 4096 := by
 rw [show IntKind.u64.wrap a = a by rw [IntKind.wrap_u64]; omega, orI x a 12 h0 h1 a0 (by show x + a * 4096 < _; omega)]; rfl
theorem stC (h0 : 0 ≤ x) (h1 : x < 65536) (a0 : 0 ≤ a) (a1 : a < 16) : bits .or .u64 x (IntKind.u64.wrap (IntKind.u64.wrap a * 2 ^ 16)) = x + a * 65536 := by
 rw [show IntKind.u64.wrap a = a by rw [IntKind.wrap_u64]; omega, orI x a 16 h0 h1 a0 (by show x + a * 65536 < _; omega)]; rfl
theorem stI {x i : Int} (h0 : 0 ≤ x) (h1 : x < 4294967296) : bits .or .u64 x (IntKind.u64.wrap (IntKind.u64.wrap i * 2 ^ 32)) = x + i % 4294967296 * 4294967296 := by
 have e : IntKind.u64.wrap (IntKind.u64.wrap i * 2 ^ 32) = IntKind.u64.wrap (i % 4294967296 * 2 ^ 32) := by
  rw [IntKind.wrap_u64, IntKind.wrap_u64, IntKind.wrap_u64]
  show i % 18446744073709551616 * 4294967296 % 18446744073709551616 = i % 4294967296 * 4294967296 % 18446744073709551616
  omega
 rw [e, orI x (i % 4294967296) 32 h0 h1 (by omega) (by show x + i % 4294967296 * 4294967296 < _; omega)]; rfl
theorem accW_fit (op a b c i : Int) (h : Ins.fitB op a b c i = true) (hi0 : -2147483648 ≤ i) (hi1 : i < 2147483648) : accW (Ins.shp op) op a b c i (List.range (Ins.shp op).length) = Ins.wordI op a b c i := by
 obtain ⟨⟨o0, o1⟩, ⟨a0, a1⟩, ⟨b0, b1⟩, c0, c1⟩ := Ins.fit_bounds h
 have hw : Ins.wordI op a b c i = Ins.encI op a b c i := by unfold Ins.wordI; rw [h]; rfl
 rw [hw]
 have hz : (Ins.us op 97 = false → a = 0) ∧ (Ins.us op 98 = false → b = 0) ∧ (Ins.us op 99 = false → c = 0) ∧ (Ins.us op 105 = false → i = 0) := by
  simp only [Ins.fitB, Ins.rg, Bool.and_eq_true, Bool.or_eq_true, beq_iff_eq] at h
  obtain ⟨⟨⟨⟨_, ha⟩, hb⟩, hc⟩, hi⟩ := h
  exact ⟨fun e => ha.elim id (fun k => by rw [e] at k; simp at k), fun e => hb.elim id (fun k => by rw [e] at k; simp at k), fun e => hc.elim id (fun k => by rw [e] at k; simp at k), fun e => hi.elim id (fun k => by rw [e] at k; simp at k)⟩
 obtain ⟨za, zb, zc, zi⟩ := hz
 unfold Ins.us at za zb zc zi
 unfold Ins.encI
 rcases Ins.shp_cases op with h | h | h | h | h | h | h <;> rw [h] at za zb zc zi ⊢
 ·obtain rfl := zb rfl
  obtain rfl := zc rfl
  show bits .or .u64 (bits .or .u64 op (IntKind.u64.wrap (IntKind.u64.wrap a * 2 ^ 8))) (IntKind.u64.wrap (IntKind.u64.wrap i * 2 ^ 32)) = _
  rw [stA o0 (by omega) a0 a1, stI (by omega) (by omega)]; omega
 ·obtain rfl := zc rfl
  obtain rfl := zi rfl
  show bits .or .u64 (bits .or .u64 op (IntKind.u64.wrap (IntKind.u64.wrap a * 2 ^ 8))) (IntKind.u64.wrap (IntKind.u64.wrap b * 2 ^ 12)) = _
  rw [stA o0 (by omega) a0 a1, stB (by omega) (by omega) b0 b1]; omega
 ·obtain rfl := zi rfl
  show bits .or .u64 (bits .or .u64 (bits .or .u64 op (IntKind.u64.wrap (IntKind.u64.wrap a * 2 ^ 8))) (IntKind.u64.wrap (IntKind.u64.wrap b * 2 ^ 12))) (IntKind.u64.wrap (IntKind.u64.wrap c * 2 ^ 16)) = _
  rw [stA o0 (by omega) a0 a1, stB (by omega) (by omega) b0 b1, stC (by omega) (by omega) c0 c1]; omega
 ·obtain rfl := zc rfl
  show bits .or .u64 (bits .or .u64 (bits .or .u64 op (IntKind.u64.wrap (IntKind.u64.wrap a * 2 ^ 8))) (IntKind.u64.wrap (IntKind.u64.wrap b * 2 ^ 12))) (IntKind.u64.wrap (IntKind.u64.wrap i * 2 ^ 32)) = _
  rw [stA o0 (by omega) a0 a1, stB (by omega) (by omega) b0 b1, stI (by omega) (by omega)]; omega
 ·obtain rfl := za rfl
  obtain rfl := zb rfl
  obtain rfl := zc rfl
  show bits .or .u64 op (IntKind.u64.wrap (IntKind.u64.wrap i * 2 ^ 32)) = _
  rw [stI (by omega) (by omega)]; omega
 ·obtain rfl := zb rfl
  obtain rfl := zc rfl
  obtain rfl := zi rfl
  show bits .or .u64 op (IntKind.u64.wrap (IntKind.u64.wrap a * 2 ^ 8)) = _
  rw [stA o0 (by omega) a0 a1]; omega
 ·obtain rfl := za rfl
  obtain rfl := zb rfl
  obtain rfl := zc rfl
  obtain rfl := zi rfl
  show op = _
  omega
theorem xVz (op a b c i : Int) (hi0 : -2147483648 ≤ i) (hi1 : i < 2147483648) (w : World) :
  Calls prog 110 #[.agg #[.int .i64 op, .int .i64 a, .int .i64 b, .int .i64 c, .int .i32 i]] w fun e w' => e = .returned (.int .u64 (Ins.wordI op a b c i)) ∧ Below w.heap.size w w' := by
 refine (callsIn_wide (n := 5)).1 ?_
 refine callsIn_of_wp_marks func110 rfl trivial ?_ rfl
 simp only [ntmps110, List.size_toArray, List.length_cons, List.length_nil, Nat.reduceAdd, Nat.reduceSub, Array.replicate_succ, Array.replicate_zero, List.push_toArray, List.append_toArray, List.nil_append, List.cons_append]
 have bI := Ib.new w op a b c i
 cases hop : Ins.fitB op a b c i with
 | false =>
  have hr : Hid (Ins.wordI op a b c i = 0) := by show _ = _; unfold Ins.wordI; rw [hop]; rfl
  gi_wp2_with (refine ⟨trivial, ?_⟩; gi_at_call 109; refine (callsIn_wide.2 (fit_any _ _ _ _ _ hi0 hi1 _)).mono ?_; rintro e w' ⟨rfl, hb⟩)
  refine ⟨.int .u64 0, ?_, by rw [hr.out], ((Below.refl _ w).alloc (Nat.le_refl _) _).trans (hb.mono (by simp))⟩
  simp [results, Tryz.f110, go_sem]
 | true =>
  have hop' := Ins.fit_bounds hop
  have ho0 : 0 ≤ op := hop'.1.1
  have ho1 : op < 26 := hop'.1.2
  have bI2 := fun (W : World) (hb : Below (w.alloc (.cells #[.int .i64 op, .int .i64 a, .int .i64 b, .int .i64 c, .int .i32 i] 68)).heap.size (w.alloc (.cells #[.int .i64 op, .int .i64 a, .int .i64 b, .int .i64 c, .int .i32 i] 68)) W) => (bI.next hb).cells
  clear hop'
  gi_wp2_with (refine ⟨trivial, ?_⟩; gi_at_call 109; refine (callsIn_wide.2 (fit_any _ _ _ _ _ hi0 hi1 _)).mono ?_; rintro e w' ⟨rfl, hb⟩; obtain ⟨c0, c1, c2, c3, c4⟩ := bI2 _ hb)
  have bI3 := (bI.next hb).alloc (.cells #[.int .u64 op] 22)
  have bW := Boxed.new w' 22 (.int .u64 op)
  have hB1 : Below w.heap.size w (w'.alloc (.cells #[.int .u64 op] 22)) := (((Below.refl _ w).alloc (Nat.le_refl _) _).trans (hb.mono (by simp))).alloc (by have := hb.size; simp at this; omega) _
  have hlt : w.heap.size < w'.heap.size := by have := hb.size; simp at this; omega
  obtain ⟨H, hH⟩ : ∃ H, w'.heap.size = H := ⟨_, rfl⟩
  have hs1 : (w'.alloc (.cells #[.int .u64 op] 22)).heap.size = H + 1 := by simp [hH]
  obtain ⟨W1, hW1⟩ : ∃ W1, w'.alloc (.cells #[.int .u64 op] 22) = W1 := ⟨_, rfl⟩
  rw [hW1] at bI3 bW hB1 hs1
  rw [hW1]
  rw [hH] at bW hlt
  rw [hH]
  clear c0 c1 c2 c3 c4 bI2 hb bI hW1 hH
  obtain ⟨c0, c1, c2, c3, c4⟩ := bI3.cells
  refine wpIn_wide.2 ?_
  refine wp_region_noPanic ?_
  go_region_held3 (fun w' => w'.cell? ⟨w.heap.size, 0, none⟩ = some (.int .i64 op) ∧ w'.cell? ⟨w.heap.size, 1, none⟩ = some (.int .i64 a) ∧ w'.cell? ⟨w.heap.size, 2, none⟩ = some (.int .i64 b) ∧ w'.cell? ⟨w.heap.size, 3, none⟩ = some (.int .i64 c) ∧ w'.cell? ⟨w.heap.size, 4, none⟩ = some (.int .i32 i)) (go_keep) (first | (go_at_call 130; refine (jQz _ _).mono ?_; rintro e w2 ⟨rfl, rfl⟩) | (go_at_call 131; refine (jYz _ _ _ _ _ _ _).mono ?_; rintro e w2 ⟨rfl, rfl⟩))
  refine NoPanic.normal ?_
  have bW0 := (bW.alloc (.cells #[.int .i64 op, .int .i64 a, .int .i64 b, .int .i64 c, .int .i32 i] 68)).alloc (.cells #[.string (Ins.shS op)] 9)
  have bI0 := (Ib.new W1 op a b c i).alloc (.cells #[.string (Ins.shS op)] 9)
  have bL0 := Boxed.new (W1.alloc (.cells #[.int .i64 op, .int .i64 a, .int .i64 b, .int .i64 c, .int .i32 i] 68)) 9 (.string (Ins.shS op))
  simp only [World.size_alloc, hs1] at bI0 bL0
  have bW1 : Boxed (((W1.alloc (.cells #[.int .i64 op, .int .i64 a, .int .i64 b, .int .i64 c, .int .i32 i] 68)).alloc (.cells #[.string (Ins.shS op)] 9)).drew) H 22 (.int .u64 op) := bW0
  have bI1 : Ib (((W1.alloc (.cells #[.int .i64 op, .int .i64 a, .int .i64 b, .int .i64 c, .int .i32 i] 68)).alloc (.cells #[.string (Ins.shS op)] 9)).drew) (H + 1) op a b c i := bI0
  have bL1 : Boxed (((W1.alloc (.cells #[.int .i64 op, .int .i64 a, .int .i64 b, .int .i64 c, .int .i32 i] 68)).alloc (.cells #[.string (Ins.shS op)] 9)).drew) (H + 1 + 1) 9 (.string (Ins.shS op)) := bL0
  have hB2 : Below w.heap.size w (((W1.alloc (.cells #[.int .i64 op, .int .i64 a, .int .i64 b, .int .i64 c, .int .i32 i] 68)).alloc (.cells #[.string (Ins.shS op)] 9)).drew) := ((hB1.alloc hB1.size _).alloc (by simp; have := hB1.size; omega) _).drew
  have hs2 : (((W1.alloc (.cells #[.int .i64 op, .int .i64 a, .int .i64 b, .int .i64 c, .int .i32 i] 68)).alloc (.cells #[.string (Ins.shS op)] 9)).drew).heap.size = H + 3 := by show ((W1.alloc _).alloc _).heap.size = _; simp [hs1]
  obtain ⟨W0, hW0⟩ : ∃ W0, ((W1.alloc (.cells #[.int .i64 op, .int .i64 a, .int .i64 b, .int .i64 c, .int .i32 i] 68)).alloc (.cells #[.string (Ins.shS op)] 9)).drew = W0 := ⟨_, rfl⟩
  rw [hW0] at bW1 bI1 bL1 hB2 hs2
  rw [hW0]
  clear hW0 bW0 bI0 bL0 bI3 bW c0 c1 c2 c3 c4
  have hacc := accW_fit op a b c i hop hi0 hi1
  have HA : Hid (accW (Ins.shp op) op a b c i (List.range (Ins.shp op).length) = Ins.wordI op a b c i) := hacc
  clear hacc hop
  gi_wp2
  refine wpIn_rangeFunc_ownH rfl (by omega) (gf := 144) (lb := #[.pointer (some ⟨H + 1 + 1, 0, none⟩), .pointer (some ⟨H + 1, 0, none⟩)]) rfl trivial (enters_of func144 (by kernel_rfl) rfl)
   (kxz _ (by omega) (H + 1 + 1) (H + 1) (Ins.shS op) (Ins.shp op) (by show (Ins.shp op).toArray.toList = _; rfl) (shp_asc op) op a b c i hi0 hi1 W0 bL1 bI1) keepsK_t (keepsK_b (fun b hb => by omega)) (Below.refl _ _) (fun _ => rfl)
   (fun pre W => Boxed W H 22 (.int .u64 (accW (Ins.shp op) op a b c i pre)) ∧ Below w.heap.size w W)
   (fun cd pre W => False)
   (OwnFrom.and (Own.from (boxed_own _ _ _) _) (ownFrom_below (Nat.le_refl _) (by omega)))
   (fun cd => fun s X Y row hs hg hr => hs)
   ⟨bW1, hB2⟩
   (fun x a' W => a' = { tmps := #[.agg #[.int .i64 op, .int .i64 a, .int .i64 b, .int .i64 c, .int .i32 i], .pointer (some ⟨w.heap.size, 0, none⟩), .int .u64 0, .pointer (some ⟨H, 0, none⟩), .int .i32 (ltr (Ins.shp op) x), .int .i64 (prt a b c i (ltr (Ins.shp op) x)), .agg #[.int .i64 op, .int .i64 a, .int .i64 b, .int .i64 c, .int .i32 i], .bool true, .bool false, .pointer (some ⟨w.heap.size, 0, none⟩), .int .i64 op, .int .u64 op, .agg #[.int .i64 op, .int .i64 a, .int .i64 b, .int .i64 c, .int .i32 i], .pointer (some ⟨w.heap.size, 0, none⟩), .int .i64 op, .string (Ins.shS op), .func (.func 144) #[] #[.pointer (some ⟨H + 1 + 1, 0, none⟩), .pointer (some ⟨H + 1, 0, none⟩)], .int .i32 (ltr (Ins.shp op) x), .int .i64 (prt a b c i (ltr (Ins.shp op) x)), undef, undef, undef, undef, undef, undef, undef, undef], defers := [] })
   (fun x a' _ X Y row hs hg hr => hs)
   ?assign ?body ?done ?stop
  case assign =>
   rintro l pre x W K hI hK
   dsimp only [encX]
   gi_wp2
   exact hK _ _ (KeepsFrom.refl _ _) (Keeps.refl _ _) hI rfl
  case body =>
   rintro l pre x a' W hl ⟨r, hr⟩ ⟨bW2, hB3⟩ rfl hlt
   have hmx : prog.follows .mixedOrders = true := by kernel_rfl
   have hP : Hid (accW (Ins.shp op) op a b c i (pre ++ [x]) = stepW (Ins.shp op) a b c i (accW (Ins.shp op) op a b c i pre) x) := gLz _ _ _ _ _ _ _ _
   obtain ⟨y, hy⟩ : ∃ y, accW (Ins.shp op) op a b c i pre = y := ⟨_, rfl⟩
   rw [hy] at bW2 hP
   clear hy
   have hst : Hid (stepW (Ins.shp op) a b c i y x = bits .or .u64 y (IntKind.u64.wrap (IntKind.u64.wrap (prt a b c i (ltr (Ins.shp op) x)) * 2 ^ (plc (ltr (Ins.shp op) x)).toNat))) := rfl
   obtain ⟨L, hL⟩ : ∃ L, ltr (Ins.shp op) x = L := ⟨_, rfl⟩
   obtain ⟨v, hv⟩ : ∃ v, prt a b c i (ltr (Ins.shp op) x) = v := ⟨_, rfl⟩
   rw [hv] at hst ⊢
   rw [hL] at hst ⊢
   clear hL hv
   obtain ⟨p, hp, hp64⟩ := plc_nat L
   rw [hp, Int.toNat_natCast] at hst
   have hpl : ∀ W2, Calls prog 108 #[.int .i32 L] W2 fun e w' => e = .returned (.int .i64 (p : Int)) ∧ W2 = w' := fun W2 => by rw [← hp]; exact place_any L W2
   clear hp
   have cW := bW2.cell
   have fW := bW2.frozen
   have hlt2 : w.heap.size ≤ H := by omega
   gi_wp2
   refine region_round (S := fun _ => True) hmx (by kernel_rfl) (by rintro ⟨_, _, h⟩; exact h) trivial (fun hS => ?_)
   refine wpAnyH_take (i := 1) (v := .int .i64 v) rfl (by kernel_rfl) (by kernel_rfl) (by kernel_rfl) (fun _ _ _ h => h) (Or.inl ⟨by rfl, fun w2 hS2 => by go_simp⟩) hS ?_
   simp only [Act.put]
   refine wpAnyH_take (i := 2) (v := .int .u64 (IntKind.u64.wrap v)) rfl (by kernel_rfl) (by kernel_rfl) (by kernel_rfl) (fun _ _ _ h => h) (Or.inl ⟨by rfl, fun w2 hS2 => by go_simp⟩) hS ?_
   simp only [Act.put]
   refine wpAnyH_take (i := 3) (v := .int .i32 L) rfl (by kernel_rfl) (by kernel_rfl) (by kernel_rfl) (fun _ _ _ h => h) (Or.inl ⟨by rfl, fun w2 hS2 => by go_simp⟩) hS ?_
   simp only [Act.put]
   refine wpAnyH_ready (rs := [0, 4]) (by kernel_rfl) (by simp) ?_
   refine AllReadyH.cons rfl (fun K hK => ?_) (AllReadyH.cons rfl (fun K hK => ?_) AllReadyH.nil)
   ·go_simp
    refine hK.out _ _ hS (fun _ => ?_)
    clear hK K
    refine wpAnyH_ready (rs := [4]) (by kernel_rfl) (by simp) ?_
    refine AllReadyH.cons rfl (fun K hK => ?_) AllReadyH.nil
    go_simp
    refine (hpl _).mono ?_
    rintro e w1 ⟨rfl, rfl⟩
    refine hK.out _ _ trivial (fun _ => ?_)
    clear hK K
    refine wpAnyH_take (i := 5) (v := .int .u64 (IntKind.u64.wrap (IntKind.u64.wrap v * 2 ^ p))) rfl (by kernel_rfl) (by kernel_rfl) (by kernel_rfl) (fun _ _ _ h => h) (Or.inl ⟨by rfl, fun w2 hS2 => by go_simp⟩) hS ?_
    simp only [Act.put]
    refine wpAnyH_take (i := 6) (v := .int .u64 (bits .or .u64 y (IntKind.u64.wrap (IntKind.u64.wrap v * 2 ^ p)))) rfl (by kernel_rfl) (by kernel_rfl) (by kernel_rfl) (fun _ _ _ h => h) (Or.inl ⟨by rfl, fun w2 hS2 => by go_simp⟩) hS ?_
    simp only [Act.put]
    refine wpAnyH_ready (rs := [7]) (by kernel_rfl) (by simp) ?_
    refine AllReadyH.cons rfl (fun K hK => ?_) AllReadyH.nil
    go_simp
    refine hK.out _ _ trivial (fun _ => ?_)
    clear hK K
    refine wpAnyH_done (by kernel_rfl) ?_ _
    exact fin_W hB3 bW2 hlt2 (hP.out.trans hst.out)
   ·go_simp
    refine (hpl _).mono ?_
    rintro e w1 ⟨rfl, rfl⟩
    refine hK.out _ _ trivial (fun _ => ?_)
    clear hK K
    refine wpAnyH_take (i := 5) (v := .int .u64 (IntKind.u64.wrap (IntKind.u64.wrap v * 2 ^ p))) rfl (by kernel_rfl) (by kernel_rfl) (by kernel_rfl) (fun _ _ _ h => h) (Or.inl ⟨by rfl, fun w2 hS2 => by go_simp⟩) hS ?_
    simp only [Act.put]
    refine wpAnyH_ready (rs := [0]) (by kernel_rfl) (by simp) ?_
    refine AllReadyH.cons rfl (fun K hK => ?_) AllReadyH.nil
    go_simp
    refine hK.out _ _ trivial (fun _ => ?_)
    clear hK K
    refine wpAnyH_take (i := 6) (v := .int .u64 (bits .or .u64 y (IntKind.u64.wrap (IntKind.u64.wrap v * 2 ^ p)))) rfl (by kernel_rfl) (by kernel_rfl) (by kernel_rfl) (fun _ _ _ h => h) (Or.inl ⟨by rfl, fun w2 hS2 => by go_simp⟩) hS ?_
    simp only [Act.put]
    refine wpAnyH_ready (rs := [7]) (by kernel_rfl) (by simp) ?_
    refine AllReadyH.cons rfl (fun K hK => ?_) AllReadyH.nil
    go_simp
    refine hK.out _ _ trivial (fun _ => ?_)
    clear hK K
    refine wpAnyH_done (by kernel_rfl) ?_ _
    exact fin_W hB3 bW2 hlt2 (hP.out.trans hst.out)
  case done =>
   rintro D ys W hD rfl ⟨bW2, hB3⟩ hK
   rw [HA.out] at bW2
   have cW := bW2.cell
   gi_wp2
   refine ⟨by simp, .inl ⟨_, _, rfl, run_takeDeferred hK, ?_⟩⟩
   refine ⟨.int .u64 (Ins.wordI op a b c i), ?_, rfl, hB3.trans (belowK_b (w := w) (Nat.le_refl _) W D _ _ (by omega) hK rfl rfl)⟩
   simp [results, Tryz.f110, go_sem]
  case stop =>
   rintro D cd pre W hD hpre hf hK
   exact hf.elim
end InM
namespace InM
open Go.RowKit Go.Shelf
theorem vKz {x : Int} (h0 : 0 ≤ x) (h1 : x < 18446744073709551616) : bits .and .u64 x 255 = Ins.fOp x := by
 obtain ⟨n, rfl⟩ := Int.eq_ofNat_of_zero_le h0
 have h2 : n < 18446744073709551616 := by omega
 have := u64_and_nat n 255 h2 (by omega)
 rw [show ((255 : Nat) : Int) = 255 from rfl] at this
 rw [this, show (255 : Nat) = 2 ^ 8 - 1 from rfl, Nat.and_two_pow_sub_one_eq_mod]
 unfold Ins.fOp
 omega
theorem u1z {x : Int} (h0 : 0 ≤ x) (h1 : x < 18446744073709551616) : IntKind.i32.wrap (x / 4294967296) = Ins.fI x := by
 unfold Ins.fI
 rw [IntKind.wrap_i32]
 split <;> omega
def set5 (W : World) (B : Nat) (op a b c i : Int) : World := ((((W.setCell ⟨B, 0, none⟩ (.int .i64 op)).setCell ⟨B, 1, none⟩ (.int .i64 a)).setCell ⟨B, 2, none⟩ (.int .i64 b)).setCell ⟨B, 3, none⟩ (.int .i64 c)).setCell ⟨B, 4, none⟩ (.int .i32 i)
theorem Ib.set5 {W : World} {B : Nat} {op a b c i : Int} (h : Ib W B op a b c i) (op' a' b' c' i' : Int) : Ib (set5 W B op' a' b' c' i') B op' a' b' c' i' := by
 have h1 := heap_setCell_same W B 0 _ 68 (.int .i64 op') h
 have h2 := heap_setCell_same _ B 1 _ 68 (.int .i64 a') h1
 have h3 := heap_setCell_same _ B 2 _ 68 (.int .i64 b') h2
 have h4 := heap_setCell_same _ B 3 _ 68 (.int .i64 c') h3
 have h5 := heap_setCell_same _ B 4 _ 68 (.int .i32 i') h4
 exact h5.trans (by simp)
theorem xQz {w W : World} {B : Nat} (h : Below B w W) (op a b c i : Int) : Below B w (set5 W B op a b c i) :=
 ((((h.setCell (p := ⟨B, 0, none⟩) (Nat.le_refl _) _).setCell (p := ⟨B, 1, none⟩) (Nat.le_refl _) _).setCell (p := ⟨B, 2, none⟩) (Nat.le_refl _) _).setCell (p := ⟨B, 3, none⟩) (Nat.le_refl _) _).setCell (p := ⟨B, 4, none⟩) (Nat.le_refl _) _
theorem decode_yes (x : Int) (h0 : 0 ≤ x) (h1 : x < 18446744073709551616) (hd : Ins.decB x = true) (w : World) :
  Calls prog 78 #[.int .u64 x] w fun e w' => e = .returned (.tuple #[.agg #[.int .i64 (Ins.fOp x), .int .i64 (Ins.fA x), .int .i64 (Ins.fB x), .int .i64 (Ins.fC x), .int .i32 (Ins.fI x)], .bool true]) ∧ Below w.heap.size w w' := by
 have hf : Ins.fitB (Ins.fOp x) (Ins.fA x) (Ins.fB x) (Ins.fC x) (Ins.fI x) = true := by simp only [Ins.decB, Ins.fitW, Bool.and_eq_true] at hd; exact hd.1
 have hz : x / 1048576 % 4096 = 0 := by simp only [Ins.decB, Ins.fitW, Bool.and_eq_true, decide_eq_true_eq] at hd; exact hd.2
 have he : Ins.wordI (Ins.fOp x) (Ins.fA x) (Ins.fB x) (Ins.fC x) (Ins.fI x) = x := by unfold Ins.wordI; rw [hf, if_pos rfl]; exact (Ins.enc_iff h0 h1).2 hz
 clear hz hd
 obtain ⟨_, _, _, _, hi0, hi1⟩ := Ins.fields_bounds h0 h1
 have hA := vKz h0 h1
 have hI := u1z h0 h1
 have bI := Ib.new (w.alloc (.cells #[.int .i64 0, .int .i64 0, .int .i64 0, .int .i64 0, .int .i32 0] 68)) (Ins.fOp x) (Ins.fA x) (Ins.fB x) (Ins.fC x) (Ins.fI x)
 have bR := (Ib.new w 0 0 0 0 0).alloc (.cells #[.int .i64 (Ins.fOp x), .int .i64 (Ins.fA x), .int .i64 (Ins.fB x), .int .i64 (Ins.fC x), .int .i32 (Ins.fI x)] 68)
 simp only [World.size_alloc] at bI bR
 have hZ : Below w.heap.size w ((w.alloc (.cells #[.int .i64 0, .int .i64 0, .int .i64 0, .int .i64 0, .int .i32 0] 68)).alloc (.cells #[.int .i64 (Ins.fOp x), .int .i64 (Ins.fA x), .int .i64 (Ins.fB x), .int .i64 (Ins.fC x), .int .i32 (Ins.fI x)] 68)) := ((Below.refl _ w).alloc (Nat.le_refl _) _).alloc (by simp) _
 go_enter func78, ntmps78
 go_wp2_with (first | (go_at_call 107; (with_reducible refine (jnz _ _ h0 h1).mono ?_); rintro e w' ⟨rfl, rfl⟩) | (go_at_call 107; (with_reducible refine (jmz _ _ h0 h1).mono ?_); rintro e w' ⟨rfl, rfl⟩) | (go_at_call 107; (with_reducible refine (jlz _ _ h0 h1).mono ?_); rintro e w' ⟨rfl, rfl⟩) | (go_at_call 108; refine (place_any _ _).mono ?_; rintro e w' ⟨rfl, rfl⟩; rw [show plc 105 = 32 from rfl]) | (go_at_call 109; refine (fit_any _ _ _ _ _ hi0 hi1 _).mono ?_; rintro e w1 ⟨rfl, hb1⟩; have bI1 := bI.next hb1; have bR1 := bR.next hb1; have hB1 := btz hZ hb1; obtain ⟨c0, c1, c2, c3, c4⟩ := bI1.cells; skip) | (go_at_call 110; refine (xVz _ _ _ _ _ hi0 hi1 _).mono ?_; rintro e w2 ⟨rfl, hb2⟩; clear c0 c1 c2 c3 c4; have bI2 := bI1.next hb2; have bR2 := bR1.next hb2; have hB2 := btz hB1 hb2; obtain ⟨c0, c1, c2, c3, c4⟩ := bI2.cells; have f0 := bR2.frozen 0; have f1 := bR2.frozen 1; have f2 := bR2.frozen 2; have f3 := bR2.frozen 3; have f4 := bR2.frozen 4; obtain ⟨r0, r1, r2, r3, r4⟩ := bR2.cells))
 obtain ⟨g0, g1, g2, g3, g4⟩ := (bR2.set5 (Ins.fOp x) (Ins.fA x) (Ins.fB x) (Ins.fC x) (Ins.fI x)).cells
 unfold set5 at g0 g1 g2 g3 g4
 refine bodyPost_ret (v := .tuple #[.agg #[.int .i64 (Ins.fOp x), .int .i64 (Ins.fA x), .int .i64 (Ins.fB x), .int .i64 (Ins.fC x), .int .i32 (Ins.fI x)], .bool true]) (by simp [results, Tryz.f78, go_sem, g0, g1, g2, g3, g4]) rfl ?_
 exact ⟨rfl, xQz hB2 _ _ _ _ _⟩
theorem yMz (x : Int) (h0 : 0 ≤ x) (h1 : x < 18446744073709551616) (hf : Ins.fitB (Ins.fOp x) (Ins.fA x) (Ins.fB x) (Ins.fC x) (Ins.fI x) = false) (w : World) :
  Calls prog 78 #[.int .u64 x] w fun e w' => e = .returned (.tuple #[.agg #[.int .i64 0, .int .i64 0, .int .i64 0, .int .i64 0, .int .i32 0], .bool false]) ∧ Below w.heap.size w w' := by
 obtain ⟨_, _, _, _, hi0, hi1⟩ := Ins.fields_bounds h0 h1
 have hA := vKz h0 h1
 have hI := u1z h0 h1
 have bI := Ib.new (w.alloc (.cells #[.int .i64 0, .int .i64 0, .int .i64 0, .int .i64 0, .int .i32 0] 68)) (Ins.fOp x) (Ins.fA x) (Ins.fB x) (Ins.fC x) (Ins.fI x)
 have bR := (Ib.new w 0 0 0 0 0).alloc (.cells #[.int .i64 (Ins.fOp x), .int .i64 (Ins.fA x), .int .i64 (Ins.fB x), .int .i64 (Ins.fC x), .int .i32 (Ins.fI x)] 68)
 simp only [World.size_alloc] at bI bR
 have hZ : Below w.heap.size w ((w.alloc (.cells #[.int .i64 0, .int .i64 0, .int .i64 0, .int .i64 0, .int .i32 0] 68)).alloc (.cells #[.int .i64 (Ins.fOp x), .int .i64 (Ins.fA x), .int .i64 (Ins.fB x), .int .i64 (Ins.fC x), .int .i32 (Ins.fI x)] 68)) := ((Below.refl _ w).alloc (Nat.le_refl _) _).alloc (by simp) _
 go_enter func78, ntmps78
 go_wp2_with (first | (go_at_call 107; (with_reducible refine (jnz _ _ h0 h1).mono ?_); rintro e w' ⟨rfl, rfl⟩) | (go_at_call 107; (with_reducible refine (jmz _ _ h0 h1).mono ?_); rintro e w' ⟨rfl, rfl⟩) | (go_at_call 107; (with_reducible refine (jlz _ _ h0 h1).mono ?_); rintro e w' ⟨rfl, rfl⟩) | (go_at_call 108; refine (place_any _ _).mono ?_; rintro e w' ⟨rfl, rfl⟩; rw [show plc 105 = 32 from rfl]) | (go_at_call 109; refine (fit_any _ _ _ _ _ hi0 hi1 _).mono ?_; rintro e w1 ⟨rfl, hb1⟩; have bI1 := bI.next hb1; have bR1 := bR.next hb1; have hB1 := btz hZ hb1; have f0 := bR1.frozen 0; have f1 := bR1.frozen 1; have f2 := bR1.frozen 2; have f3 := bR1.frozen 3; have f4 := bR1.frozen 4; obtain ⟨r0, r1, r2, r3, r4⟩ := bR1.cells) | (go_at_call 110; refine (xVz _ _ _ _ _ hi0 hi1 _).mono ?_; rintro e w2 ⟨rfl, hb2⟩; clear c0 c1 c2 c3 c4; have bI2 := bI1.next hb2; have bR2 := bR1.next hb2; have hB2 := btz hB1 hb2; obtain ⟨c0, c1, c2, c3, c4⟩ := bI2.cells; have f0 := bR2.frozen 0; have f1 := bR2.frozen 1; have f2 := bR2.frozen 2; have f3 := bR2.frozen 3; have f4 := bR2.frozen 4; obtain ⟨r0, r1, r2, r3, r4⟩ := bR2.cells))
 obtain ⟨g0, g1, g2, g3, g4⟩ := (bR1.set5 0 0 0 0 0).cells
 unfold set5 at g0 g1 g2 g3 g4
 refine bodyPost_ret (v := .tuple #[.agg #[.int .i64 0, .int .i64 0, .int .i64 0, .int .i64 0, .int .i32 0], .bool false]) (by simp [results, Tryz.f78, go_sem, g0, g1, g2, g3, g4]) rfl ?_
 exact ⟨rfl, xQz hB1 _ _ _ _ _⟩
theorem yLz (x : Int) (h0 : 0 ≤ x) (h1 : x < 18446744073709551616) (hf : Ins.fitB (Ins.fOp x) (Ins.fA x) (Ins.fB x) (Ins.fC x) (Ins.fI x) = true) (hz : ¬ x / 1048576 % 4096 = 0) (w : World) :
  Calls prog 78 #[.int .u64 x] w fun e w' => e = .returned (.tuple #[.agg #[.int .i64 0, .int .i64 0, .int .i64 0, .int .i64 0, .int .i32 0], .bool false]) ∧ Below w.heap.size w w' := by
 have he : ¬ Ins.wordI (Ins.fOp x) (Ins.fA x) (Ins.fB x) (Ins.fC x) (Ins.fI x) = x := by unfold Ins.wordI; rw [hf, if_pos rfl]; exact fun h => hz ((Ins.enc_iff h0 h1).1 h)
 clear hz
 obtain ⟨_, _, _, _, hi0, hi1⟩ := Ins.fields_bounds h0 h1
 have hA := vKz h0 h1
 have hI := u1z h0 h1
 have bI := Ib.new (w.alloc (.cells #[.int .i64 0, .int .i64 0, .int .i64 0, .int .i64 0, .int .i32 0] 68)) (Ins.fOp x) (Ins.fA x) (Ins.fB x) (Ins.fC x) (Ins.fI x)
 have bR := (Ib.new w 0 0 0 0 0).alloc (.cells #[.int .i64 (Ins.fOp x), .int .i64 (Ins.fA x), .int .i64 (Ins.fB x), .int .i64 (Ins.fC x), .int .i32 (Ins.fI x)] 68)
 simp only [World.size_alloc] at bI bR
 have hZ : Below w.heap.size w ((w.alloc (.cells #[.int .i64 0, .int .i64 0, .int .i64 0, .int .i64 0, .int .i32 0] 68)).alloc (.cells #[.int .i64 (Ins.fOp x), .int .i64 (Ins.fA x), .int .i64 (Ins.fB x), .int .i64 (Ins.fC x), .int .i32 (Ins.fI x)] 68)) := ((Below.refl _ w).alloc (Nat.le_refl _) _).alloc (by simp) _
 go_enter func78, ntmps78
 go_wp2_with (first | (go_at_call 107; (with_reducible refine (jnz _ _ h0 h1).mono ?_); rintro e w' ⟨rfl, rfl⟩) | (go_at_call 107; (with_reducible refine (jmz _ _ h0 h1).mono ?_); rintro e w' ⟨rfl, rfl⟩) | (go_at_call 107; (with_reducible refine (jlz _ _ h0 h1).mono ?_); rintro e w' ⟨rfl, rfl⟩) | (go_at_call 108; refine (place_any _ _).mono ?_; rintro e w' ⟨rfl, rfl⟩; rw [show plc 105 = 32 from rfl]) | (go_at_call 109; refine (fit_any _ _ _ _ _ hi0 hi1 _).mono ?_; rintro e w1 ⟨rfl, hb1⟩; have bI1 := bI.next hb1; have bR1 := bR.next hb1; have hB1 := btz hZ hb1; obtain ⟨c0, c1, c2, c3, c4⟩ := bI1.cells; skip) | (go_at_call 110; refine (xVz _ _ _ _ _ hi0 hi1 _).mono ?_; rintro e w2 ⟨rfl, hb2⟩; clear c0 c1 c2 c3 c4; have bI2 := bI1.next hb2; have bR2 := bR1.next hb2; have hB2 := btz hB1 hb2; obtain ⟨c0, c1, c2, c3, c4⟩ := bI2.cells; have f0 := bR2.frozen 0; have f1 := bR2.frozen 1; have f2 := bR2.frozen 2; have f3 := bR2.frozen 3; have f4 := bR2.frozen 4; obtain ⟨r0, r1, r2, r3, r4⟩ := bR2.cells))
 obtain ⟨g0, g1, g2, g3, g4⟩ := (bR2.set5 0 0 0 0 0).cells
 unfold set5 at g0 g1 g2 g3 g4
 refine bodyPost_ret (v := .tuple #[.agg #[.int .i64 0, .int .i64 0, .int .i64 0, .int .i64 0, .int .i32 0], .bool false]) (by simp [results, Tryz.f78, go_sem, g0, g1, g2, g3, g4]) rfl ?_
 exact ⟨rfl, xQz hB2 _ _ _ _ _⟩
theorem decode_no (x : Int) (h0 : 0 ≤ x) (h1 : x < 18446744073709551616) (hd : Ins.decB x = false) (w : World) :
  Calls prog 78 #[.int .u64 x] w fun e w' => e = .returned (.tuple #[.agg #[.int .i64 0, .int .i64 0, .int .i64 0, .int .i64 0, .int .i32 0], .bool false]) ∧ Below w.heap.size w w' := by
 cases hf : Ins.fitB (Ins.fOp x) (Ins.fA x) (Ins.fB x) (Ins.fC x) (Ins.fI x) with
 | false => exact yMz x h0 h1 hf w
 | true => exact yLz x h0 h1 hf (fun hz => by simp [Ins.decB, Ins.fitW, hf, hz] at hd) w
end InM
end Go.Proofs.YtdeddhojjolihaaGreat
