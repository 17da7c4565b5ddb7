/-
 PROVED HERE: what the document's SameThread returns when it is called (contracts over this translation). What is asked stands at each.
-/
import Derived.Test.YtklnneiblmakmaaGreatZ14
namespace Go.Proofs.YtklnneiblmakmaaGreat
set_option maxRecDepth 100000
set_option maxHeartbeats 8000000
set_option linter.unusedVariables false
open Go.Proofs.Tryz
section
open Go.RowKit Go.Shelf
attribute [local go_sem] Oper.semAt_some
theorem Asks.yes {f : FuncId} {args : Array Value} {X : Prop} {W : World} (h : Asks f args X W) (hX : X) : Calls prog f args W fun e w' => e = .returned (.bool true) ∧ Below W.heap.size W w' :=
 h.on (fun _ _ k => ⟨rfl, k⟩) (fun _ q _ => absurd hX q.out)
theorem Asks.no {f : FuncId} {args : Array Value} {X : Prop} {W : World} (h : Asks f args X W) (hX : ¬ X) : Calls prog f args W fun e w' => e = .returned (.bool false) ∧ Below W.heap.size W w' :=
 h.on (fun _ q _ => absurd q.out hX) (fun _ _ k => ⟨rfl, k⟩)
theorem kfz {w : World} {T T' : Array Value} {t t' : Th} (h : ThD (LtN w) w T t) (h' : ThD (LtN w) w T' t') :
  Asks 85 #[.agg T, .agg T'] (t = t') w := by
 have hz := h.size
 have hz' := h'.size
 obtain ⟨a17, n17, k17, c17, l17⟩ := h.f.clear
 obtain ⟨a28, n28, k28, c28, l28⟩ := h.f.alerts
 have x0 := x3z h
 have r0 := h.f.rlen
 have x18 := ext2 h.f.sc h.f.si
 have x29 := ext2 h.f.lo h.f.hi
 have x23 := ext5 h.f.wc h.f.wi h.f.wx h.f.wv h.f.wd
 have c16 := h.f.pc
 have c20 := h.f.handler
 have c21 := h.f.vector
 have c22 := h.f.state
 obtain ⟨a17', n17', k17', c17', l17'⟩ := h'.f.clear
 obtain ⟨a28', n28', k28', c28', l28'⟩ := h'.f.alerts
 have x0' := x3z h'
 have r0' := h'.f.rlen
 have x18' := ext2 h'.f.sc h'.f.si
 have x29' := ext2 h'.f.lo h'.f.hi
 have x23' := ext5 h'.f.wc h'.f.wi h'.f.wx h'.f.wv h'.f.wd
 have c16' := h'.f.pc
 have c20' := h'.f.handler
 have c21' := h'.f.vector
 have c22' := h'.f.state
 have ga0 := isAgg27
 have ga1 := isAgg22
 have ga2 := isAgg3
 have ga3 := isAgg4
 have ga4 := isAgg28
 have ga5 := isAgg29
 unfold Asks
 go_enter func85, ntmps85
 simp only [List.append]
 go_wp2_with (first
  | go_skip
  | (with_reducible refine qdz rfl _ _ rfl T rfl ?_; intro B W hB hb hk)
  | (with_reducible refine qdz rfl _ _ rfl T' rfl ?_; intro B' W' hB' hb' hk'; replace hb := hb.next hk'; replace hk := btz hk hk'; clear hk'))
 have hf := ThD.four (h.next hk) hb
 have hf' := ThD.four (h'.next hk) hb'
 go_loopw [5] (fun i wr => ∃ k : Nat, k ≤ 4 ∧ i = .int .i64 k ∧ Hid (∀ j, j < k → labs t j = labs t' j) ∧ Below W'.heap.size W' wr) (fun i _ => 4 - (intOf i).toNat)
 case atStart => exact ⟨0, Nat.zero_le _, rfl, fun j hj => absurd hj (by omega), Below.refl _ _⟩
 case round =>
  obtain ⟨k, hk4, rfl, hal, hbw⟩ := hrel
  by_cases hkn : k < 4
  ·obtain ⟨ai, ni, ci, d1, q2⟩ := (hf.next hbw).2 k hkn
   obtain ⟨ai', ni', ci', d1', q2'⟩ := (hf'.next hbw).2 k hkn
   have hkn' : (k : Int) < 4 := by omega
   have hbz := hb.next hbw
   have hbz' := hb'.next hbw
   have hd0 := (hb.next hbw).lt
   have hd0' := (hb'.next hbw).lt
   clear hb hb' hbz hbz' hf hf'
   by_cases hq : labs t k = labs t' k
   ·replace hq : Hid (labs t k = labs t' k) := hq
    go_wp2
    go_region_held3 (fun w' => w'.cell? ⟨B, 31 + k, none⟩ = some (.slice ai ni ci) ∧ w'.cell? ⟨B', 31 + k, none⟩ = some (.slice ai' ni' ci')) (first | go_keep | (exact ⟨(hb1.cell (p := ⟨B, 31 + k, none⟩) hd0).trans d1, (hb1.cell (p := ⟨B', 31 + k, none⟩) hd0').trans d1'⟩) | fail) (first | (go_at_call 82; (with_reducible refine ((reqL q2 q2' (Below.refl _ _).drew).yes hq.out).mono ?_); rintro e w1 ⟨rfl, hb1⟩) | fail)
    have hb2 := (Below.refl wr.heap.size wr).drew.trans hb1
    go_wp2
    go_roundw
    case rel => exact ⟨k + 1, by omega, by go_num, fun j hj => by
      rcases Nat.lt_or_ge j k with h | h
      ·exact hal.out j h
      ·obtain rfl : j = k := by omega
       exact hq.out, btz hbw hb2⟩
    case measure => simp [intOf]; omega
   ·replace hq : Hid (¬ labs t k = labs t' k) := hq
    go_wp2
    go_region_held3 (fun w' => w'.cell? ⟨B, 31 + k, none⟩ = some (.slice ai ni ci) ∧ w'.cell? ⟨B', 31 + k, none⟩ = some (.slice ai' ni' ci')) (first | go_keep | (exact ⟨(hb1.cell (p := ⟨B, 31 + k, none⟩) hd0).trans d1, (hb1.cell (p := ⟨B', 31 + k, none⟩) hd0').trans d1'⟩) | fail) (first | (go_at_call 82; (with_reducible refine ((reqL q2 q2' (Below.refl _ _).drew).no hq.out).mono ?_); rintro e w1 ⟨rfl, hb1⟩) | fail)
    have hb2 := (Below.refl wr.heap.size wr).drew.trans hb1
    go_wp2
    go_ret
    exact qkz hq (hk.trans ((btz hbw hb2).mono hk.size)) (fun e => by rw [e])
  ·obtain rfl : k = 4 := by omega
   replace hb := hb.next hbw
   replace hb' := hb'.next hbw
   replace hk := btz hk hbw
   clear hf hf' hbw
   simp only [show ((4 : Nat) : Int) = 4 from rfl]
   go_wp2_with (first
    | go_skip
    | (with_reducible refine qbz (by kernel_rfl) _ _ rfl B _ rfl _ _ hb _ (by assumption) (by assumption) ?_)
    | (with_reducible refine qbz (by kernel_rfl) _ _ rfl B' _ rfl _ _ hb' _ (by assumption) (by assumption) ?_)
    | (with_reducible refine qoz (by kernel_rfl) 32 _ rfl B _ rfl 2 _ _ hb _ (by assumption) (by omega) _ underlying32 (by kernel_rfl) xLz ?_)
    | (with_reducible refine qoz (by kernel_rfl) 32 _ rfl B' _ rfl 2 _ _ hb' _ (by assumption) (by omega) _ underlying32 (by kernel_rfl) xLz ?_)
    | (with_reducible refine qoz (by kernel_rfl) 36 _ rfl B _ rfl 2 _ _ hb _ (by assumption) (by omega) _ underlying36 (by kernel_rfl) kGz ?_)
    | (with_reducible refine qoz (by kernel_rfl) 36 _ rfl B' _ rfl 2 _ _ hb' _ (by assumption) (by omega) _ underlying36 (by kernel_rfl) kGz ?_)
    | (with_reducible refine qoz (by kernel_rfl) 34 _ rfl B _ rfl 5 _ _ hb _ (by assumption) (by omega) _ underlying34 (by kernel_rfl) kHz ?_)
    | (with_reducible refine qoz (by kernel_rfl) 34 _ rfl B' _ rfl 5 _ _ hb' _ (by assumption) (by omega) _ underlying34 (by kernel_rfl) kHz ?_)
    | (with_reducible refine qoz (by kernel_rfl) 30 _ rfl B _ rfl 16 _ _ hb _ (by assumption) (by omega) _ underlying30 (by kernel_rfl) vRz ?_)
    | (with_reducible refine qoz (by kernel_rfl) 30 _ rfl B' _ rfl 16 _ _ hb' _ (by assumption) (by omega) _ underlying30 (by kernel_rfl) vRz ?_)
    | ((with_reducible refine qgz (by kernel_rfl) .eql _ _ _ _ rfl _ _ rfl rfl (qvz _ _ _ _ _ _) ?_ ?_) <;> intro hq)
    | ((with_reducible refine qgz (by kernel_rfl) .eql _ _ _ _ rfl _ _ rfl rfl (krz _ _ _ _ _ _) ?_ ?_) <;> intro hq)
    | ((with_reducible refine qgz (by kernel_rfl) .eql _ _ _ _ rfl _ _ rfl rfl (jlz _ _ _ _ _ _) ?_ ?_) <;> intro hq)
    | ((with_reducible refine qgz (by kernel_rfl) .eql _ _ _ _ rfl _ _ rfl rfl (x4z _ _ _ _ _ _ _ _ _ _ _ _) ?_ ?_) <;> intro hq)
    | ((with_reducible refine qgz (by kernel_rfl) .eql _ _ _ _ rfl _ _ rfl rfl (jmz _ _ _ _ r0 r0') ?_ ?_) <;> intro hq)
    | (go_at_call 82; (with_reducible refine (reqL (by assumption) (by assumption) hk).on ?_ ?_) <;> (intro w1 hq hb1; replace hb := hb.next hb1; replace hb' := hb'.next hb1; replace hk := btz hk hb1; clear hb1))
    | (go_at_call 83; (with_reducible refine (reqU (by assumption) (by assumption) hk).on ?_ ?_) <;> (intro w1 hq hb1; replace hb := hb.next hb1; replace hb' := hb'.next hb1; replace hk := btz hk hb1; clear hb1)))
   all_goals go_ret
   all_goals first
    | (refine qkz (by assumption) hk ?_; intro e; rw [e]; done)
    | (refine qkz (by assumption) hk ?_; intro e; rw [e]; exact ⟨rfl, rfl⟩)
    | (refine qkz (by assumption) hk ?_; intro e; rw [e]; exact ⟨rfl, rfl, rfl, rfl, rfl⟩)
    | (refine qkz (by assumption) hk ?_; intro e; rw [e]; exact fun _ _ => rfl)
    | (refine qsz ?_ hk; exact uaz.1 ⟨Hid.out (by assumption), Hid.out (by assumption), Hid.out (by assumption), Hid.out (by assumption), Hid.out (by assumption), Hid.out (by assumption), Hid.out (by assumption), Hid.out (by assumption), Hid.out (by assumption), Hid.out (by assumption), ybz.1 hal.out⟩)
    | fail
end
end Go.Proofs.YtklnneiblmakmaaGreat
