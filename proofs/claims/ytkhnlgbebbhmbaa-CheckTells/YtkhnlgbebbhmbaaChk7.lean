/-
  PROVED HERE: what the iterator of package check over the categories in which a label exceeds another hands out, for every loop body (a contract over this translation). No condition.
-/
import Derived.Test.YtkhnlgbebbhmbaaChk6
namespace Go.Proofs.Ytkhnlgbebbhmbaa
open Go.RowKit Go.Shelf
set_option linter.unusedVariables false
attribute [local go_sem] Oper.semAt_some

/-- The categories whose level in the first label is more than in the second, rising. -/
def exc (A C : List (Int × Int)) : List Int := ((both A C).filter fun x => !Lv.leq x.2.1 x.2.2).map (·.1)
theorem exc_nil {A C : List (Int × Int)} (h : A.length + C.length = 0) : exc A C = [] := by unfold exc; rw [both_nil h]; rfl
theorem exc_hit {A C : List (Int × Int)} (h : 0 < A.length + C.length) (k : Lv.leq (takeV A (fore A C)) (takeV C (fore A C)) = false) : exc A C = fore A C :: exc (takeR A (fore A C)) (takeR C (fore A C)) := by
  unfold exc; rw [both_cons h]; simp [k]
theorem exc_miss {A C : List (Int × Int)} (h : 0 < A.length + C.length) (k : Lv.leq (takeV A (fore A C)) (takeV C (fore A C)) = true) : exc A C = exc (takeR A (fore A C)) (takeR C (fore A C)) := by
  unfold exc; rw [both_cons h]; simp [k]
theorem hdN_le (L : List (Int × Int)) (c : Int) : hdN L c ≤ L.length ∧ hdN L c ≤ 1 := by
  cases L with
  | nil => simp [hdN]
  | cons p r => simp only [hdN]; split <;> simp
theorem hdN_drop (L : List (Int × Int)) (c : Int) : L.drop (hdN L c) = takeR L c := by
  cases L with
  | nil => simp [hdN, takeR]
  | cons p r => simp only [hdN, takeR]; split <;> simp
theorem hd_leq {A C : List (Int × Int)} {c : Int} (h : 0 < hdN A c + hdN C c) : leqB (A.take (hdN A c)) (C.take (hdN C c)) = Lv.leq (takeV A c) (takeV C c) := by
  cases A with
  | nil =>
    cases C with
    | nil => simp [hdN] at h
    | cons q s =>
      by_cases hq : q.1 = c
      · simp [hdN, takeV, hq, leqB, both, bothN, fore]
      · simp [hdN, hq] at h
  | cons p r =>
    by_cases hp : p.1 = c
    · cases C with
      | nil => simp [hdN, takeV, hp, leqB, both, bothN, fore]
      | cons q s =>
        by_cases hq : q.1 = c
        · simp [hdN, takeV, hp, hq, leqB, both, bothN, fore, takeR]
        · simp [hdN, takeV, hp, hq, leqB, both, bothN, fore]
    · cases C with
      | nil => simp [hdN, hp] at h
      | cons q s =>
        by_cases hq : q.1 = c
        · simp [hdN, takeV, hp, hq, leqB, both, bothN, fore]
        · simp [hdN, hp, hq] at h
theorem hd_some {A C : List (Int × Int)} (h : 0 < A.length + C.length) : 0 < hdN A (fore A C) + hdN C (fore A C) := by
  cases A with
  | nil =>
    cases C with
    | nil => simp at h
    | cons q s => simp [fore, hdN]
  | cons p r =>
    cases C with
    | nil => simp [fore, hdN]
    | cons q s => simp only [fore]; split <;> simp [hdN] <;> omega
theorem LabD.take {D : Nat → Prop} {w : World} {ao : Option Addr} {n cap k : Nat} {L : List (Int × Int)} (h : LabD D w ao n cap L) (hk : k ≤ n) : LabD D w ao k cap (L.take k) := by
  obtain ⟨h1, h2, h3, h4⟩ := h
  refine ⟨by simp; omega, by omega, h3, fun hp => ?_⟩
  obtain ⟨b, off, e, hb, hc⟩ := h4 (by omega)
  refine ⟨b, off, e, hb, fun i hi => ?_⟩
  have := hc i (by omega)
  have e2 : (L.take k).getD i (0, 0) = L.getD i (0, 0) := by simp [List.getD_eq_getElem?_getD, hi]
  rw [e2]
  exact this

theorem hd_cases {D : Nat → Prop} {w : World} {ao : Option Addr} {n cap i : Nat} {L : List (Int × Int)} {c : Int} (h : LabD D w ao n cap L) (hi : hdN L c = i) :
    (i = 0 ∧ Hid (takeR L c = L)) ∨ (i = 1 ∧ ∃ b off p r, ao = some ⟨b, off, none⟩ ∧ L = p :: r ∧ Hid (takeR L c = r) ∧ n = r.length + 1) := by
  cases L with
  | nil => exact .inl ⟨by rw [← hi]; rfl, rfl⟩
  | cons p r =>
    have hn : n = r.length + 1 := by simpa using h.1.symm
    by_cases hp : p.1 = c
    · refine .inr ⟨by rw [← hi]; simp [hdN, hp], ?_⟩
      obtain ⟨b, off, e, _, _⟩ := h.2.2.2 (by omega)
      exact ⟨b, off, p, r, e, rfl, (by show takeR (p :: r) c = r; simp [takeR, hp]), hn⟩
    · exact .inl ⟨by rw [← hi]; simp [hdN, hp], (by show takeR (p :: r) c = p :: r; simp [takeR, hp])⟩

theorem LabD.tail_if {D : Nat → Prop} {w : World} {b off n cap : Nat} {p : Int × Int} {r : List (Int × Int)} (h : LabD D w (some ⟨b, off, none⟩) n cap (p :: r)) : LabD D w (if cap = 1 then some ⟨b, off, none⟩ else some ⟨b, off + 2, none⟩) r.length (cap - 1) r := by
  have h1 := h.1
  have h2 := h.2.1
  by_cases hc : cap = 1
  · rw [if_pos hc]; exact h.tail (.inr ⟨rfl, by simp at h1; omega⟩)
  · rw [if_neg hc]; exact h.tail (.inl rfl)

def encU (x : Int) : Array Value := #[.int .u64 x]

set_option maxRecDepth 100000 in
set_option maxHeartbeats 1000000 in
theorem exc1_in (n : Nat) (hn : 1 ≤ n) (l Ba Bb : Nat) (D : Nat → Prop) {ao ao' : Option Addr} {k k' cap cap' : Nat} {A C : List (Int × Int)} (J Jx : List Int → World → Prop)
    (hY : ∀ pre x W, J pre W → pre.length < (exc A C).length → YieldAt Fence.wide (n - 1) Try.prog l (encU x) W fun e W' =>
      (e = .returned (.bool true) ∧ J (pre ++ [x]) W' ∧ Keeps D W W') ∨ (e = .returned (.bool false) ∧ Jx (pre ++ [x]) W'))
    (W : World) (hJ : AbidesFrom W.heap.size J) (hD : ∀ b, D b → b < W.heap.size) (hBa : W.cell? ⟨Ba, 0, none⟩ = some (.slice ao k cap)) (hBb : W.cell? ⟨Bb, 0, none⟩ = some (.slice ao' k' cap'))
    (hA : LabD D W ao k cap A) (hC : LabD D W ao' k' cap' C) (h0 : J [] W) :
    CallsIn Fence.wide n Try.prog 73 #[.func (.yield l) #[] #[], .pointer (some ⟨Ba, 0, none⟩), .pointer (some ⟨Bb, 0, none⟩)] W fun e W' => (∃ v, e = .returned v) ∧
      ((∃ ys, ys = exc A C ∧ J ys W') ∨ (∃ pre, pre <+: exc A C ∧ Jx pre W')) := by
  refine callsIn_of_wp Try.func73 rfl trivial ?_ rfl
  simp only [Try.ntmps73, List.size_toArray, List.length_cons, List.length_nil, Nat.reduceAdd, Nat.reduceSub, Array.replicate_succ, Array.replicate_zero, List.push_toArray, List.append_toArray, List.nil_append, List.cons_append]
  gi_wp2
  gi_region
  gi_wp2
  gi_loopw [4, 5] (fun va vb wr => ∃ (pre : List Int) (ra rb : List (Int × Int)) (a1 : Option Addr) (n1 c1 : Nat) (a2 : Option Addr) (n2 c2 : Nat), va = .slice a1 n1 c1 ∧ vb = .slice a2 n2 c2 ∧ exc A C = pre ++ exc ra rb ∧ LabD D wr a1 n1 c1 ra ∧ LabD D wr a2 n2 c2 rb ∧ J pre wr ∧ W.heap.size ≤ wr.heap.size)
    (fun va vb _ => lenOf va + lenOf vb)
  case atStart => exact ⟨[], A, C, _, _, _, _, _, _, rfl, rfl, rfl, hA, hC, hJ _ W _ none h0 (show W.grownBy W.drew none from ⟨rfl, rfl, rfl, Nat.le_refl _, fun _ _ _ => rfl⟩) (fun r e => by cases e), Nat.le_refl _⟩
  case round =>
    obtain ⟨pre, ra, rb, a1, n1, c1, a2, n2, c2, rfl, rfl, hx, hla, hlb, hJs, hsz⟩ := hrel
    by_cases h0 : n1 + n2 = 0
    · have h1 : n1 = 0 := by omega
      have h2 : n2 = 0 := by omega
      subst h1 h2
      have hb : Hid (exc ra rb = []) := exc_nil (by have := hla.1; have := hlb.1; omega)
      gi_wp2
      go_end0
      exact ⟨⟨_, rfl⟩, .inl (by rw [hb.out]; simpa using hJs)⟩
    · have hl1 := hla.1
      have hl2 := hlb.1
      have HLA : Hid (LabD D wr a1 n1 c1 ra) := hla
      have HLB : Hid (LabD D wr a2 n2 c2 rb) := hlb
      have HX : Hid (exc A C = pre ++ exc ra rb) := hx
      have HJ : Hid (J pre wr) := hJs
      have hDr : ∀ b, D b → b < wr.heap.size := fun b hb => Nat.lt_of_lt_of_le (hD b hb) hsz
      have hLA := hla.lab hDr
      have hLB := hlb.lab hDr
      clear hla hlb hx hJs
      by_cases hp1 : 0 < n1
      · gi_wp2_with (first | (refine ⟨trivial, ?_⟩; gi_at_call 74; refine (callsIn_wide.2 (next_any hLA hLB (by omega))).mono ?_; rintro e w' ⟨rfl, m1, rfl⟩) | (refine ⟨trivial, ?_⟩; gi_at_call 75; refine (callsIn_wide.2 (head_any _ (hLA.later (below_drewN (Below.refl _ _) _)))).mono ?_; clear hLA; rintro e w' ⟨rfl, rfl⟩) | (refine ⟨trivial, ?_⟩; gi_at_call 75; refine (callsIn_wide.2 (head_any _ (hLB.later (below_drewN (Below.refl _ _) _)))).mono ?_; clear hLB; rintro e w' ⟨rfl, rfl⟩))
        obtain ⟨c, hc⟩ : ∃ c, Hid (fore ra rb = c) := ⟨_, rfl⟩
        rw [hc.out]
        obtain ⟨i, hi⟩ : ∃ i, Hid (hdN ra c = i) := ⟨_, rfl⟩
        obtain ⟨j, hj⟩ : ∃ j, Hid (hdN rb c = j) := ⟨_, rfl⟩
        rw [hi.out, hj.out]
        have hi1 : i ≤ n1 := by have := (hdN_le ra c).1; rw [hi.out] at this; omega
        have hj1 : j ≤ n2 := by have := (hdN_le rb c).1; rw [hj.out] at this; omega
        have hic : (i : Int) ≤ c1 := by have := HLA.out.2.1; omega
        have hjc : (j : Int) ≤ c2 := by have := HLB.out.2.1; omega
        have hTA : ∀ m, Lab (wr.drewN m).heap.size (wr.drewN m) a1 i c1 (ra.take i) := fun m => (HLA.out.take hi1).lab hDr
        have hTB : ∀ m, Lab (wr.drewN m).heap.size (wr.drewN m) a2 j c2 (rb.take j) := fun m => (HLB.out.take hj1).lab hDr
        have hlq : Hid (leqB (ra.take i) (rb.take j) = Lv.leq (takeV ra c) (takeV rb c)) := by
          have := hd_leq (A := ra) (C := rb) (c := c) (by rw [← hc.out]; exact hd_some (by omega))
          rw [hi.out, hj.out] at this
          exact this
        cases hq : leqB (ra.take i) (rb.take j) with
        | true =>
          refine wpIn_region_any (by kernel_rfl) ?_
          refine wpAnyIn_take (i := 0) (v := .slice a1 n1 c1) rfl rfl (by kernel_rfl) (by kernel_rfl) (by kernel_rfl) (fun _ _ _ h => h) ⟨Or.inl ⟨by rfl, fun w2 => by go_simp⟩, fun _ => rfl⟩ ?_
          simp only [Act.put]
          refine wpAnyIn_take (i := 1) (v := .int .i64 i) rfl rfl (by kernel_rfl) (by kernel_rfl) (by kernel_rfl) (fun _ _ _ h => h) ⟨Or.inl ⟨by rfl, fun w2 => by go_simp⟩, fun _ => rfl⟩ ?_
          simp only [Act.put]
          refine wpAnyIn_take (i := 2) (v := .slice a1 i c1) rfl rfl (by kernel_rfl) (by kernel_rfl) (by kernel_rfl) (fun _ _ _ h => h) ⟨Or.inl ⟨by rfl, fun w2 => by go_simp⟩, fun _ => rfl⟩ ?_
          simp only [Act.put]
          refine wpAnyIn_take (i := 3) (v := .slice a2 n2 c2) rfl rfl (by kernel_rfl) (by kernel_rfl) (by kernel_rfl) (fun _ _ _ h => h) ⟨Or.inl ⟨by rfl, fun w2 => by go_simp⟩, fun _ => rfl⟩ ?_
          simp only [Act.put]
          refine wpAnyIn_take (i := 4) (v := .int .i64 j) rfl rfl (by kernel_rfl) (by kernel_rfl) (by kernel_rfl) (fun _ _ _ h => h) ⟨Or.inl ⟨by rfl, fun w2 => by go_simp⟩, fun _ => rfl⟩ ?_
          simp only [Act.put]
          refine wpAnyIn_take (i := 5) (v := .slice a2 j c2) rfl rfl (by kernel_rfl) (by kernel_rfl) (by kernel_rfl) (fun _ _ _ h => h) ⟨Or.inl ⟨by rfl, fun w2 => by go_simp⟩, fun _ => rfl⟩ ?_
          simp only [Act.put]
          refine wpAnyIn_ready (rs := [6]) (by kernel_rfl) (by simp) ?_
          refine AllReadyIn.cons rfl (fun K hK => ?_) AllReadyIn.nil
          go_simp
          refine ⟨trivial, ?_⟩
          refine (callsIn_wide.2 (lleq_any (B := 0) (hTA (m1 + 1)) (hTB (m1 + 1)))).mono ?_
          rintro e w1 ⟨rfl, hb1⟩
          rw [hq]
          refine hK _ _ ?_
          clear hK K
          refine wpAnyIn_take (i := 7) (v := .bool false) rfl rfl (by kernel_rfl) (by kernel_rfl) (by kernel_rfl) (fun _ _ _ h => h) ⟨Or.inl ⟨by rfl, fun w2 => by go_simp⟩, fun _ => rfl⟩ ?_
          simp only [Act.put]
          refine wpAnyIn_take (i := 8) (v := .bool false) rfl rfl (by kernel_rfl) (by kernel_rfl) (by kernel_rfl) (fun _ _ _ h => h) ⟨Or.inl ⟨by rfl, fun w2 => by go_simp⟩, fun _ => rfl⟩ ?_
          simp only [Act.put]
          refine wpAnyIn_take (i := 9) (v := undef) rfl rfl (by kernel_rfl) (by kernel_rfl) (by kernel_rfl) (fun _ _ _ h => h) ⟨Or.inr ⟨by rfl, rfl⟩, fun _ => rfl⟩ ?_
          simp only [Act.put]
          refine wpAnyIn_take (i := 10) (v := undef) rfl rfl (by kernel_rfl) (by kernel_rfl) (by kernel_rfl) (fun _ _ _ h => h) ⟨Or.inr ⟨by rfl, rfl⟩, fun _ => rfl⟩ ?_
          simp only [Act.put]
          refine wpAnyIn_take (i := 11) (v := undef) rfl rfl (by kernel_rfl) (by kernel_rfl) (by kernel_rfl) (fun _ _ _ h => h) ⟨Or.inr ⟨by rfl, rfl⟩, fun _ => rfl⟩ ?_
          simp only [Act.put]
          refine wpAnyIn_take (i := 12) (v := undef) rfl rfl (by kernel_rfl) (by kernel_rfl) (by kernel_rfl) (fun _ _ _ h => h) ⟨Or.inr ⟨by rfl, rfl⟩, fun _ => rfl⟩ ?_
          simp only [Act.put]
          refine wpAnyIn_take (i := 13) (v := .bool false) rfl rfl (by kernel_rfl) (by kernel_rfl) (by kernel_rfl) (fun _ _ _ h => h) ⟨Or.inl ⟨by rfl, fun w2 => by go_simp⟩, fun _ => rfl⟩ ?_
          simp only [Act.put]
          refine wpAnyIn_done (by kernel_rfl) ?_ _
          go_simp
          gi_wp2
          have hk1 : Below wr.heap.size wr w1 := (below_drewN (Below.refl _ wr) (m1 + 1)).trans hb1
          have hlf : Hid (exc A C = pre ++ exc (takeR ra c) (takeR rb c)) := by
            have := exc_miss (A := ra) (C := rb) (by omega) (by rw [hc.out, ← hlq.out, hq])
            rw [hc.out] at this
            show exc A C = _
            rw [HX.out, this]
          have hkk : Keeps D wr w1 := ⟨hk1.size, fun b hb => hk1.block b (hDr b hb)⟩
          have KA := HLA.out.later hkk
          have KB := HLB.out.later hkk
          clear hTA hTB
          rcases hd_cases KA hi.out with ⟨rfl, ta⟩ | ⟨rfl, b, off, p, r, rfl, rfl, ta, rfl⟩
          · rcases hd_cases KB hj.out with ⟨rfl, tb⟩ | ⟨rfl, b', off', p', r', rfl, rfl, tb, rfl⟩
            · exact absurd (hd_some (A := ra) (C := rb) (by omega)) (by rw [hc.out, hi.out, hj.out]; omega)
            · have hcm := KA.2.2.1.1
              have hcm' := KB.2.2.1.1
              have hnc := KA.2.1
              have hnc' := KB.2.1
              gi_region
              all_goals gi_wp2
              all_goals go_roundw
              all_goals first | exact ⟨pre, _, _, _, _, _, _, _, _, rfl, rfl, by rw [hlf.out, ta.out, tb.out], KA, KB.tail_if, hJ pre wr _ none HJ.out (below_grown hk1.drew) (fun r e => by cases e), Nat.le_trans hsz hk1.size⟩ | (simp [lenOf]; done) | (simp [lenOf]; omega)
          · rcases hd_cases KB hj.out with ⟨rfl, tb⟩ | ⟨rfl, b', off', p', r', rfl, rfl, tb, rfl⟩
            · have hcm := KA.2.2.1.1
              have hcm' := KB.2.2.1.1
              have hnc := KA.2.1
              have hnc' := KB.2.1
              gi_region
              all_goals gi_wp2
              all_goals go_roundw
              all_goals first | exact ⟨pre, _, _, _, _, _, _, _, _, rfl, rfl, by rw [hlf.out, ta.out, tb.out], KA.tail_if, KB, hJ pre wr _ none HJ.out (below_grown hk1.drew) (fun r e => by cases e), Nat.le_trans hsz hk1.size⟩ | (simp [lenOf]; done) | (simp [lenOf]; omega)
            · have hcm := KA.2.2.1.1
              have hcm' := KB.2.2.1.1
              have hnc := KA.2.1
              have hnc' := KB.2.1
              gi_region
              all_goals gi_wp2
              all_goals go_roundw
              all_goals first | exact ⟨pre, _, _, _, _, _, _, _, _, rfl, rfl, by rw [hlf.out, ta.out, tb.out], KA.tail_if, KB.tail_if, hJ pre wr _ none HJ.out (below_grown hk1.drew) (fun r e => by cases e), Nat.le_trans hsz hk1.size⟩ | (simp [lenOf]; done) | (simp [lenOf]; omega)
        | false =>
          refine wpIn_region_any (by kernel_rfl) ?_
          refine wpAnyIn_take (i := 0) (v := .slice a1 n1 c1) rfl rfl (by kernel_rfl) (by kernel_rfl) (by kernel_rfl) (fun _ _ _ h => h) ⟨Or.inl ⟨by rfl, fun w2 => by go_simp⟩, fun _ => rfl⟩ ?_
          simp only [Act.put]
          refine wpAnyIn_take (i := 1) (v := .int .i64 i) rfl rfl (by kernel_rfl) (by kernel_rfl) (by kernel_rfl) (fun _ _ _ h => h) ⟨Or.inl ⟨by rfl, fun w2 => by go_simp⟩, fun _ => rfl⟩ ?_
          simp only [Act.put]
          refine wpAnyIn_take (i := 2) (v := .slice a1 i c1) rfl rfl (by kernel_rfl) (by kernel_rfl) (by kernel_rfl) (fun _ _ _ h => h) ⟨Or.inl ⟨by rfl, fun w2 => by go_simp⟩, fun _ => rfl⟩ ?_
          simp only [Act.put]
          refine wpAnyIn_take (i := 3) (v := .slice a2 n2 c2) rfl rfl (by kernel_rfl) (by kernel_rfl) (by kernel_rfl) (fun _ _ _ h => h) ⟨Or.inl ⟨by rfl, fun w2 => by go_simp⟩, fun _ => rfl⟩ ?_
          simp only [Act.put]
          refine wpAnyIn_take (i := 4) (v := .int .i64 j) rfl rfl (by kernel_rfl) (by kernel_rfl) (by kernel_rfl) (fun _ _ _ h => h) ⟨Or.inl ⟨by rfl, fun w2 => by go_simp⟩, fun _ => rfl⟩ ?_
          simp only [Act.put]
          refine wpAnyIn_take (i := 5) (v := .slice a2 j c2) rfl rfl (by kernel_rfl) (by kernel_rfl) (by kernel_rfl) (fun _ _ _ h => h) ⟨Or.inl ⟨by rfl, fun w2 => by go_simp⟩, fun _ => rfl⟩ ?_
          simp only [Act.put]
          refine wpAnyIn_ready (rs := [6]) (by kernel_rfl) (by simp) ?_
          refine AllReadyIn.cons rfl (fun K hK => ?_) AllReadyIn.nil
          go_simp
          refine ⟨trivial, ?_⟩
          refine (callsIn_wide.2 (lleq_any (B := 0) (hTA (m1 + 1)) (hTB (m1 + 1)))).mono ?_
          rintro e w1 ⟨rfl, hb1⟩
          rw [hq]
          refine hK _ _ ?_
          clear hK K
          refine wpAnyIn_take (i := 7) (v := .bool true) rfl rfl (by kernel_rfl) (by kernel_rfl) (by kernel_rfl) (fun _ _ _ h => h) ⟨Or.inl ⟨by rfl, fun w2 => by go_simp⟩, fun _ => rfl⟩ ?_
          simp only [Act.put]
          refine wpAnyIn_take (i := 8) (v := .bool true) rfl rfl (by kernel_rfl) (by kernel_rfl) (by kernel_rfl) (fun _ _ _ h => h) ⟨Or.inl ⟨by rfl, fun w2 => by go_simp⟩, fun _ => rfl⟩ ?_
          simp only [Act.put]
          refine wpAnyIn_take (i := 9) (v := .func (.yield l) #[] #[]) rfl rfl (by kernel_rfl) (by kernel_rfl) (by kernel_rfl) (fun _ _ _ h => h) ⟨Or.inl ⟨by rfl, fun w2 => by go_simp⟩, fun _ => rfl⟩ ?_
          simp only [Act.put]
          refine wpAnyIn_take (i := 10) (v := .int .u64 c) rfl rfl (by kernel_rfl) (by kernel_rfl) (by kernel_rfl) (fun _ _ _ h => h) ⟨Or.inl ⟨by rfl, fun w2 => by go_simp⟩, fun _ => rfl⟩ ?_
          simp only [Act.put]
          refine wpAnyIn_ready (rs := [11]) (by kernel_rfl) (by simp) ?_
          refine AllReadyIn.cons rfl (fun K hK => ?_) AllReadyIn.nil
          go_simp
          have hk1 : Below wr.heap.size wr w1 := (below_drewN (Below.refl _ wr) (m1 + 1)).trans hb1
          have hl0 : Hid (exc ra rb = c :: exc (takeR ra c) (takeR rb c)) := by
            have := exc_hit (A := ra) (C := rb) (by omega) (by rw [hc.out, ← hlq.out, hq])
            rw [hc.out] at this
            exact this
          have hlf : Hid (exc A C = pre ++ [c] ++ exc (takeR ra c) (takeR rb c)) := by
            show exc A C = _
            rw [HX.out, hl0.out]; simp
          obtain ⟨fn, tmps, assign, body, hy, hR⟩ := hY pre c w1 (hJ pre wr w1 none HJ.out (below_grown hk1) (fun r e => by cases e)) (by rw [HX.out, hl0.out]; simp)
          dsimp only [encU] at hy
          rw [hy]
          go_simp
          refine hR.mono ?_
          rintro e W3 (⟨rfl, hJ3, hk3⟩ | ⟨rfl, hJx3⟩)
          · refine hK _ _ ?_
            clear hK K
            refine wpAnyIn_take (i := 12) (v := .bool false) rfl rfl (by kernel_rfl) (by kernel_rfl) (by kernel_rfl) (fun _ _ _ h => h) ⟨Or.inl ⟨by rfl, fun w2 => by go_simp⟩, fun _ => rfl⟩ ?_
            simp only [Act.put]
            refine wpAnyIn_take (i := 13) (v := .bool false) rfl rfl (by kernel_rfl) (by kernel_rfl) (by kernel_rfl) (fun _ _ _ h => h) ⟨Or.inl ⟨by rfl, fun w2 => by go_simp⟩, fun _ => rfl⟩ ?_
            simp only [Act.put]
            refine wpAnyIn_done (by kernel_rfl) ?_ _
            go_simp
            gi_wp2
            have hkk : Keeps D wr W3 := Keeps.trans ⟨hk1.size, fun b hb => hk1.block b (hDr b hb)⟩ hk3
            have KA := HLA.out.later hkk
            have KB := HLB.out.later hkk
            clear hTA hTB
            rcases hd_cases KA hi.out with ⟨rfl, ta⟩ | ⟨rfl, b, off, p, r, rfl, rfl, ta, rfl⟩
            · rcases hd_cases KB hj.out with ⟨rfl, tb⟩ | ⟨rfl, b', off', p', r', rfl, rfl, tb, rfl⟩
              · exact absurd (hd_some (A := ra) (C := rb) (by omega)) (by rw [hc.out, hi.out, hj.out]; omega)
              · have hcm := KA.2.2.1.1
                have hcm' := KB.2.2.1.1
                have hnc := KA.2.1
                have hnc' := KB.2.1
                gi_region
                all_goals gi_wp2
                all_goals go_roundw
                all_goals first | exact ⟨pre ++ [c], _, _, _, _, _, _, _, _, rfl, rfl, by rw [hlf.out, ta.out, tb.out], KA, KB.tail_if, hJ _ W3 _ none hJ3 (show W3.grownBy W3.drew none from ⟨rfl, rfl, rfl, Nat.le_refl _, fun _ _ _ => rfl⟩) (fun r e => by cases e), Nat.le_trans hsz hkk.1⟩ | (simp [lenOf]; done) | (simp [lenOf]; omega)
            · rcases hd_cases KB hj.out with ⟨rfl, tb⟩ | ⟨rfl, b', off', p', r', rfl, rfl, tb, rfl⟩
              · have hcm := KA.2.2.1.1
                have hcm' := KB.2.2.1.1
                have hnc := KA.2.1
                have hnc' := KB.2.1
                gi_region
                all_goals gi_wp2
                all_goals go_roundw
                all_goals first | exact ⟨pre ++ [c], _, _, _, _, _, _, _, _, rfl, rfl, by rw [hlf.out, ta.out, tb.out], KA.tail_if, KB, hJ _ W3 _ none hJ3 (show W3.grownBy W3.drew none from ⟨rfl, rfl, rfl, Nat.le_refl _, fun _ _ _ => rfl⟩) (fun r e => by cases e), Nat.le_trans hsz hkk.1⟩ | (simp [lenOf]; done) | (simp [lenOf]; omega)
              · have hcm := KA.2.2.1.1
                have hcm' := KB.2.2.1.1
                have hnc := KA.2.1
                have hnc' := KB.2.1
                gi_region
                all_goals gi_wp2
                all_goals go_roundw
                all_goals first | exact ⟨pre ++ [c], _, _, _, _, _, _, _, _, rfl, rfl, by rw [hlf.out, ta.out, tb.out], KA.tail_if, KB.tail_if, hJ _ W3 _ none hJ3 (show W3.grownBy W3.drew none from ⟨rfl, rfl, rfl, Nat.le_refl _, fun _ _ _ => rfl⟩) (fun r e => by cases e), Nat.le_trans hsz hkk.1⟩ | (simp [lenOf]; done) | (simp [lenOf]; omega)
          · refine hK _ _ ?_
            clear hK K
            refine wpAnyIn_take (i := 12) (v := .bool true) rfl rfl (by kernel_rfl) (by kernel_rfl) (by kernel_rfl) (fun _ _ _ h => h) ⟨Or.inl ⟨by rfl, fun w2 => by go_simp⟩, fun _ => rfl⟩ ?_
            simp only [Act.put]
            refine wpAnyIn_take (i := 13) (v := .bool true) rfl rfl (by kernel_rfl) (by kernel_rfl) (by kernel_rfl) (fun _ _ _ h => h) ⟨Or.inl ⟨by rfl, fun w2 => by go_simp⟩, fun _ => rfl⟩ ?_
            simp only [Act.put]
            refine wpAnyIn_done (by kernel_rfl) ?_ _
            go_simp
            gi_wp2
            refine bodyPost_ret (results_none rfl _ _ _) rfl ?_
            exact ⟨⟨_, rfl⟩, .inr ⟨_, ⟨exc (takeR ra c) (takeR rb c), by rw [hlf.out]⟩, hJx3⟩⟩
      · have hp0 : n1 = 0 := by omega
        have hp2 : 0 < n2 := by omega
        subst hp0
        gi_wp2_with (first | (refine ⟨trivial, ?_⟩; gi_at_call 74; refine (callsIn_wide.2 (next_any hLA hLB (by omega))).mono ?_; rintro e w' ⟨rfl, m1, rfl⟩) | (refine ⟨trivial, ?_⟩; gi_at_call 75; refine (callsIn_wide.2 (head_any _ (hLA.later (below_drewN (Below.refl _ _) _)))).mono ?_; clear hLA; rintro e w' ⟨rfl, rfl⟩) | (refine ⟨trivial, ?_⟩; gi_at_call 75; refine (callsIn_wide.2 (head_any _ (hLB.later (below_drewN (Below.refl _ _) _)))).mono ?_; clear hLB; rintro e w' ⟨rfl, rfl⟩))
        obtain ⟨c, hc⟩ : ∃ c, Hid (fore ra rb = c) := ⟨_, rfl⟩
        rw [hc.out]
        obtain ⟨i, hi⟩ : ∃ i, Hid (hdN ra c = i) := ⟨_, rfl⟩
        obtain ⟨j, hj⟩ : ∃ j, Hid (hdN rb c = j) := ⟨_, rfl⟩
        rw [hi.out, hj.out]
        have hi1 : i ≤ 0 := by have := (hdN_le ra c).1; rw [hi.out] at this; omega
        obtain rfl : i = 0 := by omega
        have hj1 : j ≤ n2 := by have := (hdN_le rb c).1; rw [hj.out] at this; omega
        have hic : ((0 : Nat) : Int) ≤ c1 := by have := HLA.out.2.1; omega
        have hjc : (j : Int) ≤ c2 := by have := HLB.out.2.1; omega
        have hTA : ∀ m, Lab (wr.drewN m).heap.size (wr.drewN m) a1 0 c1 (ra.take 0) := fun m => (HLA.out.take hi1).lab hDr
        have hTB : ∀ m, Lab (wr.drewN m).heap.size (wr.drewN m) a2 j c2 (rb.take j) := fun m => (HLB.out.take hj1).lab hDr
        have hlq : Hid (leqB (ra.take 0) (rb.take j) = Lv.leq (takeV ra c) (takeV rb c)) := by
          have := hd_leq (A := ra) (C := rb) (c := c) (by rw [← hc.out]; exact hd_some (by omega))
          rw [hi.out, hj.out] at this
          exact this
        cases hq : leqB (ra.take 0) (rb.take j) with
        | true =>
          refine wpIn_region_any (by kernel_rfl) ?_
          refine wpAnyIn_take (i := 0) (v := .slice a1 0 c1) rfl rfl (by kernel_rfl) (by kernel_rfl) (by kernel_rfl) (fun _ _ _ h => h) ⟨Or.inl ⟨by rfl, fun w2 => by go_simp⟩, fun _ => rfl⟩ ?_
          simp only [Act.put]
          refine wpAnyIn_take (i := 1) (v := .int .i64 0) rfl rfl (by kernel_rfl) (by kernel_rfl) (by kernel_rfl) (fun _ _ _ h => h) ⟨Or.inl ⟨by rfl, fun w2 => by go_simp⟩, fun _ => rfl⟩ ?_
          simp only [Act.put]
          refine wpAnyIn_take (i := 2) (v := .slice a1 0 c1) rfl rfl (by kernel_rfl) (by kernel_rfl) (by kernel_rfl) (fun _ _ _ h => h) ⟨Or.inl ⟨by rfl, fun w2 => by go_simp⟩, fun _ => rfl⟩ ?_
          simp only [Act.put]
          refine wpAnyIn_take (i := 3) (v := .slice a2 n2 c2) rfl rfl (by kernel_rfl) (by kernel_rfl) (by kernel_rfl) (fun _ _ _ h => h) ⟨Or.inl ⟨by rfl, fun w2 => by go_simp⟩, fun _ => rfl⟩ ?_
          simp only [Act.put]
          refine wpAnyIn_take (i := 4) (v := .int .i64 j) rfl rfl (by kernel_rfl) (by kernel_rfl) (by kernel_rfl) (fun _ _ _ h => h) ⟨Or.inl ⟨by rfl, fun w2 => by go_simp⟩, fun _ => rfl⟩ ?_
          simp only [Act.put]
          refine wpAnyIn_take (i := 5) (v := .slice a2 j c2) rfl rfl (by kernel_rfl) (by kernel_rfl) (by kernel_rfl) (fun _ _ _ h => h) ⟨Or.inl ⟨by rfl, fun w2 => by go_simp⟩, fun _ => rfl⟩ ?_
          simp only [Act.put]
          refine wpAnyIn_ready (rs := [6]) (by kernel_rfl) (by simp) ?_
          refine AllReadyIn.cons rfl (fun K hK => ?_) AllReadyIn.nil
          go_simp
          refine ⟨trivial, ?_⟩
          refine (callsIn_wide.2 (lleq_any (B := 0) (hTA (m1 + 1)) (hTB (m1 + 1)))).mono ?_
          rintro e w1 ⟨rfl, hb1⟩
          rw [hq]
          refine hK _ _ ?_
          clear hK K
          refine wpAnyIn_take (i := 7) (v := .bool false) rfl rfl (by kernel_rfl) (by kernel_rfl) (by kernel_rfl) (fun _ _ _ h => h) ⟨Or.inl ⟨by rfl, fun w2 => by go_simp⟩, fun _ => rfl⟩ ?_
          simp only [Act.put]
          refine wpAnyIn_take (i := 8) (v := .bool false) rfl rfl (by kernel_rfl) (by kernel_rfl) (by kernel_rfl) (fun _ _ _ h => h) ⟨Or.inl ⟨by rfl, fun w2 => by go_simp⟩, fun _ => rfl⟩ ?_
          simp only [Act.put]
          refine wpAnyIn_take (i := 9) (v := undef) rfl rfl (by kernel_rfl) (by kernel_rfl) (by kernel_rfl) (fun _ _ _ h => h) ⟨Or.inr ⟨by rfl, rfl⟩, fun _ => rfl⟩ ?_
          simp only [Act.put]
          refine wpAnyIn_take (i := 10) (v := undef) rfl rfl (by kernel_rfl) (by kernel_rfl) (by kernel_rfl) (fun _ _ _ h => h) ⟨Or.inr ⟨by rfl, rfl⟩, fun _ => rfl⟩ ?_
          simp only [Act.put]
          refine wpAnyIn_take (i := 11) (v := undef) rfl rfl (by kernel_rfl) (by kernel_rfl) (by kernel_rfl) (fun _ _ _ h => h) ⟨Or.inr ⟨by rfl, rfl⟩, fun _ => rfl⟩ ?_
          simp only [Act.put]
          refine wpAnyIn_take (i := 12) (v := undef) rfl rfl (by kernel_rfl) (by kernel_rfl) (by kernel_rfl) (fun _ _ _ h => h) ⟨Or.inr ⟨by rfl, rfl⟩, fun _ => rfl⟩ ?_
          simp only [Act.put]
          refine wpAnyIn_take (i := 13) (v := .bool false) rfl rfl (by kernel_rfl) (by kernel_rfl) (by kernel_rfl) (fun _ _ _ h => h) ⟨Or.inl ⟨by rfl, fun w2 => by go_simp⟩, fun _ => rfl⟩ ?_
          simp only [Act.put]
          refine wpAnyIn_done (by kernel_rfl) ?_ _
          go_simp
          gi_wp2
          have hk1 : Below wr.heap.size wr w1 := (below_drewN (Below.refl _ wr) (m1 + 1)).trans hb1
          have hlf : Hid (exc A C = pre ++ exc (takeR ra c) (takeR rb c)) := by
            have := exc_miss (A := ra) (C := rb) (by omega) (by rw [hc.out, ← hlq.out, hq])
            rw [hc.out] at this
            show exc A C = _
            rw [HX.out, this]
          have hkk : Keeps D wr w1 := ⟨hk1.size, fun b hb => hk1.block b (hDr b hb)⟩
          have KA := HLA.out.later hkk
          have KB := HLB.out.later hkk
          clear hTA hTB
          rcases hd_cases KA hi.out with ⟨_, ta⟩ | ⟨h01, _⟩
          · rcases hd_cases KB hj.out with ⟨rfl, tb⟩ | ⟨rfl, b', off', p', r', rfl, rfl, tb, rfl⟩
            · exact absurd (hd_some (A := ra) (C := rb) (by omega)) (by rw [hc.out, hi.out, hj.out]; omega)
            · have hcm := KA.2.2.1.1
              have hcm' := KB.2.2.1.1
              have hnc := KA.2.1
              have hnc' := KB.2.1
              gi_region
              all_goals gi_wp2
              all_goals go_roundw
              all_goals first | exact ⟨pre, _, _, _, _, _, _, _, _, rfl, rfl, by rw [hlf.out, ta.out, tb.out], KA, KB.tail_if, hJ pre wr _ none HJ.out (below_grown hk1.drew) (fun r e => by cases e), Nat.le_trans hsz hk1.size⟩ | (simp [lenOf]; done) | (simp [lenOf]; omega)
          · exact absurd h01 (by omega)
        | false =>
          refine wpIn_region_any (by kernel_rfl) ?_
          refine wpAnyIn_take (i := 0) (v := .slice a1 0 c1) rfl rfl (by kernel_rfl) (by kernel_rfl) (by kernel_rfl) (fun _ _ _ h => h) ⟨Or.inl ⟨by rfl, fun w2 => by go_simp⟩, fun _ => rfl⟩ ?_
          simp only [Act.put]
          refine wpAnyIn_take (i := 1) (v := .int .i64 0) rfl rfl (by kernel_rfl) (by kernel_rfl) (by kernel_rfl) (fun _ _ _ h => h) ⟨Or.inl ⟨by rfl, fun w2 => by go_simp⟩, fun _ => rfl⟩ ?_
          simp only [Act.put]
          refine wpAnyIn_take (i := 2) (v := .slice a1 0 c1) rfl rfl (by kernel_rfl) (by kernel_rfl) (by kernel_rfl) (fun _ _ _ h => h) ⟨Or.inl ⟨by rfl, fun w2 => by go_simp⟩, fun _ => rfl⟩ ?_
          simp only [Act.put]
          refine wpAnyIn_take (i := 3) (v := .slice a2 n2 c2) rfl rfl (by kernel_rfl) (by kernel_rfl) (by kernel_rfl) (fun _ _ _ h => h) ⟨Or.inl ⟨by rfl, fun w2 => by go_simp⟩, fun _ => rfl⟩ ?_
          simp only [Act.put]
          refine wpAnyIn_take (i := 4) (v := .int .i64 j) rfl rfl (by kernel_rfl) (by kernel_rfl) (by kernel_rfl) (fun _ _ _ h => h) ⟨Or.inl ⟨by rfl, fun w2 => by go_simp⟩, fun _ => rfl⟩ ?_
          simp only [Act.put]
          refine wpAnyIn_take (i := 5) (v := .slice a2 j c2) rfl rfl (by kernel_rfl) (by kernel_rfl) (by kernel_rfl) (fun _ _ _ h => h) ⟨Or.inl ⟨by rfl, fun w2 => by go_simp⟩, fun _ => rfl⟩ ?_
          simp only [Act.put]
          refine wpAnyIn_ready (rs := [6]) (by kernel_rfl) (by simp) ?_
          refine AllReadyIn.cons rfl (fun K hK => ?_) AllReadyIn.nil
          go_simp
          refine ⟨trivial, ?_⟩
          refine (callsIn_wide.2 (lleq_any (B := 0) (hTA (m1 + 1)) (hTB (m1 + 1)))).mono ?_
          rintro e w1 ⟨rfl, hb1⟩
          rw [hq]
          refine hK _ _ ?_
          clear hK K
          refine wpAnyIn_take (i := 7) (v := .bool true) rfl rfl (by kernel_rfl) (by kernel_rfl) (by kernel_rfl) (fun _ _ _ h => h) ⟨Or.inl ⟨by rfl, fun w2 => by go_simp⟩, fun _ => rfl⟩ ?_
          simp only [Act.put]
          refine wpAnyIn_take (i := 8) (v := .bool true) rfl rfl (by kernel_rfl) (by kernel_rfl) (by kernel_rfl) (fun _ _ _ h => h) ⟨Or.inl ⟨by rfl, fun w2 => by go_simp⟩, fun _ => rfl⟩ ?_
          simp only [Act.put]
          refine wpAnyIn_take (i := 9) (v := .func (.yield l) #[] #[]) rfl rfl (by kernel_rfl) (by kernel_rfl) (by kernel_rfl) (fun _ _ _ h => h) ⟨Or.inl ⟨by rfl, fun w2 => by go_simp⟩, fun _ => rfl⟩ ?_
          simp only [Act.put]
          refine wpAnyIn_take (i := 10) (v := .int .u64 c) rfl rfl (by kernel_rfl) (by kernel_rfl) (by kernel_rfl) (fun _ _ _ h => h) ⟨Or.inl ⟨by rfl, fun w2 => by go_simp⟩, fun _ => rfl⟩ ?_
          simp only [Act.put]
          refine wpAnyIn_ready (rs := [11]) (by kernel_rfl) (by simp) ?_
          refine AllReadyIn.cons rfl (fun K hK => ?_) AllReadyIn.nil
          go_simp
          have hk1 : Below wr.heap.size wr w1 := (below_drewN (Below.refl _ wr) (m1 + 1)).trans hb1
          have hl0 : Hid (exc ra rb = c :: exc (takeR ra c) (takeR rb c)) := by
            have := exc_hit (A := ra) (C := rb) (by omega) (by rw [hc.out, ← hlq.out, hq])
            rw [hc.out] at this
            exact this
          have hlf : Hid (exc A C = pre ++ [c] ++ exc (takeR ra c) (takeR rb c)) := by
            show exc A C = _
            rw [HX.out, hl0.out]; simp
          obtain ⟨fn, tmps, assign, body, hy, hR⟩ := hY pre c w1 (hJ pre wr w1 none HJ.out (below_grown hk1) (fun r e => by cases e)) (by rw [HX.out, hl0.out]; simp)
          dsimp only [encU] at hy
          rw [hy]
          go_simp
          refine hR.mono ?_
          rintro e W3 (⟨rfl, hJ3, hk3⟩ | ⟨rfl, hJx3⟩)
          · refine hK _ _ ?_
            clear hK K
            refine wpAnyIn_take (i := 12) (v := .bool false) rfl rfl (by kernel_rfl) (by kernel_rfl) (by kernel_rfl) (fun _ _ _ h => h) ⟨Or.inl ⟨by rfl, fun w2 => by go_simp⟩, fun _ => rfl⟩ ?_
            simp only [Act.put]
            refine wpAnyIn_take (i := 13) (v := .bool false) rfl rfl (by kernel_rfl) (by kernel_rfl) (by kernel_rfl) (fun _ _ _ h => h) ⟨Or.inl ⟨by rfl, fun w2 => by go_simp⟩, fun _ => rfl⟩ ?_
            simp only [Act.put]
            refine wpAnyIn_done (by kernel_rfl) ?_ _
            go_simp
            gi_wp2
            have hkk : Keeps D wr W3 := Keeps.trans ⟨hk1.size, fun b hb => hk1.block b (hDr b hb)⟩ hk3
            have KA := HLA.out.later hkk
            have KB := HLB.out.later hkk
            clear hTA hTB
            rcases hd_cases KA hi.out with ⟨_, ta⟩ | ⟨h01, _⟩
            · rcases hd_cases KB hj.out with ⟨rfl, tb⟩ | ⟨rfl, b', off', p', r', rfl, rfl, tb, rfl⟩
              · exact absurd (hd_some (A := ra) (C := rb) (by omega)) (by rw [hc.out, hi.out, hj.out]; omega)
              · have hcm := KA.2.2.1.1
                have hcm' := KB.2.2.1.1
                have hnc := KA.2.1
                have hnc' := KB.2.1
                gi_region
                all_goals gi_wp2
                all_goals go_roundw
                all_goals first | exact ⟨pre ++ [c], _, _, _, _, _, _, _, _, rfl, rfl, by rw [hlf.out, ta.out, tb.out], KA, KB.tail_if, hJ _ W3 _ none hJ3 (show W3.grownBy W3.drew none from ⟨rfl, rfl, rfl, Nat.le_refl _, fun _ _ _ => rfl⟩) (fun r e => by cases e), Nat.le_trans hsz hkk.1⟩ | (simp [lenOf]; done) | (simp [lenOf]; omega)
            · exact absurd h01 (by omega)
          · refine hK _ _ ?_
            clear hK K
            refine wpAnyIn_take (i := 12) (v := .bool true) rfl rfl (by kernel_rfl) (by kernel_rfl) (by kernel_rfl) (fun _ _ _ h => h) ⟨Or.inl ⟨by rfl, fun w2 => by go_simp⟩, fun _ => rfl⟩ ?_
            simp only [Act.put]
            refine wpAnyIn_take (i := 13) (v := .bool true) rfl rfl (by kernel_rfl) (by kernel_rfl) (by kernel_rfl) (fun _ _ _ h => h) ⟨Or.inl ⟨by rfl, fun w2 => by go_simp⟩, fun _ => rfl⟩ ?_
            simp only [Act.put]
            refine wpAnyIn_done (by kernel_rfl) ?_ _
            go_simp
            gi_wp2
            refine bodyPost_ret (results_none rfl _ _ _) rfl ?_
            exact ⟨⟨_, rfl⟩, .inr ⟨_, ⟨exc (takeR ra c) (takeR rb c), by rw [hlf.out]⟩, hJx3⟩⟩
end Go.Proofs.Ytkhnlgbebbhmbaa
