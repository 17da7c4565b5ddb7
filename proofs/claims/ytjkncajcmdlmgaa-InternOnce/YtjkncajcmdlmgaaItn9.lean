/-
  PROVED HERE: what keep, free and again of package intern do when they are called (contracts over this translation). Tables of at most 64 places, labels of at most 65536 pairs.
-/
import Derived.Test.YtjkncajcmdlmgaaItn8
namespace Go.Proofs.Ytjkncajcmdlmgaa
open Go.ChangeShapes Go.WideShapes Go.ChangeAt Go.RowKit
set_option linter.unusedVariables false

theorem kp_new {base : Nat} {W : World} {kb : Nat} (h : Two W kb 48 (.slice none 0 0) (.slice none 0 0)) (hb : base ≤ kb) : Kp base W kb [] :=
  ⟨_, _, [], h, hb, World.ownsRow_nil _ _ _ _, World.ownsRow_nil _ _ _ _, fun i hi => absurd hi (by simp)⟩
set_option maxRecDepth 100000 in
set_option maxHeartbeats 2000000 in
theorem keep_any {w : World} {a a' : Option Addr} {n c c' : Nat} {Z : Zt} (m : Nat) (hT : Tab w a n c a' c' Z) (hm : m ≤ n) (h64 : m ≤ 64) (hs : ∀ i, (zat Z i).1.length ≤ 65536) :
    Calls Try.prog 10 #[.agg #[.slice a n c, .slice a' n c'], .int .i64 m] w fun e w' => ∃ kb, e = .returned (.pointer (some ⟨kb, 0, none⟩)) ∧ Kp w.heap.size w' kb (Z.take m) ∧ Below w.heap.size w w' := by
  have hl := hT.len
  have hnc1 := hT.1.2.1
  have hcm1 := hT.1.2.2.1.1
  have hnc := hT.2.2.1
  have hcm := hT.2.2.2.1.1
  have hb0 : Below w.heap.size w (w.alloc (.cells #[.slice a n c, .slice a' n c'] 27)) := (Below.refl _ w).alloc (Nat.le_refl _) _
  go_enter Try.func10, Try.ntmps10
  go_wp2
  go_loopw [10] (fun i wr => ∃ k : Nat, k ≤ m ∧ i = .int .i64 k ∧ Kp (w.heap.size + 1) wr (w.heap.size + 1) (Z.take k) ∧ Below (w.heap.size + 1) (w.alloc (.cells #[.slice a n c, .slice a' n c'] 27)) wr) (fun i _ => m - (intOf i).toNat)
  case atStart =>
    refine ⟨0, Nat.zero_le _, rfl, ?_, (Below.refl _ _).alloc (by simp) _⟩
    have := Two.new (w.alloc (.cells #[.slice a n c, .slice a' n c'] 27)) 48 (.slice none 0 0) (.slice none 0 0)
    rw [World.size_alloc] at this
    rw [List.take_zero]
    exact kp_new this (Nat.le_refl _)
  case round =>
    obtain ⟨k, hk, rfl, hKp, hb⟩ := hrel
    have hbw : Below w.heap.size w wr := hb0.trans (hb.mono (by omega))
    by_cases hkm : k < m
    · obtain ⟨b, off, b', off', ai, ki, ci, rfl, rfl, hB, hB', q1, q3, q2⟩ := TabD.at (hT.next hbw) (i := k) (by omega)
      have hB0 : b < w.heap.size := by
        obtain ⟨b2, off2, e2, hb2, _⟩ := hT.1.2.2.2 (by omega)
        cases e2; exact hb2
      have hB0' : b' < w.heap.size := by
        obtain ⟨b2, off2, e2, hb2, _⟩ := hT.2.2.2.2 (by omega)
        cases e2; exact hb2
      have hkm' : (k : Int) < m := by omega
      have hkn' : (k : Int) < n := by omega
      obtain ⟨z, hz⟩ : ∃ z, Hid (zat Z k = z) := ⟨_, rfl⟩
      have hzk : Hid (Z.take (k + 1) = Z.take k ++ [z]) := by unfold Hid; rw [List.take_add_one, zat_lt (show k < Z.length by omega), hz.out]; rfl
      have hki := q2.1
      have hs1 := hs k
      rw [hz.out] at q2 q3 hki hs1
      obtain ⟨zl, zc⟩ := z
      have hs1 : ki ≤ 65536 := by rw [← hki]; exact hs1
      have d0 : wr.cell? ⟨w.heap.size, 0, none⟩ = some (.slice (some ⟨b, off, none⟩) n c) := (hb.cell (p := ⟨w.heap.size, 0, none⟩) (by show w.heap.size < w.heap.size + 1; omega)).trans (by simp)
      have d1 : wr.cell? ⟨w.heap.size, 1, none⟩ = some (.slice (some ⟨b', off', none⟩) n c') := (hb.cell (p := ⟨w.heap.size, 1, none⟩) (by show w.heap.size < w.heap.size + 1; omega)).trans (by simp)
      have hlen : (Z.take k).length ≤ 64 := by rw [List.length_take]; omega
      have hKd : Kp (w.heap.size + 1) wr.drew (w.heap.size + 1) (Z.take k) := hKp
      have hLd : Lab wr.drew.heap.size wr.drew ai ki ci zl := q2
      clear hT q2 hki hKp
      go_wp2
      go_region_held3 (fun w' => w'.cell? ⟨w.heap.size, 0, none⟩ = some (.slice (some ⟨b, off, none⟩) n c) ∧ w'.cell? ⟨w.heap.size, 1, none⟩ = some (.slice (some ⟨b', off', none⟩) n c') ∧ w'.cell? ⟨b, off + k, none⟩ = some (.slice ai ki ci) ∧ w'.cell? ⟨b', off' + k, none⟩ = some (.int .i64 zc)) (go_keep) (first | (go_at_call 17; refine (lay_any (x := zc) hKd hlen hLd (by omega)).mono ?_; rintro e w1 ⟨⟨v, rfl⟩, hk1, hb1⟩; have e0 := (hb1.cell (p := ⟨w.heap.size, 0, none⟩) (by show w.heap.size < w.heap.size + 1; omega)).trans d0; have e1 := (hb1.cell (p := ⟨w.heap.size, 1, none⟩) (by show w.heap.size < w.heap.size + 1; omega)).trans d1; have e2 := (hb1.cell (p := ⟨b, off + k, none⟩) (by show b < w.heap.size + 1; omega)).trans q1; have e3 := (hb1.cell (p := ⟨b', off' + k, none⟩) (by show b' < w.heap.size + 1; omega)).trans q3))
      go_wp2
      go_roundw
      case rel => exact ⟨k + 1, by omega, by go_num, by rw [hzk.out]; exact hk1, hb.drew.trans hb1⟩
      case measure => simp [intOf]; omega
    · obtain rfl : k = m := by omega
      go_wp2
      go_ret
      obtain ⟨vL, vC, vs, k1, k2, k3, k4, k5⟩ := hKp
      exact ⟨_, rfl, ⟨vL, vC, vs, k1, by omega, ⟨k3.1, k3.2.imp id (fun ⟨g, cap, cur, e1, e2, e3⟩ => ⟨g, cap, cur, e1, by omega, e3⟩)⟩, ⟨k4.1, k4.2.imp id (fun ⟨g, cap, cur, e1, e2, e3⟩ => ⟨g, cap, cur, e1, by omega, e3⟩)⟩, k5⟩, hbw⟩

/-- What slices.Index answers for the first free place. -/
def ixZ (Z : Zt) : Int := if free Z < Z.length then (free Z : Int) else -1
theorem index_any {D : Nat → Prop} {w : World} {a : Option Addr} {c : Nat} {Z : Zt} (h : IntD D w a Z.length c (Z.map (·.2))) (hD : ∀ b, D b → b < w.heap.size) :
    Calls Try.prog 30 #[.slice a Z.length c, .int .i64 0] w fun e w' => e = .returned (.int .i64 (ixZ Z)) ∧ Below w.heap.size w w' := by
  obtain ⟨n, hn⟩ : ∃ n, Hid (Z.length = n) := ⟨_, rfl⟩
  have hnc := h.2.1
  have hcm := h.2.2.1.1
  rw [hn.out] at h hnc ⊢
  go_enter Try.func30, Try.ntmps30
  go_wp2
  go_loopw [8] (fun i wr => ∃ k : Nat, k ≤ n ∧ i = .int .i64 k ∧ (∀ j, j < k → (zat Z j).2 ≠ 0) ∧ Below w.heap.size w wr) (fun i _ => n - (intOf i).toNat)
  case atStart => exact ⟨0, Nat.zero_le _, rfl, fun j hj => absurd hj (by omega), Below.refl _ _⟩
  case round =>
    obtain ⟨k, hk, rfl, hal, hb⟩ := hrel
    by_cases hkn : k < n
    · obtain ⟨b, off, rfl, hB, hc⟩ := h.2.2.2 (by omega)
      have q := (hb.cell (p := ⟨b, off + k, none⟩) (hD _ hB)).trans (hc k hkn)
      rw [zat_snd] at q
      obtain ⟨y, hy⟩ : ∃ y, Hid ((zat Z k).2 = y) := ⟨_, rfl⟩
      rw [hy.out] at q
      have hkn' : (k : Int) < n := by omega
      clear hc
      by_cases hy0 : y = 0
      · subst hy0
        have hf : free Z = k := free_of (by rw [hn.out]; omega) hal (fun _ => hy.out)
        have hx : Hid (ixZ Z = (k : Int)) := by unfold Hid ixZ; rw [hf, hn.out, if_pos hkn]
        go_wp2
        go_ret
        exact ⟨(by rw [hx.out]; rfl), hb⟩
      · have hy1 : ((0 : Int) == y) = false := by simp; omega
        go_wp2
        go_roundw
        case rel => exact ⟨k + 1, by omega, by go_num, fun j hj => by
            rcases Nat.lt_or_ge j k with h | h
            · exact hal j h
            · obtain rfl : j = k := by omega
              rw [hy.out]; exact hy0, hb⟩
        case measure => simp [intOf]; omega
    · obtain rfl : k = n := by omega
      have hf : free Z = Z.length := free_of (Nat.le_refl _) (by rw [hn.out]; exact hal) (fun h => absurd h (by omega))
      have hx : Hid (ixZ Z = -1) := by unfold Hid ixZ; rw [hf, if_neg (by omega)]
      go_wp2
      go_ret
      exact ⟨(by rw [hx.out]; rfl), hb⟩
theorem free_any {base : Nat} {w : World} {kb : Nat} {Z : Zt} (hK : Kp base w kb Z) :
    Calls Try.prog 27 #[.pointer (some ⟨kb, 0, none⟩)] w fun e w' => e = .returned (.int .i64 (free Z)) ∧ Below w.heap.size w w' := by
  obtain ⟨a, c, a', c', hTw, hT⟩ := hK.tab
  have c1 := hTw.cell1
  have hlt := hTw.lt
  have hfl := free_le Z
  have hI := hT.2
  clear hT hK
  by_cases hf : free Z < Z.length
  · have hx : Hid (ixZ Z = (free Z : Int)) := by unfold Hid ixZ; rw [if_pos hf]
    go_enter Try.func27, Try.ntmps27
    go_wp2_with (go_at_call 30; refine (index_any hI (fun b h => h)).mono ?_; rintro e w1 ⟨rfl, hb1⟩; rw [hx.out])
    go_ret
    exact ⟨rfl, hb1⟩
  · have hx : Hid (ixZ Z = -1) := by unfold Hid ixZ; rw [if_neg hf]
    have he : Hid (((free Z : Nat) : Int) = ((Z.length : Nat) : Int)) := by unfold Hid; omega
    go_enter Try.func27, Try.ntmps27
    go_wp2_with (go_at_call 30; refine (index_any hI (fun b h => h)).mono ?_; rintro e w1 ⟨rfl, hb1⟩; rw [hx.out]; have d1 := (hb1.cell (p := ⟨kb, 1, none⟩) hlt).trans c1)
    go_ret
    exact ⟨(by rw [he.out]; rfl), hb1⟩
theorem cntV_set {Z : Zt} {i : Nat} {L : List (Int × Int)} {x : Int} : cntV (Z.set i (L, x)) = (cntV Z).set i (.int .i64 x) := by unfold cntV; rw [List.map_set]
/-- A count of a keeper's is stored. -/
theorem Kp.count {base : Nat} {w : World} {kb : Nat} {Z : Zt} (hK : Kp base w kb Z) {i : Nat} (hi : i < Z.length) (x : Int) :
    ∃ vL g c, Two w kb 48 vL (.slice (some ⟨g, 0, none⟩) Z.length c) ∧ w.cell? ⟨g, i, none⟩ = some (.int .i64 (zat Z i).2) ∧ w.frozen? ⟨g, i, none⟩ = false ∧ (Z.length ≤ c ∧ c ≤ 9223372036854775807) ∧
      Kp base (w.setCell ⟨g, i, none⟩ (.int .i64 x)) kb (Z.set i ((zat Z i).1, x)) ∧ Below base w (w.setCell ⟨g, i, none⟩ (.int .i64 x)) := by
  obtain ⟨vL, vC, vs, h1, h2, h3, h4, h5⟩ := hK
  obtain ⟨g, c, rfl⟩ := ownsRow_pos (by omega) h4
  have hst := h4.stored i (.int .i64 x)
  have hlt := h4.lt g rfl
  have hg : ∃ cur, w.heap[g]? = some (.cells cur 3 (0, 0)) := by
    rcases h4.2 with ⟨e, _⟩ | ⟨g', cap', cur, e, _, hgb, _⟩
    · cases e
    · cases e; exact ⟨cur, hgb⟩
  have hcap : Z.length ≤ c ∧ c ≤ 9223372036854775807 := by
    rcases h4.2 with ⟨e, _⟩ | ⟨g', cap', cur, e, _, hgb, q1, q2, _⟩
    · cases e
    · cases e; exact ⟨q1, by unfold maxLen at q2; omega⟩
  obtain ⟨cur, hg⟩ := hg
  have kt : ∀ t, t ≠ 3 → KTy t w (w.setCell ⟨g, i, none⟩ (.int .i64 x)) := fun t ht => KTy.set hg _ ht
  refine ⟨vL, g, c, h1, ?_, h4.frozenAt i, hcap, ⟨vL, _, vs, two_kty h1 (kt _ (by decide)), h2, ?_, ?_, fun j hj => ?_⟩, (Below.refl _ w).setCell (p := ⟨g, i, none⟩) hlt.1 _⟩
  · rw [h4.cellAt i (by omega), cntV_at hi]
  · rw [List.length_set]; exact ownsRow_kty h3 (kt _ (by decide))
  · rw [List.length_set, cntV_set]; exact hst.1
  · rw [List.length_set] at hj
    obtain ⟨a, k, c, q1, q2⟩ := h5 j hj
    refine ⟨a, k, c, q1, ?_⟩
    have e : (zat (Z.set i ((zat Z i).1, x)) j).1 = (zat Z j).1 := by
      rw [zat_set]; split
      · rename_i q; rw [q.1]
      · rfl
    rw [e]; exact q2.kty (kt _ (by decide))
theorem again_any {base : Nat} {w : World} {kb : Nat} {Z : Zt} (hK : Kp base w kb Z) {i : Nat} (hi : i < Z.length) (hle : (zat Z i).2 ≤ 1073741824) (h0 : 0 ≤ (zat Z i).2) :
    Calls Try.prog 19 #[.pointer (some ⟨kb, 0, none⟩), .int .i64 i] w fun e w' => Below base w w' ∧
      (((zat Z i).2 = 1073741824 ∧ e = .returned (.tuple #[.int .i64 0, .int .i64 13]) ∧ Kp base w' kb Z) ∨
       ((zat Z i).2 ≠ 1073741824 ∧ e = .returned (.tuple #[.int .i64 i, .int .i64 0]) ∧ Kp base w' kb (Z.set i ((zat Z i).1, (zat Z i).2 + 1)))) := by
  obtain ⟨vL, g, c, hTw, q1, q2, ⟨q3, q4⟩, q5, q6⟩ := hK.count hi ((zat Z i).2 + 1)
  have c1 := hTw.cell1
  have hiz : (i : Int) < ((Z.length : Nat) : Int) := by omega
  have HQ : Hid (Kp base (w.setCell ⟨g, i, none⟩ (.int .i64 ((zat Z i).2 + 1))) kb (Z.set i ((zat Z i).1, (zat Z i).2 + 1)) ∧ Below base w (w.setCell ⟨g, i, none⟩ (.int .i64 ((zat Z i).2 + 1)))) := ⟨q5, q6⟩
  have HK : Hid (Kp base w kb Z) := hK
  clear hK q5 q6
  obtain ⟨y, hy⟩ : ∃ y, Hid ((zat Z i).2 = y) := ⟨_, rfl⟩
  rw [hy.out] at q1 hle h0 HQ ⊢
  by_cases hm : (1073741824 : Int) ≤ y
  · have hy2 : y = 1073741824 := by omega
    go_enter Try.func19, Try.ntmps19
    go_wp2
    go_ret2
    exact ⟨Below.refl _ _, .inl ⟨hy2, rfl, HK.out⟩⟩
  · have hw : IntKind.i64.wrap (y + 1) = y + 1 := by rw [IntKind.wrap_i64]; omega
    have hm' : y ≠ 1073741824 := by omega
    go_enter Try.func19, Try.ntmps19
    go_wp2
    go_ret2
    exact ⟨HQ.out.2, rfl, HQ.out.1⟩
end Go.Proofs.Ytjkncajcmdlmgaa
