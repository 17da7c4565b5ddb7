/-
  PROVED HERE: what drop and Drop of package intern do when they are called (contracts over this translation). A fit table.
-/
import Derived.Test.YtjkncajcmdlmgaaItn12
namespace Go.Proofs.Ytjkncajcmdlmgaa
open Go.ChangeShapes Go.WideShapes Go.ChangeAt Go.RowKit
set_option linter.unusedVariables false

theorem trim_id {Z : Zt} (h : 0 < Z.length → (zat Z (Z.length - 1)).2 ≠ 0) : trim Z = Z := by
  have : endOf Z = Z.length := endOf_of (fun j h1 h2 => absurd h1 (by omega)) h
  unfold trim; rw [this, List.take_length]
theorem len_dropI (Z : Zt) (i : Nat) : (dropI Z i).length = Z.length := by unfold dropI; simp
theorem asks_iff {Z : Zt} {x : Int} : asksB Z x = true ↔ 0 ≤ x ∧ x < (Z.length : Int) ∧ (zat Z x.toNat).2 ≠ 0 := by unfold asksB; simp
theorem dropR_no {Z : Zt} {x : Int} (h : asksB Z x = false) : dropR Z x = (Z, 1) := by unfold dropR; rw [h]; rfl
theorem dropR_more {Z : Zt} {i : Nat} (hF : FitP Z) (h : asksB Z (i : Int) = true) (hc : (zat Z i).2 - 1 ≠ 0) : dropR Z (i : Int) = (Z.set i ((zat Z i).1, (zat Z i).2 - 1), 0) := by
  have hi : i < Z.length := by have := (asks_iff.1 h).2.1; omega
  have e : dropI Z i = Z.set i ((zat Z i).1, (zat Z i).2 - 1) := by unfold dropI less; rw [if_neg hc]
  unfold dropR
  rw [h, if_pos rfl, show ((i : Int)).toNat = i from rfl, trim_id, e]
  intro hp
  rw [len_dropI, zat_drop hi]
  split
  · exact hc
  · exact hF.last (by rw [len_dropI] at hp; exact hp)
theorem dropR_gone {Z : Zt} {i : Nat} (h : asksB Z (i : Int) = true) (hc : (zat Z i).2 - 1 = 0) : dropR Z (i : Int) = (trim (Z.set i ([], 0)), 0) := by
  have e : dropI Z i = Z.set i ([], 0) := by unfold dropI less; rw [if_pos hc, hc]
  unfold dropR
  rw [h, if_pos rfl, show ((i : Int)).toNat = i from rfl, e]
/-- A count of a keeper's is stored, and read again. -/
theorem Kp.cnt2 {base : Nat} {w : World} {kb : Nat} {Z : Zt} (hK : Kp base w kb Z) {i : Nat} (hi : i < Z.length) (x : Int) :
    ∃ vL g c, Two w kb 48 vL (.slice (some ⟨g, 0, none⟩) Z.length c) ∧ w.cell? ⟨g, i, none⟩ = some (.int .i64 (zat Z i).2) ∧ w.frozen? ⟨g, i, none⟩ = false ∧ (Z.length ≤ c ∧ c ≤ 9223372036854775807) ∧
      Kp base (w.setCell ⟨g, i, none⟩ (.int .i64 x)) kb (Z.set i ((zat Z i).1, x)) ∧ Below base w (w.setCell ⟨g, i, none⟩ (.int .i64 x)) ∧
      Two (w.setCell ⟨g, i, none⟩ (.int .i64 x)) kb 48 vL (.slice (some ⟨g, 0, none⟩) Z.length c) ∧ (w.setCell ⟨g, i, none⟩ (.int .i64 x)).cell? ⟨g, i, none⟩ = some (.int .i64 x) := by
  obtain ⟨g0, c0, g', c', t0, _, ⟨_, hne⟩, _⟩ := hK.place hi
  obtain ⟨vL, g, c, t1, q1, q2, q3, q4, q5⟩ := hK.count hi x
  obtain ⟨_, e⟩ := two_inj t0 t1
  have hne : g ≠ kb := by cases e; exact hne
  have T2 : Two (w.setCell ⟨g, i, none⟩ (.int .i64 x)) kb 48 vL (.slice (some ⟨g, 0, none⟩) Z.length c) := (Below.heap_setCell _ _ _ _ (fun e => hne e.symm)).trans t1
  refine ⟨vL, g, c, t1, q1, q2, q3, q4, q5, T2, ?_⟩
  obtain ⟨vL2, g2, c2, r1, r2, _⟩ := q4.count (i := i) (by rw [List.length_set]; exact hi) x
  obtain ⟨_, e⟩ := two_inj T2 r1
  simp only [Value.slice.injEq, Option.some.injEq, Addr.mk.injEq, and_true] at e
  rw [← e.1] at r2
  rw [r2, zat_set, if_pos ⟨rfl, hi⟩]
set_option maxRecDepth 100000 in
set_option maxHeartbeats 1000000 in
theorem drop_any {base : Nat} {w : World} {kb : Nat} {Z : Zt} (x : Int) (hK : Kp base w kb Z) (hF : FitP Z) :
    Calls Try.prog 13 #[.pointer (some ⟨kb, 0, none⟩), .int .i64 x] w fun e w' => e = .returned (.int .i64 (dropR Z x).2) ∧ Kp base w' kb (dropR Z x).1 ∧ Below base w w' := by
  have hlt := hK.lt
  have hbs : base ≤ w.heap.size := by omega
  have hn := hF.len
  have HF : Hid (FitP Z) := hF
  have HK : Hid (Kp base w kb Z) := hK
  obtain ⟨a1, c1, a1', c1', hTw, hT⟩ := hK.tab
  have d0 := hTw.cell0
  have d1 := hTw.cell1
  clear hTw hK hF
  cases hk : asksB Z x with
  | false =>
    rw [dropR_no hk]
    go_enter Try.func13, Try.ntmps13
    go_wp2_with (go_at_call 21; refine (isAsked_any x hT).mono ?_; rintro e w1 ⟨rfl, hb1⟩; rw [hk])
    go_ret
    exact ⟨rfl, HK.out.next hb1, hb1.mono hbs⟩
  | true =>
    obtain ⟨h0, h1, h2⟩ := asks_iff.1 hk
    obtain ⟨i, rfl⟩ : ∃ i : Nat, x = i := ⟨x.toNat, by omega⟩
    have hi : i < Z.length := by omega
    obtain ⟨s0, s1, s2, s3⟩ := HF.out.stand i hi
    have h2' : (zat Z i).2 ≠ 0 := h2
    have hfew : ∀ j, (zat Z j).1.length ≤ 65536 := fun j => Nat.le_trans (fit_few HF.out j) (by omega)
    by_cases hc : (zat Z i).2 - 1 = 0
    · rw [dropR_gone hk hc]
      have hone : (zat Z i).2 = 1 := by omega
      have hst : Hid ((Z.set i ((zat Z i).1, 0)).set i ([], 0) = Z.set i ([], 0)) := by unfold Hid; rw [List.set_set]
      have hfew2 : ∀ j, (zat (Z.set i (([] : List (Int × Int)), (0 : Int))) j).1.length ≤ 65536 := fun j => by
        rw [zat_set]; split
        · simp
        · exact hfew j
      clear hc s0 s1 s2 s3 h2 h2' hfew
      go_enter Try.func13, Try.ntmps13
      go_wp2_with (first | (go_at_call 21; refine (isAsked_any (i : Int) hT).mono ?_; rintro e w1 ⟨rfl, hb1⟩; rw [hk]; have K1 := HK.out.next hb1; obtain ⟨vL, g, cc, t1, q1, q2, ⟨q3, q4⟩, q5, q6, t2, q7⟩ := K1.cnt2 hi 0; rw [hone] at q1; have e1 := t1.cell1; have f1 := t2.cell1; obtain ⟨g2, c2, vC2, ov, u1, u2, u3, ⟨u4, u5⟩, ⟨u6, u7⟩, u8⟩ := q5.lab1 (i := i) (by rw [List.length_set]; exact hi); rw [List.length_set] at u1 u4; have f0 := u1.cell0; have K2 : Hid (Kp base ((w1.setCell ⟨g, i, none⟩ (.int .i64 0)).setCell ⟨g2, i, none⟩ (.slice none 0 0)) kb (Z.set i ([], 0)) ∧ Below base w ((w1.setCell ⟨g, i, none⟩ (.int .i64 0)).setCell ⟨g2, i, none⟩ (.slice none 0 0))) := (by obtain ⟨v1, v2⟩ := u8 none 0 0 [] (OwnL.labT (OwnL.nil 0 _)); rw [zat_set, if_pos ⟨rfl, hi⟩, hst.out] at v1; exact ⟨v1, ((hb1.mono hbs).trans q6).trans v2⟩); clear u8 q5 q6) | (go_at_call 22; refine (shorten_any K2.out.1 (by rw [List.length_set]; exact hn) hfew2).mono ?_; rintro e w3 ⟨⟨v, rfl⟩, hk3, hb3⟩))
      go_ret
      exact ⟨rfl, hk3, K2.out.2.trans hb3⟩
    · rw [dropR_more HF.out hk hc]
      obtain ⟨y, hy⟩ : ∃ y, Hid ((zat Z i).2 = y) := ⟨_, rfl⟩
      rw [hy.out] at hc s0 s1 ⊢
      have hw : IntKind.i64.wrap (y - 1) = y - 1 := by rw [IntKind.wrap_i64]; omega
      have hc' : (y - 1 == 0) = false := by simpa using hc
      clear h2 h2'
      go_enter Try.func13, Try.ntmps13
      go_wp2_with (go_at_call 21; refine (isAsked_any (i : Int) hT).mono ?_; rintro e w1 ⟨rfl, hb1⟩; rw [hk]; have K1 := HK.out.next hb1; obtain ⟨vL, g, cc, t1, q1, q2, ⟨q3, q4⟩, q5, q6, t2, q7⟩ := K1.cnt2 hi (y - 1); rw [hy.out] at q1; have e1 := t1.cell1; have f1 := t2.cell1)
      go_ret
      exact ⟨rfl, q5, (hb1.mono hbs).trans q6⟩
set_option maxRecDepth 100000 in
set_option maxHeartbeats 1000000 in
theorem tdrop_any {w : World} {a a' : Option Addr} {n c c' : Nat} {Z : Zt} (x : Int) (hT : Tab w a n c a' c' Z) (hF : FitP Z) :
    Calls Try.prog 7 #[.agg #[.slice a n c, .slice a' n c'], .int .i64 x] w fun e w' => ∃ a1 n1 c1 a1' c1', e = .returned (.tuple #[.agg #[.slice a1 n1 c1, .slice a1' n1 c1'], .int .i64 (dropR Z x).2]) ∧ TabN w' a1 n1 c1 a1' c1' (dropR Z x).1 ∧ Below w.heap.size w w' := by
  have hl := hT.len
  have hn := hF.len
  have hcm := hT.2.2.2.1.1
  have hnc := hT.2.2.1
  have hzt : Z.take n = Z := by rw [← hl, List.take_length]
  have hb0 : Below w.heap.size w ((w.alloc (.cells #[.slice a n c, .slice a' n c'] 27)).alloc (.cells #[.slice none 0 0, .slice none 0 0] 27)) := ((Below.refl _ w).alloc (Nat.le_refl _) _).alloc (by simp) _
  have t0 := two_kty (Two.new w 27 (.slice a n c) (.slice a' n c')) (KTy.alloc _ _ (.cells #[.slice none 0 0, .slice none 0 0] 27))
  have t1 := Two.new (w.alloc (.cells #[.slice a n c, .slice a' n c'] 27)) 27 (.slice none 0 0) (.slice none 0 0)
  rw [World.size_alloc] at t1
  have hfew : ∀ i, (zat Z i).1.length ≤ 65536 := fun i => Nat.le_trans (fit_few hF i) (by omega)
  have HF : Hid (FitP Z) := hF
  clear hF
  obtain ⟨W0, hW0⟩ : ∃ W0, Hid ((w.alloc (.cells #[.slice a n c, .slice a' n c'] 27)).alloc (.cells #[.slice none 0 0, .slice none 0 0] 27) = W0) := ⟨_, rfl⟩
  have hsz : W0.heap.size = w.heap.size + 2 := by rw [← hW0.out]; simp
  go_enter Try.func7, Try.ntmps7
  go_wp2
  rw [hW0.out] at hb0 t0 t1 ⊢
  have d0 := t0.cell0
  have d1 := t0.cell1
  have hTW := hT.next hb0
  go_region_held3 (fun w' => w'.cell? ⟨w.heap.size, 0, none⟩ = some (.slice a n c) ∧ w'.cell? ⟨w.heap.size, 1, none⟩ = some (.slice a' n c')) (go_keep) (first | (go_at_call 11; refine (places_any _ _ _ _ _ _ (by omega)).mono ?_; rintro e w1 ⟨rfl, hb1'⟩; have hb1 : Below W0.heap.size W0 w1 := (Below.refl _ W0).drew.trans hb1'; have e0 := (hb1.cell (p := ⟨w.heap.size, 0, none⟩) t0.lt).trans d0; have e1 := (hb1.cell (p := ⟨w.heap.size, 1, none⟩) t0.lt).trans d1) | (go_at_call 10; refine (keep_any n (hTW.next hb1) (Nat.le_refl _) (by omega) hfew).mono ?_; rintro e w2 ⟨kb, rfl, hk2, hb2⟩; rw [hzt] at hk2; have f0 := (hb2.cell (p := ⟨w.heap.size, 0, none⟩) (Nat.lt_of_lt_of_le t0.lt hb1.size)).trans e0; have f1 := (hb2.cell (p := ⟨w.heap.size, 1, none⟩) (Nat.lt_of_lt_of_le t0.lt hb1.size)).trans e1))
  have hb02 : Below W0.heap.size W0 w2 := hb1.trans (hb2.mono hb1.size)
  have hbs : W0.heap.size ≤ w1.heap.size := hb1.size
  go_wp2_with (go_at_call 13; refine (drop_any x hk2 HF.out).mono ?_; rintro e w3 ⟨rfl, hk3, hb3⟩; obtain ⟨a1, c1, a1', c1', hTw, hT3⟩ := hk3.tab; have g0 := hTw.cell0; have g1 := hTw.cell1; have T1 : Two w3 (w.heap.size + 1) 27 (.slice none 0 0) (.slice none 0 0) := (hb3.block (w.heap.size + 1) (by omega)).trans ((hb02.block (w.heap.size + 1) (by omega)).trans t1); have h0 := T1.cell0; have h1 := T1.cell1; have i0 := T1.frozen0 0; have i1 := T1.frozen0 1)
  have hw3 : Below w.heap.size w w3 := (hb0.trans (hb02.mono hb0.size)).trans (hb3.mono (Nat.le_trans hb0.size hbs))
  obtain ⟨o1, o2, o3⟩ := hk3.out hTw T1 hw3 (by omega)
  have p0 := o2.cell0
  have p1 := o2.cell1
  refine bodyPost_ret (v := .tuple #[.agg #[.slice a1 (dropR Z x).1.length c1, .slice a1' (dropR Z x).1.length c1'], .int .i64 (dropR Z x).2]) (by simp [results, Try.f7, go_sem, p0, p1]) rfl ?_
  exact ⟨_, _, _, _, _, rfl, o1, o3⟩
end Go.Proofs.Ytjkncajcmdlmgaa
