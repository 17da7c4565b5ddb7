/-
  PROVED HERE: what package pages' Put returns when it is called (a contract over this translation). The maps are fit.
-/
import Derived.Test.YtnfdmbbipkcdkaaPg4
namespace Go.Proofs.Ytnfdmbbipkcdkaa
open Go.RowKit Go.Shelf
set_option linter.unusedVariables false
attribute [local go_sem] Oper.semAt_some
open Pg

/-- Twelve cells and all that lay lie as they lay. -/
def Pu (w2 : World) (b o A : Nat) (v0 v1 v2 v3 v4 : Int) (v5 : Bool) (u0 u1 u2 u3 u4 : Int) (u5 : Bool) (W : World) : Prop :=
  W.cell? ⟨b, o, none⟩ = some (.int .i64 v0) ∧ W.cell? ⟨b, o + 1, none⟩ = some (.int .i64 v1) ∧ W.cell? ⟨b, o + 2, none⟩ = some (.int .u64 v2) ∧ W.cell? ⟨b, o + 3, none⟩ = some (.int .u64 v3) ∧ W.cell? ⟨b, o + 4, none⟩ = some (.int .i64 v4) ∧ W.cell? ⟨b, o + 5, none⟩ = some (.bool v5) ∧
  W.cell? ⟨A, 0, none⟩ = some (.int .i64 u0) ∧ W.cell? ⟨A, 1, none⟩ = some (.int .i64 u1) ∧ W.cell? ⟨A, 2, none⟩ = some (.int .u64 u2) ∧ W.cell? ⟨A, 3, none⟩ = some (.int .u64 u3) ∧ W.cell? ⟨A, 4, none⟩ = some (.int .i64 u4) ∧ W.cell? ⟨A, 5, none⟩ = some (.bool u5) ∧ Below w2.heap.size w2 W
theorem Pu.next {w2 X Y : World} {b o A : Nat} {v0 v1 v2 v3 v4 : Int} {v5 : Bool} {u0 u1 u2 u3 u4 : Int} {u5 : Bool} (h : Pu w2 b o A v0 v1 v2 v3 v4 v5 u0 u1 u2 u3 u4 u5 X) (hb : Below X.heap.size X Y) : Pu w2 b o A v0 v1 v2 v3 v4 v5 u0 u1 u2 u3 u4 u5 Y := by
  have f : ∀ {a : Addr} {v : Value}, X.cell? a = some v → Y.cell? a = some v := fun h => (hb.cell (World.block_lt_of_cell? _ _ h)).trans h
  obtain ⟨a0, a1, a2, a3, a4, a5, b0, b1, b2, b3, b4, b5, hB⟩ := h
  exact ⟨f a0, f a1, f a2, f a3, f a4, f a5, f b0, f b1, f b2, f b3, f b4, f b5, hB.trans (hb.mono hB.size)⟩
theorem Pu.bel {w2 X : World} {b o A : Nat} {v0 v1 v2 v3 v4 : Int} {v5 : Bool} {u0 u1 u2 u3 u4 : Int} {u5 : Bool} (h : Pu w2 b o A v0 v1 v2 v3 v4 v5 u0 u1 u2 u3 u4 u5 X) : Below w2.heap.size w2 X := h.2.2.2.2.2.2.2.2.2.2.2.2
/-- A map in a block, and all that lay lies as it lay. -/
def Pw (w2 : World) (A : Nat) (u0 u1 u2 u3 u4 : Int) (u5 : Bool) (W : World) : Prop :=
  W.cell? ⟨A, 0, none⟩ = some (.int .i64 u0) ∧ W.cell? ⟨A, 1, none⟩ = some (.int .i64 u1) ∧ W.cell? ⟨A, 2, none⟩ = some (.int .u64 u2) ∧ W.cell? ⟨A, 3, none⟩ = some (.int .u64 u3) ∧ W.cell? ⟨A, 4, none⟩ = some (.int .i64 u4) ∧ W.cell? ⟨A, 5, none⟩ = some (.bool u5) ∧ Below w2.heap.size w2 W
theorem Pw.next {w2 X Y : World} {A : Nat} {u0 u1 u2 u3 u4 : Int} {u5 : Bool} (h : Pw w2 A u0 u1 u2 u3 u4 u5 X) (hA : A < w2.heap.size) (hb : Below w2.heap.size X Y) : Pw w2 A u0 u1 u2 u3 u4 u5 Y := by
  have f : ∀ {j : Nat} {v : Value}, X.cell? ⟨A, j, none⟩ = some v → Y.cell? ⟨A, j, none⟩ = some v := fun h => (hb.cell (p := ⟨A, _, none⟩) hA).trans h
  obtain ⟨b0, b1, b2, b3, b4, b5, hB⟩ := h
  exact ⟨f b0, f b1, f b2, f b3, f b4, f b5, hB.trans hb⟩
theorem Pw.bel {w2 X : World} {A : Nat} {u0 u1 u2 u3 u4 : Int} {u5 : Bool} (h : Pw w2 A u0 u1 u2 u3 u4 u5 X) : Below w2.heap.size w2 X := h.2.2.2.2.2.2
theorem mps_one {W : World} {B : Nat} {x : Mp} (h : Mb W B x) : Mps W.heap.size W (some ⟨B, 0, none⟩) 1 1 [x] := by
  refine ⟨rfl, Nat.le_refl _, ⟨by omega, fun e => by cases e⟩, fun _ => ⟨B, 0, rfl, h.lt, fun i hi j v hv => ?_⟩⟩
  obtain rfl : i = 0 := by omega
  have hj : j < 6 := (Array.getElem?_eq_some_iff.1 hv).1
  rw [show 0 + 0 * 6 + j = j by omega]
  simp only [World.cell?, show W.heap[B]? = _ from h]
  exact hv
theorem row_app {w0 X w6 : World} {b : Nat} {v v6 : Value} {l m : List Mp} (h0 : Below w0.heap.size w0 X) (hb : w0.heap.size ≤ b) (hown : X.ownsRow b 25 6 v l.length (mpC l)) (hown' : w6.ownsRow b 25 6 v6 m.length (mpC m)) (hg : X.grownBy w6 v.ownBlock) :
    Below w0.heap.size X w6 ∧ Below w0.heap.size w0 w6 ∧ w6.ownsRow w0.heap.size 25 6 v6 m.length (mpC m) := by
  have h := row_below (B := w0.heap.size) hown (Below.refl _ X) h0.size hb hg
  exact ⟨h, h0.trans h, ownsRow_base hb hown'⟩
set_option maxHeartbeats 2000000 in
theorem put_any {w : World} {ao : Option Addr} {n cap : Nat} {L : List Mp} (hL : Mps w.heap.size w ao n cap L) (hF : Fit L) (va nn cont seg of : Int) (wr : Bool) :
    Calls Try.prog 13 #[.slice ao n cap, .agg #[.int .i64 va, .int .i64 nn, .int .u64 cont, .int .u64 seg, .int .i64 of, .bool wr]] w fun e w' => ∃ u, e = .returned (.tuple #[u, .int .i64 (putE L ⟨va, nn, cont, seg, of, wr⟩)]) ∧ w'.ownsRow w.heap.size 25 6 u (putL L ⟨va, nn, cont, seg, of, wr⟩).length (mpC (putL L ⟨va, nn, cont, seg, of, wr⟩)) ∧ Below w.heap.size w w' := by
  have hln : Hid (L.length = n) := hL.1
  have hn16 : n ≤ 16 := by rw [← hln.out]; exact hF.1
  obtain ⟨x, hx⟩ : ∃ x : Mp, Hid (x = ⟨va, nn, cont, seg, of, wr⟩) := ⟨_, rfl⟩
  have hB0 : Below w.heap.size w (w.alloc (.cells #[.int .i64 va, .int .i64 nn, .int .u64 cont, .int .u64 seg, .int .i64 of, .bool wr] 25)) := (Below.refl _ w).alloc (Nat.le_refl _) _
  have hM := Mb.new w ⟨va, nn, cont, seg, of, wr⟩
  have hL0 := hL.next hB0
  have hfit := fun W => isFit_any va nn cont seg of wr W
  rw [← hx.out] at hfit ⊢
  cases h1 : oneB x with
  | false =>
    have hE : Hid (putE L x = 4) := by show _ = _; unfold putE; rw [if_pos h1]
    have hR : Hid (putL L x = L) := put_no (by rw [hE.out]; omega)
    rw [hE.out, hR.out]
    rw [h1] at hfit
    clear hE hR h1
    go_enter Try.func13, Try.ntmps13
    go_wp2_with (first | (go_at_call 19; refine (hfit _).mono ?_; rintro e w1 ⟨rfl, hb1⟩) | (go_at_call 24; refine (copied_any (hL0.next hb1) (by omega)).mono ?_; rintro e w2 ⟨u, rfl, hown, hb2⟩))
    go_ret2
    have hb01 := hB0.trans (hb1.mono hB0.size)
    exact ⟨_, rfl, ownsRow_base hb01.size hown, hb01.trans (hb2.mono hb01.size)⟩
  | true =>
    rw [h1] at hfit
    have h1' := oneB_iff.1 h1
    rw [hx.out] at h1'
    simp only at h1'
    have hk := ps_le (P := eP va) (L := L)
    obtain ⟨k, hk2⟩ : ∃ k, Hid (pk L x = k) := ⟨_, rfl⟩
    have hk2' : ps (eP va) L = k := by have := hk2.out; unfold pk at this; rw [hx.out] at this; exact this
    have hpl : ∀ {W : World}, Below (w.alloc (.cells #[.int .i64 va, .int .i64 nn, .int .u64 cont, .int .u64 seg, .int .i64 of, .bool wr] 25)).heap.size (w.alloc (.cells #[.int .i64 va, .int .i64 nn, .int .u64 cont, .int .u64 seg, .int .i64 of, .bool wr] 25)) W → _ := fun {W} hb => place_e (hL0.next hb) hF va
    rw [hk2'] at hk
    simp only [hk2'] at hpl
    rw [hln.out] at hk
    clear hk2'
    have hend := fun W => end_any va nn h1'.1 (by omega) h1'.2.2.2.1 W
    by_cases hkn : k < n
    · obtain ⟨b, off, va2, nn2, cont2, seg2, of2, wrt2, rfl, hbb, hx2, _⟩ := MpsD.at hL0 hkn
      have hkn' : (k : Int) < n := by omega
      have hbeg := fun W => begins_any va2 nn2 (va + nn) W
      clear hbb
      cases hre : reB L x with
      | true =>
       have hE : Hid (putE L x = 12) := by show _ = _; unfold putE; rw [if_neg (by rw [h1]; simp), if_pos hre]
       have hR : Hid (putL L x = L) := put_no (by rw [hE.out]; omega)
       rw [hE.out, hR.out]
       unfold reB at hre
       rw [decide_eq_true_iff, hk2.out, hln.out] at hre
       have hkv := hre.2
       rw [hx2.out, hx.out] at hkv
       simp only at hkv
       simp only [decide_eq_true hkv] at hbeg
       clear hE hR h1 hre hkv
       go_enter Try.func13, Try.ntmps13
       go_wp2_with (first | (go_at_call 19; refine (hfit _).mono ?_; rintro e w1 ⟨rfl, hb1⟩; obtain ⟨m0, m1, m2, m3, m4, m5⟩ := (hM.next hb1).cells; simp only at m0 m1 m2 m3 m4 m5) | (go_at_call 25; refine (hpl hb1).mono ?_; rintro e w2 ⟨rfl, hb2⟩))
       obtain ⟨n0, n1, n2, n3, n4, n5⟩ := ((hM.next hb1).next hb2).cells
       simp only at n0 n1 n2 n3 n4 n5
       obtain ⟨b', off', va', nn', cont', seg', of', wrt', e0, hbb, hx3, c0, c1, c2, c3, c4, c5⟩ := MpsD.at ((hL0.next hb1).next hb2) hkn
       cases e0
       have e9 := hx3.out; rw [hx2.out] at e9; cases e9
       have HS : Pu w2 b (off + k * 6) w.heap.size va2 nn2 cont2 seg2 of2 wrt2 va nn cont seg of wr w2.drew := Pu.next ⟨c0, c1, c2, c3, c4, c5, n0, n1, n2, n3, n4, n5, Below.refl _ _⟩ (Below.refl _ _).drew
       clear c0 c1 c2 c3 c4 c5 n0 n1 n2 n3 n4 n5 m0 m1 m2 m3 m4 m5
       go_region_held3 (fun W => W.cell? ⟨b, off + k * 6, none⟩ = some (.int .i64 va2) ∧ W.cell? ⟨b, off + k * 6 + 1, none⟩ = some (.int .i64 nn2) ∧ W.cell? ⟨b, off + k * 6 + 2, none⟩ = some (.int .u64 cont2) ∧ W.cell? ⟨b, off + k * 6 + 3, none⟩ = some (.int .u64 seg2) ∧ W.cell? ⟨b, off + k * 6 + 4, none⟩ = some (.int .i64 of2) ∧ W.cell? ⟨b, off + k * 6 + 5, none⟩ = some (.bool wrt2) ∧ W.cell? ⟨w.heap.size, 0, none⟩ = some (.int .i64 va) ∧ W.cell? ⟨w.heap.size, 1, none⟩ = some (.int .i64 nn) ∧ W.cell? ⟨w.heap.size, 2, none⟩ = some (.int .u64 cont) ∧ W.cell? ⟨w.heap.size, 3, none⟩ = some (.int .u64 seg) ∧ W.cell? ⟨w.heap.size, 4, none⟩ = some (.int .i64 of) ∧ W.cell? ⟨w.heap.size, 5, none⟩ = some (.bool wr) ∧ Below w2.heap.size w2 W) (first | exact HS | exact Pu.next (by assumption) hb | go_keep) (first | (go_at_call 20; (with_reducible refine (stands_any va2 nn2 cont2 seg2 of2 wrt2 _).mono ?_); rintro e w' ⟨rfl, hb⟩) | (go_at_call 20; (with_reducible refine (stands_any va nn cont seg of wr _).mono ?_); rintro e w' ⟨rfl, hb⟩) | (go_at_call 27; (with_reducible refine (hend _).mono ?_); rintro e w' ⟨rfl, hb⟩) | (go_at_call 26; (with_reducible refine (hbeg _).mono ?_); rintro e w' ⟨rfl, hb⟩))
       have hfin : Below w2.heap.size w2 w' := Pu.bel (by assumption : Pu w2 b (off + k * 6) w.heap.size va2 nn2 cont2 seg2 of2 wrt2 va nn cont seg of wr w')
       have hLz := ((hL0.next hb1).next hb2).next hfin
       go_wp2_with (go_at_call 24; refine (copied_any hLz (by omega)).mono ?_; rintro e w5 ⟨u, rfl, hown, hb5⟩)
       go_ret2
       have q1 := hB0.trans (hb1.mono hB0.size)
       have q2 := q1.trans (hb2.mono q1.size)
       have q3 := q2.trans (hfin.mono q2.size)
       exact ⟨_, rfl, ownsRow_base q3.size hown, q3.trans (hb5.mono q3.size)⟩
      | false =>
       have hbb2 : Hid (decide (va2 < va + nn) = false) := by
         show _ = _
         unfold reB at hre
         rw [decide_eq_false_iff_not, hk2.out, hln.out] at hre
         rw [decide_eq_false_iff_not]
         intro q
         refine hre ⟨hkn, ?_⟩
         rw [hx2.out, hx.out]
         exact q
       simp only [hbb2.out] at hbeg
       by_cases hfull : 16 ≤ n
       · have hE : Hid (putE L x = 6) := by show _ = _; unfold putE; rw [if_neg (by rw [h1]; simp), if_neg (by rw [hre]; simp), if_pos (by rw [hln.out]; exact hfull)]
         have hR : Hid (putL L x = L) := put_no (by rw [hE.out]; omega)
         rw [hE.out, hR.out]
         clear hE hR h1 hre hbb2
         go_enter Try.func13, Try.ntmps13
         go_wp2_with (first | (go_at_call 19; refine (hfit _).mono ?_; rintro e w1 ⟨rfl, hb1⟩; obtain ⟨m0, m1, m2, m3, m4, m5⟩ := (hM.next hb1).cells; simp only at m0 m1 m2 m3 m4 m5) | (go_at_call 25; refine (hpl hb1).mono ?_; rintro e w2 ⟨rfl, hb2⟩))
         obtain ⟨n0, n1, n2, n3, n4, n5⟩ := ((hM.next hb1).next hb2).cells
         simp only at n0 n1 n2 n3 n4 n5
         obtain ⟨b', off', va', nn', cont', seg', of', wrt', e0, hbb, hx3, c0, c1, c2, c3, c4, c5⟩ := MpsD.at ((hL0.next hb1).next hb2) hkn
         cases e0
         have e9 := hx3.out; rw [hx2.out] at e9; cases e9
         have HS : Pu w2 b (off + k * 6) w.heap.size va2 nn2 cont2 seg2 of2 wrt2 va nn cont seg of wr w2.drew := Pu.next ⟨c0, c1, c2, c3, c4, c5, n0, n1, n2, n3, n4, n5, Below.refl _ _⟩ (Below.refl _ _).drew
         clear c0 c1 c2 c3 c4 c5 n0 n1 n2 n3 n4 n5 m0 m1 m2 m3 m4 m5
         go_region_held3 (fun W => W.cell? ⟨b, off + k * 6, none⟩ = some (.int .i64 va2) ∧ W.cell? ⟨b, off + k * 6 + 1, none⟩ = some (.int .i64 nn2) ∧ W.cell? ⟨b, off + k * 6 + 2, none⟩ = some (.int .u64 cont2) ∧ W.cell? ⟨b, off + k * 6 + 3, none⟩ = some (.int .u64 seg2) ∧ W.cell? ⟨b, off + k * 6 + 4, none⟩ = some (.int .i64 of2) ∧ W.cell? ⟨b, off + k * 6 + 5, none⟩ = some (.bool wrt2) ∧ W.cell? ⟨w.heap.size, 0, none⟩ = some (.int .i64 va) ∧ W.cell? ⟨w.heap.size, 1, none⟩ = some (.int .i64 nn) ∧ W.cell? ⟨w.heap.size, 2, none⟩ = some (.int .u64 cont) ∧ W.cell? ⟨w.heap.size, 3, none⟩ = some (.int .u64 seg) ∧ W.cell? ⟨w.heap.size, 4, none⟩ = some (.int .i64 of) ∧ W.cell? ⟨w.heap.size, 5, none⟩ = some (.bool wr) ∧ Below w2.heap.size w2 W) (first | exact HS | exact Pu.next (by assumption) hb | go_keep) (first | (go_at_call 20; (with_reducible refine (stands_any va2 nn2 cont2 seg2 of2 wrt2 _).mono ?_); rintro e w' ⟨rfl, hb⟩) | (go_at_call 20; (with_reducible refine (stands_any va nn cont seg of wr _).mono ?_); rintro e w' ⟨rfl, hb⟩) | (go_at_call 27; (with_reducible refine (hend _).mono ?_); rintro e w' ⟨rfl, hb⟩) | (go_at_call 26; (with_reducible refine (hbeg _).mono ?_); rintro e w' ⟨rfl, hb⟩))
         have hfin : Below w2.heap.size w2 w' := Pu.bel (by assumption : Pu w2 b (off + k * 6) w.heap.size va2 nn2 cont2 seg2 of2 wrt2 va nn cont seg of wr w')
         have hLz := ((hL0.next hb1).next hb2).next hfin
         go_wp2_with (go_at_call 24; refine (copied_any hLz (by omega)).mono ?_; rintro e w5 ⟨u, rfl, hown, hb5⟩)
         go_ret2
         have q1 := hB0.trans (hb1.mono hB0.size)
         have q2 := q1.trans (hb2.mono q1.size)
         have q3 := q2.trans (hfin.mono q2.size)
         exact ⟨_, rfl, ownsRow_base q3.size hown, q3.trans (hb5.mono q3.size)⟩
       · have hE : Hid (putE L x = 0) := by show _ = _; unfold putE; rw [if_neg (by rw [h1]; simp), if_neg (by rw [hre]; simp), if_neg (by rw [hln.out]; exact hfull)]
         have hR : Hid (putL L x = L.take k ++ [x] ++ L.drop k) := by show _ = _; rw [put_yes hE.out, hk2.out]; rfl
         rw [hE.out, hR.out]
         clear hE hR h1 hre hbb2
         have hfull' : n < 16 := by omega
         go_enter Try.func13, Try.ntmps13
         go_wp2_with (first | (go_at_call 19; refine (hfit _).mono ?_; rintro e w1 ⟨rfl, hb1⟩; obtain ⟨m0, m1, m2, m3, m4, m5⟩ := (hM.next hb1).cells; simp only at m0 m1 m2 m3 m4 m5) | (go_at_call 25; refine (hpl hb1).mono ?_; rintro e w2 ⟨rfl, hb2⟩))
         obtain ⟨n0, n1, n2, n3, n4, n5⟩ := ((hM.next hb1).next hb2).cells
         simp only at n0 n1 n2 n3 n4 n5
         obtain ⟨b', off', va', nn', cont', seg', of', wrt', e0, hbb, hx3, c0, c1, c2, c3, c4, c5⟩ := MpsD.at ((hL0.next hb1).next hb2) hkn
         cases e0
         have e9 := hx3.out; rw [hx2.out] at e9; cases e9
         have HS : Pu w2 b (off + k * 6) w.heap.size va2 nn2 cont2 seg2 of2 wrt2 va nn cont seg of wr w2.drew := Pu.next ⟨c0, c1, c2, c3, c4, c5, n0, n1, n2, n3, n4, n5, Below.refl _ _⟩ (Below.refl _ _).drew
         clear c0 c1 c2 c3 c4 c5 n0 n1 n2 n3 n4 n5 m0 m1 m2 m3 m4 m5
         go_region_held3 (fun W => W.cell? ⟨b, off + k * 6, none⟩ = some (.int .i64 va2) ∧ W.cell? ⟨b, off + k * 6 + 1, none⟩ = some (.int .i64 nn2) ∧ W.cell? ⟨b, off + k * 6 + 2, none⟩ = some (.int .u64 cont2) ∧ W.cell? ⟨b, off + k * 6 + 3, none⟩ = some (.int .u64 seg2) ∧ W.cell? ⟨b, off + k * 6 + 4, none⟩ = some (.int .i64 of2) ∧ W.cell? ⟨b, off + k * 6 + 5, none⟩ = some (.bool wrt2) ∧ W.cell? ⟨w.heap.size, 0, none⟩ = some (.int .i64 va) ∧ W.cell? ⟨w.heap.size, 1, none⟩ = some (.int .i64 nn) ∧ W.cell? ⟨w.heap.size, 2, none⟩ = some (.int .u64 cont) ∧ W.cell? ⟨w.heap.size, 3, none⟩ = some (.int .u64 seg) ∧ W.cell? ⟨w.heap.size, 4, none⟩ = some (.int .i64 of) ∧ W.cell? ⟨w.heap.size, 5, none⟩ = some (.bool wr) ∧ Below w2.heap.size w2 W) (first | exact HS | exact Pu.next (by assumption) hb | go_keep) (first | (go_at_call 20; (with_reducible refine (stands_any va2 nn2 cont2 seg2 of2 wrt2 _).mono ?_); rintro e w' ⟨rfl, hb⟩) | (go_at_call 20; (with_reducible refine (stands_any va nn cont seg of wr _).mono ?_); rintro e w' ⟨rfl, hb⟩) | (go_at_call 27; (with_reducible refine (hend _).mono ?_); rintro e w' ⟨rfl, hb⟩) | (go_at_call 26; (with_reducible refine (hbeg _).mono ?_); rintro e w' ⟨rfl, hb⟩))
         have hfin : Below w2.heap.size w2 w' := Pu.bel (by assumption : Pu w2 b (off + k * 6) w.heap.size va2 nn2 cont2 seg2 of2 wrt2 va nn cont seg of wr w')
         have hLz := ((hL0.next hb1).next hb2).next hfin
         have hMz := ((hM.next hb1).next hb2).next hfin
         obtain ⟨m0, m1, m2, m3, m4, m5⟩ := hMz.cells
         simp only at m0 m1 m2 m3 m4 m5
         have hnc : n ≤ cap := hL.2.1
         have hs1 := fun W => slice_to (ao := some ⟨b, off, none⟩) (n := n) (cap := cap) (k := k) (by omega) hnc W
         obtain ⟨a', _, hs2, hnx⟩ := slice_from hL (k := k) (by omega)
         go_wp2
         obtain ⟨W0, hW0⟩ : ∃ W0, W0 = w'.drew := ⟨_, rfl⟩
         have hd0 : Below w'.heap.size w' W0 := by rw [hW0]; exact (Below.refl _ _).drew
         have hk38 : k < 68719476736 := by omega
         have hT1 : Mps W0.heap.size W0 (some ⟨b, off, none⟩) k cap (L.take k) := (hLz.next hd0).take (k := k) (by omega)
         have hA0 : w.heap.size < w'.heap.size := hMz.lt
         have HS : Pw w' w.heap.size va nn cont seg of wr W0 := Pw.next ⟨m0, m1, m2, m3, m4, m5, Below.refl _ _⟩ hA0 hd0
         have hb6 : Below w'.heap.size w' (w'.alloc (.cells #[.int .i64 va, .int .i64 nn, .int .u64 cont, .int .u64 seg, .int .i64 of, .bool wr] 25)).drew := ((Below.refl _ w').alloc (Nat.le_refl _) (.cells #[.int .i64 va, .int .i64 nn, .int .u64 cont, .int .u64 seg, .int .i64 of, .bool wr] 25)).drew
         have hM6 : Mb (w'.alloc (.cells #[.int .i64 va, .int .i64 nn, .int .u64 cont, .int .u64 seg, .int .i64 of, .bool wr] 25)).drew w'.heap.size ⟨va, nn, cont, seg, of, wr⟩ := (Mb.new w' ⟨va, nn, cont, seg, of, wr⟩).next (Below.refl _ _).drew
         have hT2 : Mps (w'.alloc (.cells #[.int .i64 va, .int .i64 nn, .int .u64 cont, .int .u64 seg, .int .i64 of, .bool wr] 25)).drew.heap.size (w'.alloc (.cells #[.int .i64 va, .int .i64 nn, .int .u64 cont, .int .u64 seg, .int .i64 of, .bool wr] 25)).drew (some ⟨b, off, none⟩) k cap (L.take k) := (hLz.next hb6).take (k := k) (by omega)
         subst hW0
         have hal : ∀ W : World, Below W.heap.size W (W.alloc (.cells #[.int .i64 va, .int .i64 nn, .int .u64 cont, .int .u64 seg, .int .i64 of, .bool wr] 25)) := fun W => (Below.refl _ W).alloc (Nat.le_refl _) _
         have hlen1 : (L.take k).length + 1 < 68719476736 := by rw [List.length_take]; omega
         have hlen2 : (L.take k ++ [(⟨va, nn, cont, seg, of, wr⟩ : Mp)]).length + (n - k) < 68719476736 := by rw [List.length_append, List.length_take]; simp; omega
         have armA : ∀ {w5 w6 : World} {u u6 : Value} {m : List Mp}, w5.ownsRow w'.drew.heap.size 25 6 u (L.take k).length (mpC (L.take k)) → Below w'.drew.heap.size w'.drew w5 → w6.ownsRow w'.drew.heap.size 25 6 u6 m.length (mpC m) → (w5.alloc (.cells #[.int .i64 va, .int .i64 nn, .int .u64 cont, .int .u64 seg, .int .i64 of, .bool wr] 25)).grownBy w6 u.ownBlock →
             Below w'.heap.size (w5.alloc (.cells #[.int .i64 va, .int .i64 nn, .int .u64 cont, .int .u64 seg, .int .i64 of, .bool wr] 25)) w6 ∧ Below w'.heap.size w' w6 ∧ w6.ownsRow w'.heap.size 25 6 u6 m.length (mpC m) := fun {w5 w6 u u6 m} h1 h2 h3 h4 =>
           row_app ((hd0.trans (h2.mono hd0.size)).trans ((hal w5).mono (Nat.le_trans hd0.size h2.size))) hd0.size (row_next h1 (hal w5)) h3 h4
         have armB : ∀ {w5 w6 : World} {u u6 : Value} {m : List Mp}, w5.ownsRow (w'.alloc (.cells #[.int .i64 va, .int .i64 nn, .int .u64 cont, .int .u64 seg, .int .i64 of, .bool wr] 25)).drew.heap.size 25 6 u (L.take k).length (mpC (L.take k)) → Below (w'.alloc (.cells #[.int .i64 va, .int .i64 nn, .int .u64 cont, .int .u64 seg, .int .i64 of, .bool wr] 25)).drew.heap.size (w'.alloc (.cells #[.int .i64 va, .int .i64 nn, .int .u64 cont, .int .u64 seg, .int .i64 of, .bool wr] 25)).drew w5 → w6.ownsRow (w'.alloc (.cells #[.int .i64 va, .int .i64 nn, .int .u64 cont, .int .u64 seg, .int .i64 of, .bool wr] 25)).drew.heap.size 25 6 u6 m.length (mpC m) → w5.grownBy w6 u.ownBlock →
             Below w'.heap.size w5 w6 ∧ Below w'.heap.size w' w6 ∧ w6.ownsRow w'.heap.size 25 6 u6 m.length (mpC m) := fun {w5 w6 u u6 m} h1 h2 h3 h4 =>
           row_app (hb6.trans (h2.mono hb6.size)) hb6.size h1 h3 h4
         have b5A : ∀ {w5 : World}, Below w'.drew.heap.size w'.drew w5 → Below w'.heap.size w'.drew w5 := fun h => h.mono hd0.size
         have b5B : ∀ {w5 : World}, Below (w'.alloc (.cells #[.int .i64 va, .int .i64 nn, .int .u64 cont, .int .u64 seg, .int .i64 of, .bool wr] 25)).drew.heap.size (w'.alloc (.cells #[.int .i64 va, .int .i64 nn, .int .u64 cont, .int .u64 seg, .int .i64 of, .bool wr] 25)).drew w5 → Below w'.heap.size (w'.alloc (.cells #[.int .i64 va, .int .i64 nn, .int .u64 cont, .int .u64 seg, .int .i64 of, .bool wr] 25)).drew w5 := fun h => h.mono hb6.size
         go_region_held3 (fun W => W.cell? ⟨w.heap.size, 0, none⟩ = some (.int .i64 va) ∧ W.cell? ⟨w.heap.size, 1, none⟩ = some (.int .i64 nn) ∧ W.cell? ⟨w.heap.size, 2, none⟩ = some (.int .u64 cont) ∧ W.cell? ⟨w.heap.size, 3, none⟩ = some (.int .u64 seg) ∧ W.cell? ⟨w.heap.size, 4, none⟩ = some (.int .i64 of) ∧ W.cell? ⟨w.heap.size, 5, none⟩ = some (.bool wr) ∧ Below w'.heap.size w' W) (first | exact HS | exact Pw.next (by assumption) hA0 hb5' | exact Pw.next (by assumption) hA0 hb7' | exact Pw.next (by assumption) hA0 hb8' | exact Pw.next (by assumption) hA0 ((Below.refl _ _).alloc (Pw.bel (by assumption)).size _) | fail) (first | (go_at_call 24; (with_reducible refine (copied_any hT1 hk38).mono ?_); rintro e w5 ⟨u, rfl, hown, hb5⟩; have hb5' := b5A hb5) | (go_at_call 24; (with_reducible refine (copied_any hT2 hk38).mono ?_); rintro e w5 ⟨u, rfl, hownB, hb5⟩; have hb5' := b5B hb5) | (refine step_append_mps rfl _ _ rfl w'.drew.heap.size _ (L.take k) rfl (row_next hown (hal w5)) _ _ _ _ [⟨va, nn, cont, seg, of, wr⟩] rfl (mps_one (Mb.new w5 ⟨va, nn, cont, seg, of, wr⟩)) hlen1 (Nat.le_trans hb5.size (hal w5).size) ?_; intro u6 w6 hown6' hgrow6; obtain ⟨hb7', hb76, hown6⟩ := armA hown hb5 hown6' hgrow6) | (refine step_append_mps rfl _ _ rfl (w'.alloc (.cells #[.int .i64 va, .int .i64 nn, .int .u64 cont, .int .u64 seg, .int .i64 of, .bool wr] 25)).drew.heap.size _ (L.take k) rfl hownB _ _ _ _ [⟨va, nn, cont, seg, of, wr⟩] rfl (mps_one (hM6.next hb5)) hlen1 hb5.size ?_; intro u6 w6 hown6' hgrow6; obtain ⟨hb7', hb76, hown6⟩ := armB hownB hb5 hown6' hgrow6) | (refine step_append_mps rfl _ _ rfl w'.heap.size _ (L.take k ++ [(⟨va, nn, cont, seg, of, wr⟩ : Mp)]) rfl hown6 _ _ _ _ (L.drop k) rfl (hnx (hLz.next hb76)) hlen2 hb76.size ?_; intro u8 w8 hown8 hgrow8; obtain ⟨hb8', hb86, hown9⟩ := row_app hb76 (Nat.le_refl _) hown6 hown8 hgrow8) | fail)
         all_goals go_wp2
         all_goals go_ret2
         all_goals have q1 := hB0.trans (hb1.mono hB0.size)
         all_goals have q2 := q1.trans (hb2.mono q1.size)
         all_goals have q3 := q2.trans (hfin.mono q2.size)
         all_goals exact ⟨_, rfl, by rw [hx.out]; exact ownsRow_base q3.size hown9, q3.trans (hb86.mono q3.size)⟩
    · have hre : reB L x = false := by unfold reB; rw [decide_eq_false_iff_not, hk2.out, hln.out]; exact fun q => hkn q.1
      have hlt : decide ((k : Int) < (n : Int)) = false := by rw [decide_eq_false_iff_not]; omega
      by_cases hfull : 16 ≤ n
      · have hE : Hid (putE L x = 6) := by show _ = _; unfold putE; rw [if_neg (by rw [h1]; simp), if_neg (by rw [hre]; simp), if_pos (by rw [hln.out]; exact hfull)]
        have hR : Hid (putL L x = L) := put_no (by rw [hE.out]; omega)
        rw [hE.out, hR.out]
        clear hE hR h1 hre
        go_enter Try.func13, Try.ntmps13
        go_wp2_with (first | (go_at_call 19; refine (hfit _).mono ?_; rintro e w1 ⟨rfl, hb1⟩; obtain ⟨m0, m1, m2, m3, m4, m5⟩ := (hM.next hb1).cells; simp only at m0 m1 m2 m3 m4 m5) | (go_at_call 25; refine (hpl hb1).mono ?_; rintro e w2 ⟨rfl, hb2⟩))
        go_quiet (fail)
        have hfin : Below w2.heap.size w2 (w2.drewN nq) := ⟨rfl, rfl, rfl, Nat.le_refl _, fun _ _ => rfl⟩
        generalize w2.drewN nq = w' at hfin ⊢
        have hLz := ((hL0.next hb1).next hb2).next hfin
        go_wp2_with (go_at_call 24; refine (copied_any hLz (by omega)).mono ?_; rintro e w5 ⟨u, rfl, hown, hb5⟩)
        go_ret2
        have q1 := hB0.trans (hb1.mono hB0.size)
        have q2 := q1.trans (hb2.mono q1.size)
        have q3 := q2.trans (hfin.mono q2.size)
        exact ⟨_, rfl, ownsRow_base q3.size hown, q3.trans (hb5.mono q3.size)⟩
      · have hE : Hid (putE L x = 0) := by show _ = _; unfold putE; rw [if_neg (by rw [h1]; simp), if_neg (by rw [hre]; simp), if_neg (by rw [hln.out]; exact hfull)]
        have hR : Hid (putL L x = L.take k ++ [x] ++ L.drop k) := by show _ = _; rw [put_yes hE.out, hk2.out]; rfl
        rw [hE.out, hR.out]
        clear hE hR h1 hre
        have hfull' : n < 16 := by omega
        go_enter Try.func13, Try.ntmps13
        go_wp2_with (first | (go_at_call 19; refine (hfit _).mono ?_; rintro e w1 ⟨rfl, hb1⟩; obtain ⟨m0, m1, m2, m3, m4, m5⟩ := (hM.next hb1).cells; simp only at m0 m1 m2 m3 m4 m5) | (go_at_call 25; refine (hpl hb1).mono ?_; rintro e w2 ⟨rfl, hb2⟩))
        go_quiet (fail)
        have hfin : Below w2.heap.size w2 (w2.drewN nq) := ⟨rfl, rfl, rfl, Nat.le_refl _, fun _ _ => rfl⟩
        generalize w2.drewN nq = w' at hfin ⊢
        have hLz := ((hL0.next hb1).next hb2).next hfin
        have hMz := ((hM.next hb1).next hb2).next hfin
        obtain ⟨m0, m1, m2, m3, m4, m5⟩ := hMz.cells
        simp only at m0 m1 m2 m3 m4 m5
        have hnc : n ≤ cap := hL.2.1
        have hs1 := fun W => slice_to (ao := ao) (n := n) (cap := cap) (k := k) (by omega) hnc W
        obtain ⟨a', _, hs2, hnx⟩ := slice_from hL (k := k) (by omega)
        go_wp2
        obtain ⟨W0, hW0⟩ : ∃ W0, W0 = w'.drew := ⟨_, rfl⟩
        have hd0 : Below w'.heap.size w' W0 := by rw [hW0]; exact (Below.refl _ _).drew
        have hk38 : k < 68719476736 := by omega
        have hT1 : Mps W0.heap.size W0 (ao) k cap (L.take k) := (hLz.next hd0).take (k := k) (by omega)
        have hA0 : w.heap.size < w'.heap.size := hMz.lt
        have HS : Pw w' w.heap.size va nn cont seg of wr W0 := Pw.next ⟨m0, m1, m2, m3, m4, m5, Below.refl _ _⟩ hA0 hd0
        have hb6 : Below w'.heap.size w' (w'.alloc (.cells #[.int .i64 va, .int .i64 nn, .int .u64 cont, .int .u64 seg, .int .i64 of, .bool wr] 25)).drew := ((Below.refl _ w').alloc (Nat.le_refl _) (.cells #[.int .i64 va, .int .i64 nn, .int .u64 cont, .int .u64 seg, .int .i64 of, .bool wr] 25)).drew
        have hM6 : Mb (w'.alloc (.cells #[.int .i64 va, .int .i64 nn, .int .u64 cont, .int .u64 seg, .int .i64 of, .bool wr] 25)).drew w'.heap.size ⟨va, nn, cont, seg, of, wr⟩ := (Mb.new w' ⟨va, nn, cont, seg, of, wr⟩).next (Below.refl _ _).drew
        have hT2 : Mps (w'.alloc (.cells #[.int .i64 va, .int .i64 nn, .int .u64 cont, .int .u64 seg, .int .i64 of, .bool wr] 25)).drew.heap.size (w'.alloc (.cells #[.int .i64 va, .int .i64 nn, .int .u64 cont, .int .u64 seg, .int .i64 of, .bool wr] 25)).drew (ao) k cap (L.take k) := (hLz.next hb6).take (k := k) (by omega)
        subst hW0
        have hal : ∀ W : World, Below W.heap.size W (W.alloc (.cells #[.int .i64 va, .int .i64 nn, .int .u64 cont, .int .u64 seg, .int .i64 of, .bool wr] 25)) := fun W => (Below.refl _ W).alloc (Nat.le_refl _) _
        have hlen1 : (L.take k).length + 1 < 68719476736 := by rw [List.length_take]; omega
        have hlen2 : (L.take k ++ [(⟨va, nn, cont, seg, of, wr⟩ : Mp)]).length + (n - k) < 68719476736 := by rw [List.length_append, List.length_take]; simp; omega
        have armA : ∀ {w5 w6 : World} {u u6 : Value} {m : List Mp}, w5.ownsRow w'.drew.heap.size 25 6 u (L.take k).length (mpC (L.take k)) → Below w'.drew.heap.size w'.drew w5 → w6.ownsRow w'.drew.heap.size 25 6 u6 m.length (mpC m) → (w5.alloc (.cells #[.int .i64 va, .int .i64 nn, .int .u64 cont, .int .u64 seg, .int .i64 of, .bool wr] 25)).grownBy w6 u.ownBlock →
            Below w'.heap.size (w5.alloc (.cells #[.int .i64 va, .int .i64 nn, .int .u64 cont, .int .u64 seg, .int .i64 of, .bool wr] 25)) w6 ∧ Below w'.heap.size w' w6 ∧ w6.ownsRow w'.heap.size 25 6 u6 m.length (mpC m) := fun {w5 w6 u u6 m} h1 h2 h3 h4 =>
          row_app ((hd0.trans (h2.mono hd0.size)).trans ((hal w5).mono (Nat.le_trans hd0.size h2.size))) hd0.size (row_next h1 (hal w5)) h3 h4
        have armB : ∀ {w5 w6 : World} {u u6 : Value} {m : List Mp}, w5.ownsRow (w'.alloc (.cells #[.int .i64 va, .int .i64 nn, .int .u64 cont, .int .u64 seg, .int .i64 of, .bool wr] 25)).drew.heap.size 25 6 u (L.take k).length (mpC (L.take k)) → Below (w'.alloc (.cells #[.int .i64 va, .int .i64 nn, .int .u64 cont, .int .u64 seg, .int .i64 of, .bool wr] 25)).drew.heap.size (w'.alloc (.cells #[.int .i64 va, .int .i64 nn, .int .u64 cont, .int .u64 seg, .int .i64 of, .bool wr] 25)).drew w5 → w6.ownsRow (w'.alloc (.cells #[.int .i64 va, .int .i64 nn, .int .u64 cont, .int .u64 seg, .int .i64 of, .bool wr] 25)).drew.heap.size 25 6 u6 m.length (mpC m) → w5.grownBy w6 u.ownBlock →
            Below w'.heap.size w5 w6 ∧ Below w'.heap.size w' w6 ∧ w6.ownsRow w'.heap.size 25 6 u6 m.length (mpC m) := fun {w5 w6 u u6 m} h1 h2 h3 h4 =>
          row_app (hb6.trans (h2.mono hb6.size)) hb6.size h1 h3 h4
        have b5A : ∀ {w5 : World}, Below w'.drew.heap.size w'.drew w5 → Below w'.heap.size w'.drew w5 := fun h => h.mono hd0.size
        have b5B : ∀ {w5 : World}, Below (w'.alloc (.cells #[.int .i64 va, .int .i64 nn, .int .u64 cont, .int .u64 seg, .int .i64 of, .bool wr] 25)).drew.heap.size (w'.alloc (.cells #[.int .i64 va, .int .i64 nn, .int .u64 cont, .int .u64 seg, .int .i64 of, .bool wr] 25)).drew w5 → Below w'.heap.size (w'.alloc (.cells #[.int .i64 va, .int .i64 nn, .int .u64 cont, .int .u64 seg, .int .i64 of, .bool wr] 25)).drew w5 := fun h => h.mono hb6.size
        go_region_held3 (fun W => W.cell? ⟨w.heap.size, 0, none⟩ = some (.int .i64 va) ∧ W.cell? ⟨w.heap.size, 1, none⟩ = some (.int .i64 nn) ∧ W.cell? ⟨w.heap.size, 2, none⟩ = some (.int .u64 cont) ∧ W.cell? ⟨w.heap.size, 3, none⟩ = some (.int .u64 seg) ∧ W.cell? ⟨w.heap.size, 4, none⟩ = some (.int .i64 of) ∧ W.cell? ⟨w.heap.size, 5, none⟩ = some (.bool wr) ∧ Below w'.heap.size w' W) (first | exact HS | exact Pw.next (by assumption) hA0 hb5' | exact Pw.next (by assumption) hA0 hb7' | exact Pw.next (by assumption) hA0 hb8' | exact Pw.next (by assumption) hA0 ((Below.refl _ _).alloc (Pw.bel (by assumption)).size _) | fail) (first | (go_at_call 24; (with_reducible refine (copied_any hT1 hk38).mono ?_); rintro e w5 ⟨u, rfl, hown, hb5⟩; have hb5' := b5A hb5) | (go_at_call 24; (with_reducible refine (copied_any hT2 hk38).mono ?_); rintro e w5 ⟨u, rfl, hownB, hb5⟩; have hb5' := b5B hb5) | (refine step_append_mps rfl _ _ rfl w'.drew.heap.size _ (L.take k) rfl (row_next hown (hal w5)) _ _ _ _ [⟨va, nn, cont, seg, of, wr⟩] rfl (mps_one (Mb.new w5 ⟨va, nn, cont, seg, of, wr⟩)) hlen1 (Nat.le_trans hb5.size (hal w5).size) ?_; intro u6 w6 hown6' hgrow6; obtain ⟨hb7', hb76, hown6⟩ := armA hown hb5 hown6' hgrow6) | (refine step_append_mps rfl _ _ rfl (w'.alloc (.cells #[.int .i64 va, .int .i64 nn, .int .u64 cont, .int .u64 seg, .int .i64 of, .bool wr] 25)).drew.heap.size _ (L.take k) rfl hownB _ _ _ _ [⟨va, nn, cont, seg, of, wr⟩] rfl (mps_one (hM6.next hb5)) hlen1 hb5.size ?_; intro u6 w6 hown6' hgrow6; obtain ⟨hb7', hb76, hown6⟩ := armB hownB hb5 hown6' hgrow6) | (refine step_append_mps rfl _ _ rfl w'.heap.size _ (L.take k ++ [(⟨va, nn, cont, seg, of, wr⟩ : Mp)]) rfl hown6 _ _ _ _ (L.drop k) rfl (hnx (hLz.next hb76)) hlen2 hb76.size ?_; intro u8 w8 hown8 hgrow8; obtain ⟨hb8', hb86, hown9⟩ := row_app hb76 (Nat.le_refl _) hown6 hown8 hgrow8) | fail)
        all_goals go_wp2
        all_goals go_ret2
        all_goals have q1 := hB0.trans (hb1.mono hB0.size)
        all_goals have q2 := q1.trans (hb2.mono q1.size)
        all_goals have q3 := q2.trans (hfin.mono q2.size)
        all_goals exact ⟨_, rfl, by rw [hx.out]; exact ownsRow_base q3.size hown9, q3.trans (hb86.mono q3.size)⟩
end Go.Proofs.Ytnfdmbbipkcdkaa
