/-
  PROVED HERE: what package frames' Take, Give, Drop, New and Same return when they are called (contracts over this translation). Frames are fewer than 2^38.
-/
import Derived.Test.YtjdjiooblfgmlaaFrm5
import Derived.Deep.QuietTactic
namespace Go.Proofs.Ytjdjiooblfgmlaa
open Go.RowKit Go.Shelf
set_option linter.unusedVariables false
attribute [local go_sem] Oper.semAt_some

namespace Frm
/-- The first place, as a number of a list. -/
def fI (P : Fr → Bool) (L : List Fr) : Nat := (fst P L).getD 0
theorem fI_lt {P : Fr → Bool} {L : List Fr} (h : fF P L = true) : fI P L < L.length := by
  unfold fF at h
  obtain ⟨x, hx⟩ := Option.isSome_iff_exists.1 h
  unfold fI; rw [hx]
  exact (fst_some.1 hx).1
theorem fN_fI (P : Fr → Bool) (L : List Fr) : fN P L = (fI P L : Nat) := rfl
def badB (o p : Int) : Bool := decide (o = 0) || !pgB p
def tkE (L : List Fr) (o p : Int) : Int := if badB o p then 4 else if fF (poB o p) L then 12 else if fF isF L then 0 else 6
def tkL (L : List Fr) (o p : Int) : List Fr := if tkE L o p = 0 then L.set (fI isF L) (o, p) else L
def tkN (L : List Fr) (o p : Int) : Int := if tkE L o p = 0 then fN isF L else 0
def gvE (L : List Fr) (o p : Int) : Int := if fF (poB o p) L then 0 else 1
def gvL (L : List Fr) (o p : Int) : List Fr := if fF (poB o p) L then L.set (fI (poB o p) L) (0, 0) else L
/-- Frames of which some are freed. -/
def frK (L : List Fr) (ks : List Nat) : List Fr := ks.foldl (fun M i => M.set i (0, 0)) L
theorem frK_snoc (L : List Fr) (ks : List Nat) (k : Nat) : frK L (ks ++ [k]) = (frK L ks).set k (0, 0) := by simp [frK]
theorem frK_len (L : List Fr) (ks : List Nat) : (frK L ks).length = L.length := by
  induction ks generalizing L with
  | nil => rfl
  | cons k r ih => show (frK (L.set k (0, 0)) r).length = _; rw [ih]; simp
theorem frK_at (L : List Fr) (ks : List Nat) {i : Nat} (hi : i < L.length) : fat (frK L ks) i = if i ∈ ks then (0, 0) else fat L i := by
  induction ks generalizing L with
  | nil => simp [frK]
  | cons k r ih =>
    show fat (frK (L.set k (0, 0)) r) i = _
    rw [ih (L.set k (0, 0)) (by simpa using hi), fat_set hi]
    by_cases h1 : i ∈ r
    · simp [h1]
    · by_cases h2 : k = i
      · subst h2; simp
      · simp [h1, h2, Ne.symm h2]
theorem frK_hits (L : List Fr) (o : Int) : frK L (hits (hdB o) L) = dropL o L := by
  refine fat_ext (by rw [frK_len]; unfold dropL; simp) fun i hi => ?_
  rw [frK_len] at hi
  rw [frK_at _ _ hi]
  unfold dropL
  rw [fat_map hi]
  by_cases h : i ∈ hits (hdB o) L
  · rw [if_pos h, if_pos (hits_mem.1 h).2]
  · rw [if_neg h, if_neg (fun e => h (hits_mem.2 ⟨hi, e⟩))]
end Frm

theorem OwnL.ret {base : Nat} {w : World} {ao : Option Addr} {n cap : Nat} {L : List (Int × Int)} (h : OwnL base w ao n cap L) : Lab w.heap.size w ao n cap L := h.lab
set_option maxHeartbeats 1000000 in
theorem take_own {w : World} {ao : Option Addr} {n cap : Nat} {L : List Frm.Fr} (hL : Lab w.heap.size w ao n cap L) (hn : n < 274877906944) (o p : Int) :
    Calls Try.prog 13 #[.slice ao n cap, .int .u64 o, .int .i64 p] w fun e w' => ∃ ao1 cap1, e = .returned (.tuple #[.slice ao1 n cap1, .int .i64 (Frm.tkN L o p), .int .i64 (Frm.tkE L o p)]) ∧ OwnL w.heap.size w' ao1 n cap1 (Frm.tkL L o p) ∧ Below w.heap.size w w' := by
  have hln : Hid (L.length = n) := hL.1
  have hcp := copied_any hL hn
  have hfd := find_any hL o p
  by_cases h0 : o = 0
  · subst h0
    have hE : Hid (Frm.tkE L 0 p = 4) := by show _ = _; simp [Frm.tkE, Frm.badB]
    have hR : Hid (Frm.tkL L 0 p = L) := by show _ = _; unfold Frm.tkL; rw [hE.out, if_neg (by omega)]
    have hN : Hid (Frm.tkN L 0 p = 0) := by show _ = _; unfold Frm.tkN; rw [hE.out, if_neg (by omega)]
    rw [hE.out, hR.out, hN.out]
    go_enter Try.func13, Try.ntmps13
    go_wp2_with (go_at_call 30; refine hcp.mono ?_; rintro e w1 ⟨ao1, cap1, rfl, hown, hb1⟩)
    go_ret3
    exact ⟨_, _, rfl, OwnL.base (by first | exact Nat.le_refl _ | exact hb2.size | exact Nat.le_trans hb2.size hb3.size) hown, hb1⟩
  · have h0' : (o == 0) = false := by simpa using h0
    cases hp : Frm.pgB p with
    | false =>
      have hE : Hid (Frm.tkE L o p = 4) := by show _ = _; simp [Frm.tkE, Frm.badB, hp]
      have hR : Hid (Frm.tkL L o p = L) := by show _ = _; unfold Frm.tkL; rw [hE.out, if_neg (by omega)]
      have hN : Hid (Frm.tkN L o p = 0) := by show _ = _; unfold Frm.tkN; rw [hE.out, if_neg (by omega)]
      rw [hE.out, hR.out, hN.out]
      have hpg := fun w => isPage_any p w
      rw [hp] at hpg
      go_enter Try.func13, Try.ntmps13
      go_wp2_with (first | (go_at_call 29; refine (hpg _).mono ?_; rintro e w' ⟨rfl, rfl⟩) | (go_at_call 30; refine hcp.mono ?_; rintro e w1 ⟨ao1, cap1, rfl, hown, hb1⟩))
      go_ret3
      exact ⟨_, _, rfl, OwnL.base (by first | exact Nat.le_refl _ | exact hb2.size | exact Nat.le_trans hb2.size hb3.size) hown, hb1⟩
    | true =>
      have hbd : Hid (Frm.badB o p = false) := by show _ = _; simp [Frm.badB, hp, h0]
      have hpg := fun w => isPage_any p w
      rw [hp] at hpg
      cases hf : Frm.fF (Frm.poB o p) L with
      | true =>
        have hE : Hid (Frm.tkE L o p = 12) := by show _ = _; unfold Frm.tkE; rw [hbd.out, hf]; rfl
        have hR : Hid (Frm.tkL L o p = L) := by show _ = _; unfold Frm.tkL; rw [hE.out, if_neg (by omega)]
        have hN : Hid (Frm.tkN L o p = 0) := by show _ = _; unfold Frm.tkN; rw [hE.out, if_neg (by omega)]
        rw [hE.out, hR.out, hN.out]
        rw [hf] at hfd
        go_enter Try.func13, Try.ntmps13
        go_wp2_with (first | (go_at_call 29; refine (hpg _).mono ?_; rintro e w' ⟨rfl, rfl⟩) | (go_at_call 19; refine hfd.mono ?_; rintro e w2 ⟨rfl, hb2⟩) | (go_at_call 30; refine (copied_any (hL.next hb2) hn).mono ?_; rintro e w1 ⟨ao1, cap1, rfl, hown, hb1⟩))
        go_ret3
        exact ⟨_, _, rfl, OwnL.base (by first | exact Nat.le_refl _ | exact hb2.size | exact Nat.le_trans hb2.size hb3.size) hown, hb2.trans (hb1.mono hb2.size)⟩
      | false =>
        rw [hf] at hfd
        cases hg : Frm.fF Frm.isF L with
        | false =>
          have hE : Hid (Frm.tkE L o p = 6) := by show _ = _; unfold Frm.tkE; rw [hbd.out, hf, hg]; rfl
          have hR : Hid (Frm.tkL L o p = L) := by show _ = _; unfold Frm.tkL; rw [hE.out, if_neg (by omega)]
          have hN : Hid (Frm.tkN L o p = 0) := by show _ = _; unfold Frm.tkN; rw [hE.out, if_neg (by omega)]
          rw [hE.out, hR.out, hN.out]
          go_enter Try.func13, Try.ntmps13
          go_wp2_with (first | (go_at_call 29; refine (hpg _).mono ?_; rintro e w' ⟨rfl, rfl⟩) | (go_at_call 19; refine hfd.mono ?_; rintro e w2 ⟨rfl, hb2⟩) | (go_at_call 25; refine (first_any (hL.next hb2) (asks_free _ _)).mono ?_; rintro e w3 ⟨rfl, hb3⟩; rw [hg]) | (go_at_call 30; refine (copied_any ((hL.next hb2).next hb3) hn).mono ?_; rintro e w1 ⟨ao1, cap1, rfl, hown, hb1⟩))
          go_ret3
          exact ⟨_, _, rfl, OwnL.base (by first | exact Nat.le_refl _ | exact hb2.size | exact Nat.le_trans hb2.size hb3.size) hown, (hb2.trans (hb3.mono hb2.size)).trans (hb1.mono (Nat.le_trans hb2.size hb3.size))⟩
        | true =>
          have hE : Hid (Frm.tkE L o p = 0) := by show _ = _; unfold Frm.tkE; rw [hbd.out, hf, hg]; rfl
          have hR : Hid (Frm.tkL L o p = L.set (Frm.fI Frm.isF L) (o, p)) := by show _ = _; unfold Frm.tkL; rw [hE.out, if_pos rfl]
          have hN : Hid (Frm.tkN L o p = (Frm.fI Frm.isF L : Nat)) := by show _ = _; unfold Frm.tkN; rw [hE.out, if_pos rfl]; rfl
          have hlt : Frm.fI Frm.isF L < n := by rw [← hln.out]; exact Frm.fI_lt hg
          have hfN : Frm.fN Frm.isF L = (Frm.fI Frm.isF L : Nat) := rfl
          rw [hE.out, hR.out, hN.out]
          obtain ⟨k, hk⟩ : ∃ k, Frm.fI Frm.isF L = k := ⟨_, rfl⟩
          rw [hk] at hlt hfN ⊢
          clear hk hR hN
          go_enter Try.func13, Try.ntmps13
          go_wp2_with (first | (go_at_call 29; refine (hpg _).mono ?_; rintro e w' ⟨rfl, rfl⟩) | (go_at_call 19; refine hfd.mono ?_; rintro e w2 ⟨rfl, hb2⟩) | (go_at_call 25; refine (first_any (hL.next hb2) (asks_free _ _)).mono ?_; rintro e w3 ⟨rfl, hb3⟩; rw [hg, hfN]) | (go_at_call 32; refine (with_any ((hL.next hb2).next hb3) hn k hlt o p).mono ?_; rintro e w1 ⟨ao1, cap1, rfl, hown, hb1⟩))
          go_ret3
          exact ⟨_, _, rfl, OwnL.base (by first | exact Nat.le_refl _ | exact hb2.size | exact Nat.le_trans hb2.size hb3.size) hown, (hb2.trans (hb3.mono hb2.size)).trans (hb1.mono (Nat.le_trans hb2.size hb3.size))⟩
set_option maxHeartbeats 1000000 in
theorem give_own {w : World} {ao : Option Addr} {n cap : Nat} {L : List Frm.Fr} (hL : Lab w.heap.size w ao n cap L) (hn : n < 274877906944) (o p : Int) :
    Calls Try.prog 15 #[.slice ao n cap, .int .u64 o, .int .i64 p] w fun e w' => ∃ ao1 cap1, e = .returned (.tuple #[.slice ao1 n cap1, .int .i64 (Frm.gvE L o p)]) ∧ OwnL w.heap.size w' ao1 n cap1 (Frm.gvL L o p) ∧ Below w.heap.size w w' := by
  have hln : Hid (L.length = n) := hL.1
  have hfd := find_any hL o p
  cases hf : Frm.fF (Frm.poB o p) L with
  | false =>
    have hE : Hid (Frm.gvE L o p = 1) := by show _ = _; unfold Frm.gvE; rw [hf]; rfl
    have hR : Hid (Frm.gvL L o p = L) := by show _ = _; unfold Frm.gvL; rw [hf]; rfl
    rw [hE.out, hR.out]
    rw [hf] at hfd
    go_enter Try.func15, Try.ntmps15
    go_wp2_with (first | (go_at_call 19; refine hfd.mono ?_; rintro e w2 ⟨rfl, hb2⟩) | (go_at_call 30; refine (copied_any (hL.next hb2) hn).mono ?_; rintro e w1 ⟨ao1, cap1, rfl, hown, hb1⟩))
    go_ret2
    exact ⟨_, _, rfl, OwnL.base (by first | exact Nat.le_refl _ | exact hb2.size) hown, hb2.trans (hb1.mono hb2.size)⟩
  | true =>
    have hE : Hid (Frm.gvE L o p = 0) := by show _ = _; unfold Frm.gvE; rw [hf]; rfl
    have hR : Hid (Frm.gvL L o p = L.set (Frm.fI (Frm.poB o p) L) (0, 0)) := by show _ = _; unfold Frm.gvL; rw [hf]; rfl
    have hlt : Frm.fI (Frm.poB o p) L < n := by rw [← hln.out]; exact Frm.fI_lt hf
    have hfN : Frm.fN (Frm.poB o p) L = (Frm.fI (Frm.poB o p) L : Nat) := rfl
    rw [hE.out, hR.out]
    rw [hf, hfN] at hfd
    obtain ⟨k, hk⟩ : ∃ k, Frm.fI (Frm.poB o p) L = k := ⟨_, rfl⟩
    rw [hk] at hlt hfd ⊢
    clear hk hR hfN
    go_enter Try.func15, Try.ntmps15
    go_wp2_with (first | (go_at_call 19; refine hfd.mono ?_; rintro e w2 ⟨rfl, hb2⟩) | (go_at_call 32; refine (with_any (hL.next hb2) hn k hlt 0 0).mono ?_; rintro e w1 ⟨ao1, cap1, rfl, hown, hb1⟩))
    go_ret2
    exact ⟨_, _, rfl, OwnL.base (by first | exact Nat.le_refl _ | exact hb2.size) hown, hb2.trans (hb1.mono hb2.size)⟩
theorem take_any {w : World} {ao : Option Addr} {n cap : Nat} {L : List Frm.Fr} (hL : Lab w.heap.size w ao n cap L) (hn : n < 274877906944) (o p : Int) :
    Calls Try.prog 13 #[.slice ao n cap, .int .u64 o, .int .i64 p] w fun e w' => ∃ ao1 cap1, e = .returned (.tuple #[.slice ao1 n cap1, .int .i64 (Frm.tkN L o p), .int .i64 (Frm.tkE L o p)]) ∧ Lab w'.heap.size w' ao1 n cap1 (Frm.tkL L o p) ∧ Below w.heap.size w w' :=
  (take_own hL hn o p).mono fun e w' ⟨a, c, h1, h2, h3⟩ => ⟨a, c, h1, h2.lab, h3⟩
theorem give_any {w : World} {ao : Option Addr} {n cap : Nat} {L : List Frm.Fr} (hL : Lab w.heap.size w ao n cap L) (hn : n < 274877906944) (o p : Int) :
    Calls Try.prog 15 #[.slice ao n cap, .int .u64 o, .int .i64 p] w fun e w' => ∃ ao1 cap1, e = .returned (.tuple #[.slice ao1 n cap1, .int .i64 (Frm.gvE L o p)]) ∧ Lab w'.heap.size w' ao1 n cap1 (Frm.gvL L o p) ∧ Below w.heap.size w w' :=
  (give_own hL hn o p).mono fun e w' ⟨a, c, h1, h2, h3⟩ => ⟨a, c, h1, h2.lab, h3⟩
end Go.Proofs.Ytjdjiooblfgmlaa
