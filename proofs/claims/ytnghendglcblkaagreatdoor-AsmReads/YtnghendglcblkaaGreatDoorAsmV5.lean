/-
  PROVED HERE: what read of package curtilageref10 returns when it is called: a line of a text (a contract over this translation). Texts of at most 65536 bytes.
-/
import Derived.Test.YtnghendglcblkaaGreatDoorAsmU1
namespace Go.Proofs.YtnghendglcblkaaGreatDoor
open Go.RowKit Go.Shelf
set_option linter.unusedVariables false
open Asm

theorem last_mark {s : ByteArray} {p : Nat} (hp : s.size = p + 1) (h : (s[p]'(by omega)) = 58) : bl s = bl (s.extract 0 p) ++ [58] := by
  have e : bl (s.extract 0 p) = (bl s).take p := by have := bl_ext s 0 p; rw [List.drop_zero] at this; exact this
  rw [e]
  have h1 : p < (bl s).length := by rw [bl_len]; omega
  have h2 : (bl s)[p] = 58 := (at_list (by omega)).trans h
  rw [← h2, ← List.take_succ_eq_append_getElem h1, List.take_of_length_le (by rw [bl_len]; omega)]
theorem mark_good {m : ByteArray} (hm : emB m = false) (hg : goodB ⟨m, 0, 0, 0, 0, 0, ⟨#[]⟩⟩ = true) : bl (lineT ⟨m, 0, 0, 0, 0, 0, ⟨#[]⟩⟩) = bl m ++ [58] := by
  rw [good_mark (x := ⟨m, 0, 0, 0, 0, 0, ⟨#[]⟩⟩) hm] at hg
  exact (mark_line (x := ⟨m, 0, 0, 0, 0, 0, ⟨#[]⟩⟩) hg).1
theorem mark_read {s m : ByteArray} (e : bl s = bl m ++ [58]) {x0 : Ln} (hg : goodB x0 = true) (hl : lineT x0 = s) : emB m = false ∧ goodB ⟨m, 0, 0, 0, 0, 0, ⟨#[]⟩⟩ = true := by
  have hg' := hg
  unfold goodB at hg
  cases hm : markB x0 with
  | false =>
    rw [hm] at hg
    have := line_not (x := x0) (by simpa using hg) 58 (by rw [hl, e]; simp)
    exact absurd rfl this.1
  | true =>
    obtain ⟨h1, h2, h3⟩ := mark_line hm
    rw [hl, e] at h1
    have hmm : m = x0.mark := ba_ext (List.append_cancel_right h1)
    rw [hmm, ← h2]
    exact ⟨mark_em hm, hg'⟩
theorem not_mark {s : ByteArray} (h : ∀ (p : Nat) (hp : s.size = p + 1), (s[p]'(by omega)) ≠ 58) {x0 : Ln} (hg : goodB x0 = true) (hl : lineT x0 = s) : insB x0 = true := by
  unfold goodB at hg
  cases hm : markB x0 with
  | false => rw [hm] at hg; simpa using hg
  | true =>
    obtain ⟨h1, _, _⟩ := mark_line hm
    rw [hl] at h1
    have hsz : s.size = (bl x0.mark).length + 1 := by rw [← bl_len, h1]; simp
    refine absurd ?_ (h _ hsz)
    rw [← at_list]
    have : s.data.toList = bl x0.mark ++ [58] := h1
    simp [this]
set_option maxRecDepth 100000 in
set_option maxHeartbeats 8000000 in
theorem rread_mark (s : ByteArray) (hs : s.size ≤ 65536) (p : Nat) (hp : s.size = p + 1) (h58 : (s[p]'(by omega)) = 58) (w : World) :
    Calls Tryz.prog 14 #[.string s] w fun e w' => Below w.heap.size w w' ∧ RdR s e := by
  have hmx : Tryz.prog.follows .mixedOrders = true := by kernel_rfl
  have hem1 : s.toList.isEmpty = false := by rw [em_list]; exact beq_eq_false_iff_ne.2 (by omega)
  have hpl : p < s.size := by omega
  have hpi : (s.size : Int) - 1 = (p : Int) := by omega
  have h58' : ((s[p]'hpl).toNat : Int) = 58 := by rw [h58]; rfl
  have hex := last_mark hp h58
  have hesz := ext_size s 0 p
  have hgy : Hid (emB (s.extract 0 p) = false → goodB ⟨s.extract 0 p, 0, 0, 0, 0, 0, ⟨#[]⟩⟩ = true → lineT ⟨s.extract 0 p, 0, 0, 0, 0, 0, ⟨#[]⟩⟩ = s) := fun h1 h2 => ba_ext ((mark_good h1 h2).trans hex.symm)
  have hgn : Hid (∀ x0, goodB x0 = true → lineT x0 = s → emB (s.extract 0 p) = false ∧ goodB ⟨s.extract 0 p, 0, 0, 0, 0, 0, ⟨#[]⟩⟩ = true) := fun x0 h1 h2 => mark_read hex h1 h2
  clear hex h58
  have hgd := fun W => rgood_any ⟨s.extract 0 p, 0, 0, 0, 0, 0, ⟨#[]⟩⟩ (by show (s.extract 0 p).size ≤ _; omega) (by show 0 ≤ _; omega) W
  have hee := em_list (s.extract 0 p)
  unfold lnV at hgd
  dsimp only at hgd
  have hB2 : Below w.heap.size w ((w.alloc (.cells #[.string ⟨#[]⟩, .int .i64 0, .int .i64 0, .int .i64 0, .int .i64 0, .int .i32 0, .string ⟨#[]⟩] 37)).alloc (.cells #[.string (s.extract 0 p), .int .i64 0, .int .i64 0, .int .i64 0, .int .i64 0, .int .i32 0, .string ⟨#[]⟩] 37)) := ((Below.refl _ w).alloc (Nat.le_refl _) _).alloc (by simp) _
  have hR2 := (Lb.new w ⟨#[]⟩ 0 0 0 0 0 ⟨#[]⟩).alloc (.cells #[.string (s.extract 0 p), .int .i64 0, .int .i64 0, .int .i64 0, .int .i64 0, .int .i32 0, .string ⟨#[]⟩] 37)
  have hX2 := Lb.new (w.alloc (.cells #[.string ⟨#[]⟩, .int .i64 0, .int .i64 0, .int .i64 0, .int .i64 0, .int .i32 0, .string ⟨#[]⟩] 37)) (s.extract 0 p) 0 0 0 0 0 ⟨#[]⟩
  simp only [World.size_alloc] at hX2
  go_enter Tryz.func14, Tryz.ntmps14
  cases he : emB (s.extract 0 p) with
  | true =>
    rw [he] at hee
    have hno : Hid (∀ x0, goodB x0 = true → lineT x0 = s → False) := fun x0 h1 h2 => by have := (hgn.out x0 h1 h2).1; rw [he] at this; cases this
    clear hgy hgn he hgd
    go_wp2
    obtain ⟨W2, hW2⟩ : ∃ W2, (w.alloc (.cells #[.string ⟨#[]⟩, .int .i64 0, .int .i64 0, .int .i64 0, .int .i64 0, .int .i32 0, .string ⟨#[]⟩] 37)).alloc (.cells #[.string (s.extract 0 p), .int .i64 0, .int .i64 0, .int .i64 0, .int .i64 0, .int .i32 0, .string ⟨#[]⟩] 37) = W2 := ⟨_, rfl⟩
    rw [hW2] at hB2 hR2 hX2
    rw [hW2]
    clear hW2
    refine region_out (S := fun W => Lb W (w.heap.size + 1) (s.extract 0 p) 0 0 0 0 0 ⟨#[]⟩) hmx hX2 (fun hS => ?_)
    have hR3' : Lb W2.drew w.heap.size ⟨#[]⟩ 0 0 0 0 0 ⟨#[]⟩ := hR2
    have hB3' : Below w.heap.size w W2.drew := hB2.drew
    obtain ⟨W3, hW3⟩ : ∃ W3, W2.drew = W3 := ⟨_, rfl⟩
    rw [hW3] at hS hR3' hB3'
    rw [hW3]
    clear hW3 hB2 hR2 hX2
    refine wpAnyH_take (i := 0) (v := .agg #[.string (s.extract 0 p), .int .i64 0, .int .i64 0, .int .i64 0, .int .i64 0, .int .i32 0, .string ⟨#[]⟩]) rfl (by kernel_rfl) (by kernel_rfl) (by kernel_rfl) (fun _ _ _ h => h) (Or.inl ⟨by rfl, fun w2 hS2 => by obtain ⟨q0, q1, q2, q3, q4, q5, q6⟩ := Lb.cells hS2; go_simp⟩) hS ?_
    simp only [Act.put]
    refine wpAnyH_take (i := 1) (v := .pointer (some ⟨w.heap.size + 1, 0, none⟩)) rfl (by kernel_rfl) (by kernel_rfl) (by kernel_rfl) (fun _ _ _ h => h) (Or.inl ⟨by rfl, fun w2 hS2 => by go_simp⟩) hS ?_
    simp only [Act.put]
    refine wpAnyH_take (i := 2) (v := .string (s.extract 0 p)) rfl (by kernel_rfl) (by kernel_rfl) (by kernel_rfl) (fun _ _ _ h => h) (Or.inl ⟨by rfl, fun w2 hS2 => by obtain ⟨q0, q1, q2, q3, q4, q5, q6⟩ := Lb.cells hS2; go_simp⟩) hS ?_
    simp only [Act.put]
    refine wpAnyH_take (i := 3) (v := .bool false) rfl (by kernel_rfl) (by kernel_rfl) (by kernel_rfl) (fun _ _ _ h => h) (Or.inl ⟨by rfl, fun w2 hS2 => by go_simp⟩) hS ?_
    simp only [Act.put]
    refine wpAnyH_take (i := 4) (v := .bool false) rfl (by kernel_rfl) (by kernel_rfl) (by kernel_rfl) (fun _ _ _ h => h) (Or.inl ⟨by rfl, fun w2 hS2 => by go_simp⟩) hS ?_
    simp only [Act.put]
    refine wpAnyH_take (i := 5) (v := undef) rfl (by kernel_rfl) (by kernel_rfl) (by kernel_rfl) (fun _ _ _ h => h) (Or.inr ⟨by rfl, rfl⟩) hS ?_
    simp only [Act.put]
    refine wpAnyH_take (i := 6) (v := undef) rfl (by kernel_rfl) (by kernel_rfl) (by kernel_rfl) (fun _ _ _ h => h) (Or.inr ⟨by rfl, rfl⟩) hS ?_
    simp only [Act.put]
    refine wpAnyH_take (i := 7) (v := .bool false) rfl (by kernel_rfl) (by kernel_rfl) (by kernel_rfl) (fun _ _ _ h => h) (Or.inl ⟨by rfl, fun w2 hS2 => by go_simp⟩) hS ?_
    simp only [Act.put]
    obtain ⟨f0, f1, f2, f3, f4, f5, f6⟩ := hR3'.cells
    have ff := hR3'.frozen
    refine wpAnyH_ready (rs := [8]) (by kernel_rfl) (by simp) ?_
    refine AllReadyH.cons rfl (fun K hK => ?_) AllReadyH.nil
    go_simp
    have hS : Lb (set7 W3 w.heap.size (s.extract 0 p) 0 0 0 0 0 ⟨#[]⟩) (w.heap.size + 1) (s.extract 0 p) 0 0 0 0 0 ⟨#[]⟩ := (set7_heap (by omega) _ _ _ _ _ _ _).trans hS
    refine hK.out _ _ hS (fun hS => ?_)
    clear hK K
    have hL5 := hR3'.set7 (s.extract 0 p) 0 0 0 0 0 ⟨#[]⟩
    have hB5 := set7_from hB3' (Nat.le_refl _) (s.extract 0 p) 0 0 0 0 0 ⟨#[]⟩
    obtain ⟨W5, hW5⟩ : ∃ W5, set7 W3 w.heap.size (s.extract 0 p) 0 0 0 0 0 ⟨#[]⟩ = W5 := ⟨_, rfl⟩
    unfold set7 at hW5 hL5 hB5
    rw [hW5] at hS hL5 hB5
    rw [hW5]
    clear hW5 f0 f1 f2 f3 f4 f5 f6 ff
    refine wpAnyH_take (i := 9) (v := .bool false) rfl (by kernel_rfl) (by kernel_rfl) (by kernel_rfl) (fun _ _ _ h => h) (Or.inl ⟨by rfl, fun w2 hS2 => by go_simp⟩) hS ?_
    simp only [Act.put]
    refine wpAnyH_done (by kernel_rfl) ?_ _
    go_simp
    go_wp2
    obtain ⟨g0, g1, g2, g3, g4, g5, g6⟩ := hL5.cells
    refine bodyPost_ret (v := .tuple #[.agg #[.string (s.extract 0 p), .int .i64 0, .int .i64 0, .int .i64 0, .int .i64 0, .int .i32 0, .string ⟨#[]⟩], .bool false]) (by simp [results, Tryz.f14, go_sem, g0, g1, g2, g3, g4, g5, g6]) rfl ?_
    exact ⟨hB5, ⟨s.extract 0 p, 0, 0, 0, 0, 0, ⟨#[]⟩⟩, false, rfl, fun h => Bool.noConfusion h, fun x0 h1 _ _ h2 => (hno.out x0 h1 h2).elim⟩
  | false =>
    rw [he] at hee
    obtain ⟨g, hg⟩ : ∃ g, goodB ⟨s.extract 0 p, 0, 0, 0, 0, 0, ⟨#[]⟩⟩ = g := ⟨_, rfl⟩
    have hA : Hid (g = true → goodB ⟨s.extract 0 p, 0, 0, 0, 0, 0, ⟨#[]⟩⟩ = true ∧ lineT ⟨s.extract 0 p, 0, 0, 0, 0, 0, ⟨#[]⟩⟩ = s ∧ (-2147483648 ≤ (0 : Int) ∧ (0 : Int) < 2147483648)) := fun h => ⟨hg.trans h, hgy.out he (hg.trans h), by omega, by omega⟩
    have hC : Hid (∀ x0, goodB x0 = true → -2147483648 ≤ x0.i → x0.i < 2147483648 → lineT x0 = s → g = true) := fun x0 h1 _ _ h2 => hg.symm.trans (hgn.out x0 h1 h2).2
    simp only [hg] at hgd
    clear hgy hgn he hg
    go_wp2
    obtain ⟨W2, hW2⟩ : ∃ W2, (w.alloc (.cells #[.string ⟨#[]⟩, .int .i64 0, .int .i64 0, .int .i64 0, .int .i64 0, .int .i32 0, .string ⟨#[]⟩] 37)).alloc (.cells #[.string (s.extract 0 p), .int .i64 0, .int .i64 0, .int .i64 0, .int .i64 0, .int .i32 0, .string ⟨#[]⟩] 37) = W2 := ⟨_, rfl⟩
    rw [hW2] at hB2 hR2 hX2
    rw [hW2]
    clear hW2
    refine region_out (S := fun W => Lb W (w.heap.size + 1) (s.extract 0 p) 0 0 0 0 0 ⟨#[]⟩) hmx hX2 (fun hS => ?_)
    have hR3' : Lb W2.drew w.heap.size ⟨#[]⟩ 0 0 0 0 0 ⟨#[]⟩ := hR2
    have hB3' : Below w.heap.size w W2.drew := hB2.drew
    obtain ⟨W3, hW3⟩ : ∃ W3, W2.drew = W3 := ⟨_, rfl⟩
    rw [hW3] at hS hR3' hB3'
    rw [hW3]
    clear hW3 hB2 hR2 hX2
    refine wpAnyH_take (i := 0) (v := .agg #[.string (s.extract 0 p), .int .i64 0, .int .i64 0, .int .i64 0, .int .i64 0, .int .i32 0, .string ⟨#[]⟩]) rfl (by kernel_rfl) (by kernel_rfl) (by kernel_rfl) (fun _ _ _ h => h) (Or.inl ⟨by rfl, fun w2 hS2 => by obtain ⟨q0, q1, q2, q3, q4, q5, q6⟩ := Lb.cells hS2; go_simp⟩) hS ?_
    simp only [Act.put]
    refine wpAnyH_take (i := 1) (v := .pointer (some ⟨w.heap.size + 1, 0, none⟩)) rfl (by kernel_rfl) (by kernel_rfl) (by kernel_rfl) (fun _ _ _ h => h) (Or.inl ⟨by rfl, fun w2 hS2 => by go_simp⟩) hS ?_
    simp only [Act.put]
    refine wpAnyH_take (i := 2) (v := .string (s.extract 0 p)) rfl (by kernel_rfl) (by kernel_rfl) (by kernel_rfl) (fun _ _ _ h => h) (Or.inl ⟨by rfl, fun w2 hS2 => by obtain ⟨q0, q1, q2, q3, q4, q5, q6⟩ := Lb.cells hS2; go_simp⟩) hS ?_
    simp only [Act.put]
    refine wpAnyH_take (i := 3) (v := .bool true) rfl (by kernel_rfl) (by kernel_rfl) (by kernel_rfl) (fun _ _ _ h => h) (Or.inl ⟨by rfl, fun w2 hS2 => by go_simp⟩) hS ?_
    simp only [Act.put]
    refine wpAnyH_take (i := 4) (v := .bool true) rfl (by kernel_rfl) (by kernel_rfl) (by kernel_rfl) (fun _ _ _ h => h) (Or.inl ⟨by rfl, fun w2 hS2 => by go_simp⟩) hS ?_
    simp only [Act.put]
    refine wpAnyH_take (i := 5) (v := .agg #[.string (s.extract 0 p), .int .i64 0, .int .i64 0, .int .i64 0, .int .i64 0, .int .i32 0, .string ⟨#[]⟩]) rfl (by kernel_rfl) (by kernel_rfl) (by kernel_rfl) (fun _ _ _ h => h) (Or.inl ⟨by rfl, fun w2 hS2 => by obtain ⟨q0, q1, q2, q3, q4, q5, q6⟩ := Lb.cells hS2; go_simp⟩) hS ?_
    simp only [Act.put]
    refine wpAnyH_ready (rs := [6]) (by kernel_rfl) (by simp) ?_
    refine AllReadyH.cons rfl (fun K hK => ?_) AllReadyH.nil
    go_simp
    refine (hgd _).mono ?_
    rintro e w3 ⟨rfl, hb3⟩
    have hS : Lb w3 (w.heap.size + 1) (s.extract 0 p) 0 0 0 0 0 ⟨#[]⟩ := Lb.next hS hb3
    have hR3 : Lb w3 w.heap.size ⟨#[]⟩ 0 0 0 0 0 ⟨#[]⟩ := Lb.next hR3' hb3
    refine hK.out _ _ hS (fun hS => ?_)
    clear hK K
    refine wpAnyH_take (i := 7) (v := .bool g) rfl (by kernel_rfl) (by kernel_rfl) (by kernel_rfl) (fun _ _ _ h => h) (Or.inl ⟨by rfl, fun w2 hS2 => by go_simp⟩) hS ?_
    simp only [Act.put]
    obtain ⟨f0, f1, f2, f3, f4, f5, f6⟩ := hR3.cells
    have ff := hR3.frozen
    refine wpAnyH_ready (rs := [8]) (by kernel_rfl) (by simp) ?_
    refine AllReadyH.cons rfl (fun K hK => ?_) AllReadyH.nil
    go_simp
    have hS : Lb (set7 w3 w.heap.size (s.extract 0 p) 0 0 0 0 0 ⟨#[]⟩) (w.heap.size + 1) (s.extract 0 p) 0 0 0 0 0 ⟨#[]⟩ := (set7_heap (by omega) _ _ _ _ _ _ _).trans hS
    refine hK.out _ _ hS (fun hS => ?_)
    clear hK K
    have hL5 := hR3.set7 (s.extract 0 p) 0 0 0 0 0 ⟨#[]⟩
    have hB5 := set7_from (hB3'.trans (hb3.mono hB3'.size)) (Nat.le_refl _) (s.extract 0 p) 0 0 0 0 0 ⟨#[]⟩
    obtain ⟨W5, hW5⟩ : ∃ W5, set7 w3 w.heap.size (s.extract 0 p) 0 0 0 0 0 ⟨#[]⟩ = W5 := ⟨_, rfl⟩
    unfold set7 at hW5 hL5 hB5
    rw [hW5] at hS hL5 hB5
    rw [hW5]
    clear hW5 f0 f1 f2 f3 f4 f5 f6 ff
    refine wpAnyH_take (i := 9) (v := .bool g) rfl (by kernel_rfl) (by kernel_rfl) (by kernel_rfl) (fun _ _ _ h => h) (Or.inl ⟨by rfl, fun w2 hS2 => by go_simp⟩) hS ?_
    simp only [Act.put]
    refine wpAnyH_done (by kernel_rfl) ?_ _
    go_simp
    go_wp2
    obtain ⟨g0, g1, g2, g3, g4, g5, g6⟩ := hL5.cells
    refine bodyPost_ret (v := .tuple #[.agg #[.string (s.extract 0 p), .int .i64 0, .int .i64 0, .int .i64 0, .int .i64 0, .int .i32 0, .string ⟨#[]⟩], .bool g]) (by simp [results, Tryz.f14, go_sem, g0, g1, g2, g3, g4, g5, g6]) rfl ?_
    exact ⟨hB5, ⟨s.extract 0 p, 0, 0, 0, 0, 0, ⟨#[]⟩⟩, g, rfl, hA, hC⟩
end Go.Proofs.YtnghendglcblkaaGreatDoor
