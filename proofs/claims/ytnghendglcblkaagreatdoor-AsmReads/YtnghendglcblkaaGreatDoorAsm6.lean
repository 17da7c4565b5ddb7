/-
  PROVED HERE: what marksOf of package asm returns when it is called: a map of all marks and their places, or the first line that is wrong (a contract over this translation). At most 4000 lines.
-/
import Derived.Test.YtnghendglcblkaaGreatDoorAsm5
namespace Go.Proofs.YtnghendglcblkaaGreatDoor
open Go.RowKit Go.Shelf
set_option linter.unusedVariables false
open Asm

/-- All lines' texts are short, their numbers fit. -/
def Okl (l : List Ln) : Prop := ∀ x ∈ l, x.ok ∧ x.mark.size ≤ 65536 ∧ x.to.size ≤ 65536
theorem Okl.at {l : List Ln} (h : Okl l) {k : Nat} (hk : k < l.length) {x : Ln} (e : l.getD k default = x) : x.ok ∧ x.mark.size ≤ 65536 ∧ x.to.size ≤ 65536 := by
  rw [← e, List.getD_eq_getElem?_getD, List.getElem?_eq_getElem hk]
  exact h _ (List.getElem_mem hk)
/-- The first k lines are right. -/
def Zer (f : List Ln → Ln → Nat) (l : List Ln) (k : Nat) : Prop := ∀ q x r, l.take k = q ++ x :: r → f q x = 0
section
variable {f : List Ln → Ln → Nat} {l : List Ln} {k : Nat}
theorem Zer.zero : Zer f l 0 := fun q x r e => by simp at e
theorem Zer.step (h : Zer f l k) (hk : k < l.length) (h0 : f (l.take k) (l.getD k default) = 0) : Zer f l (k + 1) := fun q x r e => by
  rw [take_snoc hk] at e
  rcases split_app e with ⟨s, e1, _⟩ | ⟨s, e1, e2⟩
  · exact h q x s e1
  · cases s with
    | nil =>
      simp only [List.nil_append, List.cons.injEq] at e2
      rw [List.append_nil] at e1
      rw [e1, ← e2.1]; exact h0
    | cons y s => simp at e2
theorem Zer.stop (h : Zer f l k) (hk : k < l.length) (h0 : f (l.take k) (l.getD k default) ≠ 0) : scan f [] l = (k, f (l.take k) (l.getD k default)) := by
  have := scan_at (f := f) (pre := []) (split_at hk) (fun q' x' r' e => by simpa using h q' x' r' e) (by simpa using h0)
  rw [this]
  simp; omega
theorem Zer.all (h : Zer f l l.length) : scan f [] l = (0, 0) := scan_of fun q x r e => by
  have := h q x r (by rw [List.take_length]; exact e)
  simpa using this
end
theorem lkp_em {m : ByteArray} (h : emB m = true) (l : List Ln) (k : Nat) : lkp m (mks l k) = none := by
  rw [mks_look, fnd_none]
  intro x _ hx e
  rw [e, h] at hx; cases hx
theorem mark_em {x : Ln} (h : markB x = true) : emB x.mark = false := by
  unfold markB at h
  simp only [Bool.and_eq_true] at h
  cases he : emB x.mark with
  | false => rfl
  | true => rw [(emB_iff _).1 he] at h; exact absurd h.1.1 (by decide)
theorem ins_em {x : Ln} (h : insB x = true) : emB x.mark = true := by
  unfold insB at h
  simp only [Bool.and_eq_true] at h
  exact h.1.1
theorem bad1_form {q : List Ln} {x : Ln} (h1 : markB x = false) (h2 : insB x = false) : bad1 q x = 11 := by
  unfold bad1 goodB; rw [h1, h2]; rfl
theorem bad1_mark {q : List Ln} {x : Ln} (h1 : markB x = true) : bad1 q x = if (lkp x.mark (mks q 0)).isSome then 12 else 0 := by
  unfold bad1 goodB; rw [h1, mark_em h1]; rfl
theorem bad1_ins {q : List Ln} {x : Ln} (h1 : insB x = true) : bad1 q x = 0 := by
  unfold bad1 goodB; rw [h1, ins_em h1]; simp
theorem mks_put {l : List Ln} {k : Nat} (hk : k < l.length) (e : emB (l.getD k default).mark = false) : mks (l.take (k + 1)) 0 = mks (l.take k) 0 ++ [((l.getD k default).mark, cnt (l.take k))] := by
  rw [take_snoc hk, mks_snoc]
  generalize l.getD k default = x at *
  simp [e]
theorem mks_same {l : List Ln} {k : Nat} (hk : k < l.length) (e : emB (l.getD k default).mark = true) : mks (l.take (k + 1)) 0 = mks (l.take k) 0 := by
  rw [take_snoc hk, mks_snoc]
  generalize l.getD k default = x at *
  simp [e]
set_option maxRecDepth 100000 in
set_option maxHeartbeats 2000000 in
theorem marksOf_any (ao : Option Addr) (n cap : Nat) (l : List Ln) (w : World) (hn : n ≤ 4000) (h : Lns w.heap.size w ao n cap l) (hok : Okl l) :
    Calls Tryz.prog 15 #[.slice ao n cap] w fun e w' => Below w.heap.size w w' ∧
      ((Hid (scan bad1 [] l = (0, 0)) ∧ ∃ M, e = .returned (.tuple #[.map (some M), .int .i64 0, .int .i64 0]) ∧ MapAt w' M (mks l 0) ∧ w.heap.size ≤ M) ∨
       (∃ k er : Nat, Hid (scan bad1 [] l = (k, er) ∧ er ≠ 0) ∧ er ≤ 13 ∧ e = .returned (.tuple #[.map none, .int .i64 (k : Int), .int .i64 (er : Int)]))) := by
  have hlen : Hid (l.length = n) := h.1
  have hOk : Hid (Okl l) := hok
  clear hok
  have hmk : ∀ W, (Instr.makeMap 39 none).run Tryz.prog W = .ok (.map (some W.heap.size)) (W.alloc (.map #[] 0)) := fun W => run_makeMap _ _
  go_enter Tryz.func15, Tryz.ntmps15
  go_wp2
  go_loopw [6, 14] (fun va vi wr => ∃ k c : Nat, k ≤ n ∧ c ≤ 4000 ∧ vi = .int .i64 k ∧ va = .int .i64 c ∧ Hid (cnt (l.take k) = c) ∧ Hid (Zer bad1 l k) ∧ MapAt wr w.heap.size (mks (l.take k) 0) ∧ Below w.heap.size w wr) (fun _ vi _ => n - (intOf vi).toNat)
  case atStart => exact ⟨0, 0, Nat.zero_le _, by omega, rfl, rfl, rfl, Zer.zero, World.alloc_heap_new w _, (Below.refl _ w).alloc (Nat.le_refl _) _⟩
  case round =>
    obtain ⟨k, cc, hk, hcc, rfl, rfl, hct, hZ, hM, hB⟩ := hrel
    by_cases hks : k < n
    · obtain ⟨b, off, m', op, a, b', c, i', to, rfl, hb, hx, c0, c1, c2, c3, c4, c5, c6⟩ := LnsD.at (h.later hB) hks
      have hkl : Hid (k < l.length) := by show k < l.length; rw [hlen.out]; exact hks
      obtain ⟨⟨_, _, _, _, hi0, hi1⟩, hsm, hst⟩ := hOk.out.at hkl.out hx.out
      have he := em_list m'
      have hcl := cntK_le l (k + 1)
      have hB1 : Below w.heap.size w (wr.alloc (.cells #[.string m', .int .i64 op, .int .i64 a, .int .i64 b', .int .i64 c, .int .i32 i', .string to] 37)) := hB.alloc hB.size _
      have hL1 := Lb.new wr m' op a b' c i' to
      have hM1 : MapAt (wr.alloc (.cells #[.string m', .int .i64 op, .int .i64 a, .int .i64 b', .int .i64 c, .int .i32 i', .string to] 37)) w.heap.size (mks (l.take k) 0) := hM.next ((Below.refl _ wr).alloc (Nat.le_refl _) _)
      have hlk := map_get2 hM1 m'
      have hma := mark_any ⟨m', op, a, b', c, i', to⟩ hsm (wr.alloc (.cells #[.string m', .int .i64 op, .int .i64 a, .int .i64 b', .int .i64 c, .int .i32 i', .string to] 37))
      have hia := fun W => ins_any ⟨m', op, a, b', c, i', to⟩ hst hi0 hi1 W
      unfold lnV at hma hia
      dsimp only at hma hia
      cases hmB : markB ⟨m', op, a, b', c, i', to⟩ with
      | true =>
        have hem : emB m' = false := mark_em hmB
        rw [hem] at he
        rw [hmB] at hma
        cases hq : lkp m' (mks (l.take k) 0) with
        | some v =>
          have hr : Hid (scan bad1 [] l = (k, 12)) := by
            show _ = _
            have hb1 : bad1 (l.take k) (l.getD k default) = 12 := by rw [hx.out, bad1_mark hmB, hq]; rfl
            rw [hZ.out.stop hkl.out (by rw [hb1]; omega), hb1]
          rw [hq] at hlk
          go_wp2_with (go_at_call 29; refine hma.mono ?_; rintro e w' ⟨rfl, hb1⟩)
          go_ret3
          exact ⟨hB1.trans (hb1.mono hB1.size), .inr ⟨k, 12, ⟨hr.out, by omega⟩, by omega, rfl⟩⟩
        | none =>
          have hZ2 : Hid (Zer bad1 l (k + 1)) := hZ.out.step hkl.out (by rw [hx.out, bad1_mark hmB, hq]; rfl)
          have hc2 : Hid (cnt (l.take (k + 1)) = cc) := by show _ = _; rw [cnt_miss hkl.out (by rw [hx.out]; exact hem), hct.out]
          have hmk2 : Hid (mks (l.take (k + 1)) 0 = mks (l.take k) 0 ++ [(m', cc)]) := by show _ = _; rw [mks_put hkl.out (by rw [hx.out]; exact hem), hx.out, hct.out]
          rw [hq] at hlk
          go_wp2_with (go_at_call 29; refine hma.mono ?_; rintro e w' ⟨rfl, hb1⟩; obtain ⟨d0, d1, d2, d3, d4, d5, d6⟩ := (hL1.next hb1).cells; have hpu := map_put (hM1.next hb1) m' cc hq)
          go_roundw
          case rel => exact ⟨k + 1, cc, by omega, hcc, by simp, rfl, hc2, hZ2, by rw [hmk2.out]; have hp := (hM1.next hb1).put (mks (l.take k) 0 ++ [(m', cc)]); rw [List.length_append] at hp; exact hp, below_putObj (hB1.trans (hb1.mono hB1.size)) (Nat.le_refl _) _⟩
          case measure => simp [intOf]; omega
      | false =>
        rw [hmB] at hma
        cases hiB : insB ⟨m', op, a, b', c, i', to⟩ with
        | true =>
          have hem : emB m' = true := ins_em hiB
          rw [hem] at he
          rw [hiB] at hia
          rw [lkp_em hem] at hlk
          have hZ2 : Hid (Zer bad1 l (k + 1)) := hZ.out.step hkl.out (by rw [hx.out, bad1_ins hiB])
          have hc2 : Hid (cnt (l.take (k + 1)) = cc + 1) := by show _ = _; rw [cnt_hit hkl.out (by rw [hx.out]; exact hem), hct.out]
          have hmk2 : Hid (mks (l.take (k + 1)) 0 = mks (l.take k) 0) := mks_same hkl.out (by rw [hx.out]; exact hem)
          rw [hc2.out] at hcl
          have hcc2 : cc + 1 ≤ 4000 := by omega
          clear hcl hem
          go_wp2_with (first | (go_at_call 29; refine hma.mono ?_; rintro e w' ⟨rfl, hb1⟩; obtain ⟨d0, d1, d2, d3, d4, d5, d6⟩ := (hL1.next hb1).cells) | (go_at_call 30; refine (hia _).mono ?_; rintro e w2 ⟨rfl, hb2⟩; obtain ⟨e0, e1, e2, e3, e4, e5, e6⟩ := ((hL1.next hb1).next hb2).cells))
          go_roundw
          case rel => exact ⟨k + 1, cc + 1, by omega, hcc2, by simp, by simp, hc2, hZ2, by rw [hmk2.out]; exact (hM1.next hb1).next hb2, (hB1.trans (hb1.mono hB1.size)).trans (hb2.mono (Nat.le_trans hB1.size hb1.size))⟩
          case measure => simp [intOf]; omega
        | false =>
          have hr : Hid (scan bad1 [] l = (k, 11)) := by
            show _ = _
            have hb1 : bad1 (l.take k) (l.getD k default) = 11 := by rw [hx.out, bad1_form hmB hiB]
            rw [hZ.out.stop hkl.out (by rw [hb1]; omega), hb1]
          rw [hiB] at hia
          go_wp2_with (first | (go_at_call 29; refine hma.mono ?_; rintro e w' ⟨rfl, hb1⟩; obtain ⟨d0, d1, d2, d3, d4, d5, d6⟩ := (hL1.next hb1).cells) | (go_at_call 30; refine (hia _).mono ?_; rintro e w2 ⟨rfl, hb2⟩))
          go_ret3
          exact ⟨(hB1.trans (hb1.mono hB1.size)).trans (hb2.mono (Nat.le_trans hB1.size hb1.size)), .inr ⟨k, 11, ⟨hr.out, by omega⟩, by omega, rfl⟩⟩
    · obtain rfl : k = n := by omega
      have hr : Hid (scan bad1 [] l = (0, 0)) := Zer.all (by rw [hlen.out]; exact hZ.out)
      have hMl : MapAt wr w.heap.size (mks l 0) := by have := hM; rw [← hlen.out, List.take_length] at this; exact this
      go_wp2
      go_ret3
      exact ⟨hB, .inl ⟨hr.out, w.heap.size, rfl, hMl, Nat.le_refl _⟩⟩
end Go.Proofs.YtnghendglcblkaaGreatDoor
