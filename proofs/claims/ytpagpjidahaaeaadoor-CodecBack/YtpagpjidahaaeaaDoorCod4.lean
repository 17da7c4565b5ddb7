/-
  PROVED HERE: codec.Parse (a contract over this translation): the label that words begin with, and how many they are, or ErrForm.
-/
import Derived.Test.YtpagpjidahaaeaaDoorCod3
namespace Go.Proofs.YtpagpjidahaaeaaDoor
open Go.RowKit Go.Shelf
set_option linter.unusedVariables false

theorem OwnL.labD {base : Nat} {w : World} {ao : Option Addr} {n cap : Nat} {L : List (Int × Int)} (h : OwnL base w ao n cap L) : LabD (fun b => base ≤ b ∧ b < w.heap.size) w ao n cap L := by
  obtain ⟨h1, h2, h3, h4⟩ := h.lab
  refine ⟨h1, h2, h3, fun hn => ?_⟩
  obtain ⟨b, off, e, hb, hc⟩ := h4 hn
  refine ⟨b, off, e, ⟨?_, hb⟩, hc⟩
  rcases h.2.2 with ⟨hv, h0⟩ | ⟨g, cap', cur, hv, hg, _⟩
  · omega
  · simp only [Value.slice.injEq] at hv
    rw [hv.1] at e
    simp only [Option.some.injEq, Addr.mk.injEq] at e
    omega
/-- A label in a row of one's own stays where a cell below is written. -/
theorem OwnL.set {base : Nat} {w : World} {ao : Option Addr} {n cap : Nat} {L : List (Int × Int)} (h : OwnL base w ao n cap L) (p : Addr) (v : Value) (hp : p.block < base) : Lab (w.setCell p v).heap.size (w.setCell p v) ao n cap L := by
  have hs : (w.setCell p v).heap.size = w.heap.size := by simp [World.setCell]
  exact (h.labD.later ⟨by rw [hs]; exact Nat.le_refl _, fun b hb => Below.heap_setCell w p v b (fun e => by have := hb.1; omega)⟩).lab (fun b hb => by rw [hs]; exact hb.2)

theorem fromWords_any {w : World} {ao : Option Addr} {n cap : Nat} {W : List Int} (hC : Cts w.heap.size w ao n cap W) (hU : U64s W) :
    Calls Tryd.prog 21 #[.slice ao n cap] w (Told 11 w (parseW W)) := by
  have hl := hC.1
  by_cases h0 : n = 0
  · subst h0
    exact fromWords_empty W hl
  · have hn : 0 < n := Nat.pos_of_ne_zero h0
    by_cases hg : W.getD 0 0 ≤ 16
    · by_cases hs : 1 + 2 * wcount W ≤ n
      · exact fromWords_main hC hU hn hg hs
      · exact fromWords_short hC hn (hU 0).1 hg (Nat.lt_of_not_le hs)
    · exact fromWords_great hC hn (Int.lt_of_not_ge hg)

theorem parse1_any {w : World} {ao : Option Addr} {n cap B : Nat} {W : List Int} (hB : w.cell? ⟨B, 0, none⟩ = some (.slice ao n cap)) (hC : Cts w.heap.size w ao n cap W) (hU : U64s W) :
    Calls Tryd.prog 20 #[.pointer (some ⟨B, 0, none⟩)] w (Told 11 w (parseW W)) := by
  cases hp : parseW W with
  | none =>
    go_enter Tryd.func20, Tryd.ntmps20
    go_wp2_with (go_at_call 21; refine (fromWords_any hC hU).mono ?_; rintro e w1 ⟨h1, h2, hb⟩; obtain rfl := h2 hp; clear h1 h2)
    exact ⟨rfl, Told.no rfl hb⟩
  | some L =>
    go_enter Tryd.func20, Tryd.ntmps20
    go_wp2_with (go_at_call 21; refine (fromWords_any hC hU).mono ?_; rintro e w1 ⟨h1, h2, hb⟩; obtain ⟨ao1, n1, cap1, rfl, ho⟩ := h1 L hp; clear h1 h2)
    go_ret
    exact Told.yes rfl ho hb
theorem parse1_enters : ∀ args w, (callFunc 20 args).run Tryd.prog w = .ok (.enter 20 args) w := enters_of Tryd.func20 (by kernel_rfl) rfl

theorem parse_none {w : World} {ao : Option Addr} {n cap : Nat} {W : List Int} (hC : Cts w.heap.size w ao n cap W) (hU : U64s W) (hp : parseW W = none) :
    Calls Tryd.prog 8 #[.slice ao n cap] w fun e w' => e = .returned (.tuple #[.slice none 0 0, .int .i64 0, .int .i64 11]) ∧ Below w.heap.size w w' := by
  have hmf : ∀ (fn : Fn) (first cap : Array Value) (w : World), (Instr.makeFunc fn first cap).run Tryd.prog w = .ok (.func fn first cap) w := fun _ _ _ _ => rfl
  have hb0 : Below w.heap.size w (w.alloc (.cells #[.slice ao n cap] 24)) := (Below.refl _ w).alloc (Nat.le_refl _) _
  have hb1 := hb0.alloc hb0.size (.cells #[.int .i64 0] 26)
  have hK := caught_err 20 #[.pointer (some ⟨w.heap.size, 0, none⟩)] parse1_enters 11 (w.alloc (.cells #[.slice ao n cap] 24))
    ((parse1_any (B := w.heap.size) (cellLater (World.cell?_alloc_new w #[.slice ao n cap] 24 0) _) (hC.next hb1) hU).mono fun e w' h => ⟨h.2.1 hp, by have := h.2.2; simpa using this⟩)
  go_enter Tryd.func8, Tryd.ntmps8
  go_wp2_with (go_at_call 19; refine hK.mono ?_; rintro e w1 ⟨rfl, hb⟩)
  go_ret3
  exact ⟨rfl, hb0.trans (hb.mono hb0.size)⟩

theorem parse_some {w : World} {ao : Option Addr} {n cap : Nat} {W : List Int} {L : List (Int × Int)} (hC : Cts w.heap.size w ao n cap W) (hU : U64s W) (hp : parseW W = some L) (hL : L.length ≤ 16) :
    Calls Tryd.prog 8 #[.slice ao n cap] w fun e w' => ∃ ao1 cap1, e = .returned (.tuple #[.slice ao1 L.length cap1, .int .i64 (1 + 2 * (L.length : Int)), .int .i64 0]) ∧ Lab w'.heap.size w' ao1 L.length cap1 L ∧ Below w.heap.size w w' := by
  have hmf : ∀ (fn : Fn) (first cap : Array Value) (w : World), (Instr.makeFunc fn first cap).run Tryd.prog w = .ok (.func fn first cap) w := fun _ _ _ _ => rfl
  have hb0 : Below w.heap.size w (w.alloc (.cells #[.slice ao n cap] 24)) := (Below.refl _ w).alloc (Nat.le_refl _) _
  have hb1 := hb0.alloc hb0.size (.cells #[.int .i64 0] 26)
  have hsz : (w.alloc (.cells #[.slice ao n cap] 24)).heap.size = w.heap.size + 1 := by simp
  have hK := caught_ok 20 #[.pointer (some ⟨w.heap.size, 0, none⟩)] parse1_enters (fun a k c w' => OwnL (w.heap.size + 2) w' a k c L) (w.alloc (.cells #[.slice ao n cap] 24))
    ((parse1_any (B := w.heap.size) (cellLater (World.cell?_alloc_new w #[.slice ao n cap] 24 0) _) (hC.next hb1) hU).mono fun e w' h => by
      obtain ⟨a, k, c, he, ho⟩ := h.1 L hp
      exact ⟨a, k, c, he, by simpa using ho, by have := h.2.2; simpa using this⟩)
  rw [hsz] at hK
  have HL : Hid (L.length ≤ 16) := hL
  go_enter Tryd.func8, Tryd.ntmps8
  go_wp2_with (first | (go_at_call 19; refine hK.mono ?_; rintro e w2 ⟨ao1, n1, cap1, w1, rfl, ho, hb, rfl⟩; obtain rfl := ho.1) | (go_at_call 22; refine (size_any _ _ (by omega) (by have := HL.out; omega)).mono ?_; rintro e w' ⟨rfl, rfl⟩))
  go_ret3
  exact ⟨_, _, rfl, ho.set _ _ (by show w.heap.size + 1 < _; omega), (hb1.trans (hb.mono (by omega))).setCell (by show _ ≤ w.heap.size + 1; omega) _⟩
end Go.Proofs.YtpagpjidahaaeaaDoor
