/-
  PROVED HERE: codec's fromText and Read (contracts over this translation): the label of a text, or what is thrown, and caught.
-/
import Derived.Test.YtbmfehkahjeobaaDoorCod4
import Derived.Test.YtbmfehkahjeobaaDoorCod10
namespace Go.Proofs.YtbmfehkahjeobaaDoor
open Go.RowKit Go.Shelf
set_option linter.unusedVariables false
attribute [local go_sem] Oper.semAt_some

/-- The error of a text, and its label. -/
def readE (s : ByteArray) : Int :=
  match readT s with
  | none => 11
  | some L => if fitB L = true then (if L.length ≤ 16 then 0 else 6) else 11
def readO (s : ByteArray) : Option (List (Int × Int)) := if readE s = 0 then readT s else none

theorem leaves_thrown {n D : Nat} {fn : Func} {tmps : Array Value} {R : Ending → World → Prop} {ch : List PanicEntry} {X : World} (hD : X.heap[D]? = some (.deferred (some []))) (h : ∀ X', X' = X.putObj D (.deferred none) → R (.panicked ch) X') :
    LeavesInM Fence.wide n Tryd.prog fn tmps R [{ target := .collected D, args := #[] }] (.panicking ch) X :=
  ⟨by simp, .inl ⟨_, _, rfl, run_takeDeferred hD, h _ rfl⟩⟩

set_option maxRecDepth 100000 in
set_option maxHeartbeats 2000000 in
theorem fromText_any (s : ByteArray) (hs : s.size ≤ 60000) (w : World) (hv : Vars w) : Calls Tryd.prog 12 #[.string s] w (Told (readE s) w (readO s)) := by
  refine (callsIn_wide (n := 5)).1 ?_
  refine calls_of_wpF Tryd.func12 rfl ?_
  simp only [Tryd.ntmps12, List.size_toArray, List.length_cons, List.length_nil, Nat.reduceAdd, Nat.reduceSub, Array.replicate_succ, Array.replicate_zero, List.push_toArray, List.append_toArray, List.nil_append, List.cons_append]
  refine wpF_seq (wpF_of (n := 5) ?_)
  gi_wp2
  refine wpF_seq (wpF_of (n := 5) ?_)
  gi_wp2
  refine wpF_seq ?_
  refine wpF_seq (wpF_of (n := 5) ?_)
  gi_wp2_with (refine ⟨trivial, ?_⟩; gi_at_call 22; refine (callsIn_wide.2 (parts_any _ _)).mono ?_; rintro e w' ⟨rfl, rfl⟩)
  have hB0 : Below w.heap.size w ((w.alloc (.cells #[.slice none 0 0] 23)).alloc (.cells #[.string s] 9)) := ((Below.refl _ w).alloc (Nat.le_refl _) _).alloc (by simp) _
  have bO := (Boxed.new w 23 (.slice none 0 0)).alloc (.cells #[.string s] 9)
  have cA : ((w.alloc (.cells #[.slice none 0 0] 23)).alloc (.cells #[.string s] 9)).cell? ⟨w.heap.size + 1, 0, none⟩ = some (.string s) := by
    simp
  have hsz : ((w.alloc (.cells #[.slice none 0 0] 23)).alloc (.cells #[.string s] 9)).heap.size = w.heap.size + 2 := by simp
  obtain ⟨W0, hW0⟩ : ∃ W0, (w.alloc (.cells #[.slice none 0 0] 23)).alloc (.cells #[.string s] 9) = W0 := ⟨_, rfl⟩
  rw [hW0] at hB0 bO cA hsz ⊢
  clear hW0
  refine wpF_block (wpF_range Tryd.func12 (n := 3) (gf := 35) (lb := #[.pointer (some ⟨w.heap.size + 1, 0, none⟩)]) (by simp [Act.eval]) parts1_enters (encs := encS) (fun _ => rfl) (partsOf s) (ItemsI w) (ItemsP w)
    (OwnFrom.and (OwnFrom.and (Own.from (holdsRow_own w.heap.size w.heap.size 23 35 2 (fun pre => (pl pre).length) (fun pre => cellsOf (pl pre)) (fun _ _ => True)) _) (ownFrom_pure _ _)) (ownFrom_below (Nat.le_refl _) (by omega)))
    ⟨⟨⟨_, bO, World.ownsRow_nil _ _ _ _, trivial⟩, rfl⟩, hB0⟩
    (parts1_seq 3 s (by omega) (w.heap.size + 1) W0 (by omega) cA _ (fun pre X h => hv.later h.2))
    (fun x => actAt w s x) ?assign ?body ?done ?throw)
  case assign =>
    intro l x X K hK
    dsimp only [encS]
    gi_wp2
    exact hK
  case body =>
    intro l pre x X hI hp
    refine body_any 3 w W0 X hsz l pre x s ?_ ?_ hv hI
    · have := parts_size (s := s) (x := x) (hp.subset (by simp)); omega
    · have := hp.length_le; have := parts_len s; simp at *; omega
  case throw =>
    rintro D ch pre X hD hp ⟨rfl, hn, hB⟩ hX
    have hr : readT s = none := prs_prefix hp hn
    have hE : readE s = 11 := by unfold readE; rw [hr]
    have hO : readO s = none := by unfold readO; rw [hE]; rfl
    refine leaves_thrown hX ?_
    rintro X' rfl
    rw [hE, hO]
    exact Told.no rfl (hB.trans (belowK_b (w := w) (Nat.le_refl _) X D _ _ (by omega) hX rfl rfl))
  case done =>
    rintro D X hD ⟨⟨⟨v, bO1, hrow, _⟩, hpr⟩, hB⟩ hX
    obtain ⟨aoL, capL, rfl, hown⟩ := ownL_of hrow
    have cO := bO1.cell
    have hlt := (Array.getElem?_eq_some_iff.1 hX).1
    have HR : Hid (readT s = some (pl (partsOf s))) := hpr
    generalize pl (partsOf s) = L at hown HR cO bO1 hrow
    clear hpr hrow bO
    refine wpF_of (n := 5) ?_
    cases hf : fitB L with
    | false =>
      have hE : readE s = 11 := by unfold readE; rw [HR.out]; simp [hf]
      have hO : readO s = none := by unfold readO; rw [hE]; rfl
      rw [hE, hO]
      clear hE hO
      gi_wp2_with (first | (refine ⟨trivial, ?_⟩; gi_at_call 15; refine (callsIn_wide.2 (lfit_any hown.lab (Nat.le_refl _))).mono ?_; rintro e w1 ⟨rfl, hb1⟩; rw [hf]; have cO1 := (hb1.cell (p := ⟨w.heap.size, 0, none⟩) bO1.lt).trans cO) | (refine ⟨trivial, ?_⟩; gi_at_call 24; refine (callsIn_wide.2 (need_no 11 _)).mono ?_; rintro e w' ⟨rfl, rfl⟩))
      exact leaves_thrown ((hb1.block D hlt).trans hX) (fun X' e => by subst e; exact Told.no rfl ((hB.trans (hb1.mono hB.size)).trans (belowK_b (w := w) (Nat.le_refl _) w1 D _ _ (by omega) ((hb1.block D hlt).trans hX) rfl rfl)))
    | true =>
      by_cases hl : L.length ≤ 16
      · have hE : readE s = 0 := by unfold readE; rw [HR.out]; simp [hf, hl]
        have hO : readO s = some L := by unfold readO; rw [hE]; exact HR.out
        rw [hE, hO]
        clear hE hO
        have hli : (L.length : Int) ≤ 16 := by omega
        have HL : Hid (L.length ≤ 16) := hl
        clear hl
        gi_wp2_with (first | (refine ⟨trivial, ?_⟩; gi_at_call 15; refine (callsIn_wide.2 (lfit_any hown.lab (Nat.le_refl _))).mono ?_; rintro e w1 ⟨rfl, hb1⟩; rw [hf]; have cO1 := (hb1.cell (p := ⟨w.heap.size, 0, none⟩) bO1.lt).trans cO) | (refine ⟨trivial, ?_⟩; gi_at_call 24; refine (callsIn_wide.2 (need_yes 11 _)).mono ?_; rintro e w' ⟨rfl, rfl⟩) | (refine ⟨trivial, ?_⟩; gi_at_call 24; refine (callsIn_wide.2 (need_yes 6 _)).mono ?_; rintro e w' ⟨rfl, rfl⟩))
        refine ⟨by simp, .inl ⟨_, _, rfl, run_takeDeferred ((hb1.block D hlt).trans hX), ?_⟩⟩
        have hown1 := hown.next hb1
        exact ⟨_, results_tmp rfl _ _ _, Told.yes rfl ⟨hown1.1, ownsRow_putObj hown1.2 _ ((hb1.block D hlt).trans hX) rfl⟩ ((hB.trans (hb1.mono hB.size)).trans (belowK_b (w := w) (Nat.le_refl _) w1 D _ _ (by omega) ((hb1.block D hlt).trans hX) rfl rfl))⟩
      · have hE : readE s = 6 := by unfold readE; rw [HR.out]; simp [hf, hl]
        have hO : readO s = none := by unfold readO; rw [hE]; rfl
        rw [hE, hO]
        clear hE hO
        have hli : (16 : Int) < (L.length : Int) := by omega
        have HL : Hid (¬ L.length ≤ 16) := hl
        clear hl
        gi_wp2_with (first | (refine ⟨trivial, ?_⟩; gi_at_call 15; refine (callsIn_wide.2 (lfit_any hown.lab (Nat.le_refl _))).mono ?_; rintro e w1 ⟨rfl, hb1⟩; rw [hf]; have cO1 := (hb1.cell (p := ⟨w.heap.size, 0, none⟩) bO1.lt).trans cO) | (refine ⟨trivial, ?_⟩; gi_at_call 24; refine (callsIn_wide.2 (need_yes 11 _)).mono ?_; rintro e w' ⟨rfl, rfl⟩) | (refine ⟨trivial, ?_⟩; gi_at_call 24; refine (callsIn_wide.2 (need_no' (decide_eq_false (Int.not_le.2 hli)) 6 _)).mono ?_; rintro e w' ⟨rfl, rfl⟩))
        exact leaves_thrown ((hb1.block D hlt).trans hX) (fun X' e => by subst e; exact Told.no rfl ((hB.trans (hb1.mono hB.size)).trans (belowK_b (w := w) (Nat.le_refl _) w1 D _ _ (by omega) ((hb1.block D hlt).trans hX) rfl rfl)))

theorem read1_any {w : World} {B : Nat} (s : ByteArray) (hs : s.size ≤ 60000) (hB : w.cell? ⟨B, 0, none⟩ = some (.string s)) (hv : Vars w) :
    Calls Tryd.prog 11 #[.pointer (some ⟨B, 0, none⟩)] w (Told (readE s) w (readO s)) := by
  have HF := fromText_any s hs w hv
  cases hp : readO s with
  | none =>
    rw [hp] at HF
    go_enter Tryd.func11, Tryd.ntmps11
    go_wp2_with (go_at_call 12; refine HF.mono ?_; rintro e w1 ⟨h1, h2, hb⟩; obtain rfl := h2 rfl; clear h1 h2)
    exact ⟨rfl, Told.no rfl hb⟩
  | some L =>
    rw [hp] at HF
    go_enter Tryd.func11, Tryd.ntmps11
    go_wp2_with (go_at_call 12; refine HF.mono ?_; rintro e w1 ⟨h1, h2, hb⟩; obtain ⟨ao1, n1, cap1, rfl, ho⟩ := h1 L rfl; clear h1 h2)
    go_ret
    exact Told.yes rfl ho hb
theorem read1_enters : ∀ args w, (callFunc 11 args).run Tryd.prog w = .ok (.enter 11 args) w := enters_of Tryd.func11 (by kernel_rfl) rfl

theorem read_none {w : World} (s : ByteArray) (hs : s.size ≤ 60000) (hv : Vars w) (hp : readO s = none) :
    Calls Tryd.prog 5 #[.string s] w fun e w' => e = .returned (.tuple #[.slice none 0 0, .int .i64 (readE s)]) ∧ Below w.heap.size w w' := by
  have hmf : ∀ (fn : Fn) (first cap : Array Value) (w : World), (Instr.makeFunc fn first cap).run Tryd.prog w = .ok (.func fn first cap) w := fun _ _ _ _ => rfl
  have hb0 : Below w.heap.size w (w.alloc (.cells #[.string s] 9)) := (Below.refl _ w).alloc (Nat.le_refl _) _
  have hb1 := hb0.alloc hb0.size (.cells #[.int .i64 0] 25)
  have hK := caught_err 11 #[.pointer (some ⟨w.heap.size, 0, none⟩)] read1_enters (readE s) (w.alloc (.cells #[.string s] 9))
    ((read1_any (B := w.heap.size) s hs (cellLater (World.cell?_alloc_new w #[.string s] 9 0) _) (hv.later hb1)).mono fun e w' h => ⟨h.2.1 hp, by have := h.2.2; simpa using this⟩)
  go_enter Tryd.func5, Tryd.ntmps5
  go_wp2_with (go_at_call 10; refine hK.mono ?_; rintro e w1 ⟨rfl, hb⟩)
  go_ret2
  exact ⟨rfl, hb0.trans (hb.mono hb0.size)⟩

theorem read_some {w : World} (s : ByteArray) {L : List (Int × Int)} (hs : s.size ≤ 60000) (hv : Vars w) (hp : readO s = some L) :
    Calls Tryd.prog 5 #[.string s] w fun e w' => ∃ ao1 cap1, e = .returned (.tuple #[.slice ao1 L.length cap1, .int .i64 0]) ∧ Lab w'.heap.size w' ao1 L.length cap1 L ∧ Below w.heap.size w w' := by
  have hmf : ∀ (fn : Fn) (first cap : Array Value) (w : World), (Instr.makeFunc fn first cap).run Tryd.prog w = .ok (.func fn first cap) w := fun _ _ _ _ => rfl
  have hb0 : Below w.heap.size w (w.alloc (.cells #[.string s] 9)) := (Below.refl _ w).alloc (Nat.le_refl _) _
  have hb1 := hb0.alloc hb0.size (.cells #[.int .i64 0] 25)
  have hsz : (w.alloc (.cells #[.string s] 9)).heap.size = w.heap.size + 1 := by simp
  have hK := caught_ok 11 #[.pointer (some ⟨w.heap.size, 0, none⟩)] read1_enters (fun a k c w' => OwnL (w.heap.size + 2) w' a k c L) (w.alloc (.cells #[.string s] 9))
    ((read1_any (B := w.heap.size) s hs (cellLater (World.cell?_alloc_new w #[.string s] 9 0) _) (hv.later hb1)).mono fun e w' h => by
      obtain ⟨a, k, c, he, ho⟩ := h.1 L hp
      exact ⟨a, k, c, he, by simpa using ho, by have := h.2.2; simpa using this⟩)
  rw [hsz] at hK
  go_enter Tryd.func5, Tryd.ntmps5
  go_wp2_with (first | (go_at_call 10; refine hK.mono ?_; rintro e w2 ⟨ao1, n1, cap1, w1, rfl, ho, hb, rfl⟩; obtain rfl := ho.1))
  go_ret2
  exact ⟨_, _, rfl, ho.set _ _ (by show w.heap.size + 1 < _; omega), (hb1.trans (hb.mono (by omega))).setCell (by show _ ≤ w.heap.size + 1; omega) _⟩
end Go.Proofs.YtbmfehkahjeobaaDoor
