/-
  PROVED HERE: what slices.Equal of words, the document's Cats, slices.EqualFunc of four labels and package obj's sameGate return when they are called (contracts over this translation). No condition.
-/
import Derived.Test.YtfpmkihlfhpgdaaOb5
import Derived.Deep.DeepCutAuto
namespace Go.Proofs.Ytfpmkihlfhpgdaa
section
open Go.RowKit Go.Shelf
set_option linter.unusedVariables false
attribute [local go_sem] Oper.semAt_some

/-- A call answers whether X. -/
def AskP (X : Prop) (W : World) (e : Ending) (w' : World) : Prop := ∃ b : Bool, e = .returned (.bool b) ∧ Hid (b = true ↔ X) ∧ Below W.heap.size W w'
def Asks (f : FuncId) (args : Array Value) (X : Prop) (W : World) : Prop := Calls Try.prog f args W (AskP X W)
theorem Asks.on {f : FuncId} {args : Array Value} {X : Prop} {W : World} {R : Ending → World → Prop} (h : Asks f args X W) (k : ∀ w', Hid X → Below W.heap.size W w' → R (.returned (.bool true)) w') (k' : ∀ w', Hid (¬ X) → Below W.heap.size W w' → R (.returned (.bool false)) w') : Calls Try.prog f args W R := by
  refine Calls.mono h ?_
  rintro e w' ⟨b, rfl, hb, hk⟩
  cases b with
  | true => exact k w' (hb.out.1 rfl) hk
  | false => exact k' w' (fun x => absurd (hb.out.2 x) Bool.false_ne_true) hk
theorem askP_no {X Y : Prop} {W w' : World} (h : Hid (¬ Y)) (hk : Below W.heap.size W w') (k : X → Y) : AskP X W (.returned (.bool false)) w' := ⟨false, rfl, ⟨fun e => absurd e Bool.false_ne_true, fun e => absurd (k e) h.out⟩, hk⟩
theorem askP_yes {X : Prop} {W w' : World} (k : X) (hk : Below W.heap.size W w') : AskP X W (.returned (.bool true)) w' := ⟨true, rfl, ⟨fun _ => k, fun _ => rfl⟩, hk⟩
theorem size29 : (Try.prog.info? 29).map (·.size) = some 2 := by kernel_rfl
theorem size33 : (Try.prog.info? 33).map (·.size) = some 2 := by kernel_rfl
theorem size31 : (Try.prog.info? 31).map (·.size) = some 5 := by kernel_rfl
theorem size27 : (Try.prog.info? 27).map (·.size) = some 16 := by kernel_rfl
section
variable {w0 W : World} {ao ao' : Option Addr} {n n' cap cap' : Nat}
theorem LabD.lab' {L : Lb} (h : LabD (LtN w0) w0 ao n cap L) (k : Below w0.heap.size w0 W) : Lab W.heap.size W ao n cap L := (h.laterK fun b hb => k.block b hb).wide fun b hb => Nat.lt_of_lt_of_le hb k.size
theorem CtD.ct' {L : List Int} (h : CtD (LtN w0) w0 ao n cap L) (k : Below w0.heap.size w0 W) : CtD (LtN W) W ao n cap L := (h.laterK fun b hb => k.block b hb).wide fun b hb => Nat.lt_of_lt_of_le hb k.size
theorem MpD.mp' {L : List PgM.Pg.Mp} (h : MpD (LtN w0) w0 ao n cap L) (k : Below w0.heap.size w0 W) : PgM.Mps W.heap.size W ao n cap L := PgM.MpsD.wide (PgM.MpsD.laterK h fun b hb => k.block b hb) fun b hb => Nat.lt_of_lt_of_le hb k.size
theorem eqL {L L' : Lb} (h : LabD (LtN w0) w0 ao n cap L) (h' : LabD (LtN w0) w0 ao' n' cap' L') (k : Below w0.heap.size w0 W) : Asks 46 #[.slice ao n cap, .slice ao' n' cap'] (L = L') W := by
  refine (same_any (h.lab' k) (Nat.le_refl _) (h'.lab' k) (Nat.le_refl _)).mono ?_
  rintro e w' ⟨rfl, hb⟩
  exact ⟨_, rfl, by unfold sameB; exact decide_eq_true_iff, hb⟩
theorem reqL {L L' : Lb} (h : LabD (LtN w0) w0 ao n cap L) (h' : LabD (LtN w0) w0 ao' n' cap' L') (k : Below w0.heap.size w0 W) : Asks 51 #[.slice ao n cap, .slice ao' n' cap'] (L = L') W := by
  refine (rsame_any (h.lab' k) (Nat.le_refl _) (h'.lab' k) (Nat.le_refl _)).mono ?_
  rintro e w' ⟨rfl, hb⟩
  exact ⟨_, rfl, by unfold sameB; exact decide_eq_true_iff, hb⟩
theorem pg_sameB {L M : List PgM.Pg.Mp} : PgM.Pg.sameB L M = true ↔ L = M := by
  constructor
  · intro h
    unfold PgM.Pg.sameB at h
    rw [Bool.and_eq_true, beq_iff_eq, List.all_eq_true] at h
    obtain ⟨h1, h2⟩ := h
    apply List.ext_getElem h1
    intro i q1 q2
    have := PgM.Pg.eqB_iff.1 (h2 i (List.mem_range.2 q1))
    rwa [PgM.Pg.mat_get q1, PgM.Pg.mat_get q2] at this
  · rintro rfl; exact PgM.Pg.sameB_refl _
theorem eqM {L L' : List PgM.Pg.Mp} (h : MpD (LtN w0) w0 ao n cap L) (h' : MpD (LtN w0) w0 ao' n' cap' L') (k : Below w0.heap.size w0 W) : Asks 48 #[.slice ao n cap, .slice ao' n' cap'] (L = L') W := by
  refine (PgM.same_any (MpD.mp' h k) (MpD.mp' h' k)).mono ?_
  rintro e w' ⟨rfl, hb⟩
  exact ⟨_, rfl, pg_sameB, hb⟩
theorem reqM {L L' : List PgM.Pg.Mp} (h : MpD (LtN w0) w0 ao n cap L) (h' : MpD (LtN w0) w0 ao' n' cap' L') (k : Below w0.heap.size w0 W) : Asks 53 #[.slice ao n cap, .slice ao' n' cap'] (L = L') W := by
  refine (PgM.rsame_any (MpD.mp' h k) (MpD.mp' h' k)).mono ?_
  rintro e w' ⟨rfl, hb⟩
  exact ⟨_, rfl, pg_sameB, hb⟩
end
section
variable {D : Nat → Prop} {w : World} {T : Array Value} {t : Th} {g : Gt}
theorem ext2 {C : Array Value} {o : Nat} {u v : Value} (h : C[o]? = some u) (h' : C[o + 1]? = some v) : C.extract o (o + 2) = #[u, v] := by
  have hs : o + 1 < C.size := (Array.getElem?_eq_some_iff.1 h').1
  apply Array.ext_getElem?
  intro i
  rcases i with _ | _ | i
  · rw [ext_get (n := 2) (by omega) (by omega)]; exact h
  · rw [ext_get (n := 2) (by omega) (by omega)]; exact h'
  · rw [Array.getElem?_extract, if_neg (by omega)]; simp
end
theorem sameG_no {a b : Gt} (h : ¬ a = b) : sameG a b = false := decide_eq_false h
theorem sameG_yes {a b : Gt} (h : a = b) : sameG a b = true := decide_eq_true h
set_option maxRecDepth 100000 in
theorem sameGate_any {w : World} {G G' : Array Value} {g g' : Gt} (h : GtD (LtN w) w G g) (h' : GtD (LtN w) w G' g') :
    Asks 50 #[.agg G, .agg G'] (g = g') w := by
  have hz := h.size
  have hz' := h'.size
  obtain ⟨a0, n0, k0, c0, l0⟩ := h.f.grant
  obtain ⟨a1, n1, k1, c1, l1⟩ := h.f.clear
  obtain ⟨a0', n0', k0', c0', l0'⟩ := h'.f.grant
  obtain ⟨a1', n1', k1', c1', l1'⟩ := h'.f.clear
  have x2 := ext2 h.f.sc h.f.si
  have x2' := ext2 h'.f.sc h'.f.si
  have c4 := h.f.pc
  have c5 := h.f.arg
  have c4' := h'.f.pc
  have c5' := h'.f.arg
  have g24 := Try.isAgg24
  have g22 := Try.isAgg22
  unfold Asks
  go_enter Try.func50, Try.ntmps50
  go_wp2_with (first
    | go_skip
    | (with_reducible refine wpList_box rfl _ _ rfl G rfl ?_; intro B W hB hb hk)
    | (with_reducible refine wpList_box rfl _ _ rfl G' rfl ?_; intro B' W' hB' hb' hk'; replace hb := hb.next hk'; replace hk := hk.trans (hk'.mono hk.size); clear hk')
    | (with_reducible refine wpList_load1 (by kernel_rfl) _ _ rfl B _ rfl _ _ hb _ (by assumption) (by assumption) ?_)
    | (with_reducible refine wpList_load1 (by kernel_rfl) _ _ rfl B' _ rfl _ _ hb' _ (by assumption) (by assumption) ?_)
    | (with_reducible refine wpList_loadp (by kernel_rfl) 29 _ rfl B _ rfl 2 _ _ hb _ (by assumption) (by omega) _ Try.underlying29 (by kernel_rfl) size29 ?_)
    | (with_reducible refine wpList_loadp (by kernel_rfl) 29 _ rfl B' _ rfl 2 _ _ hb' _ (by assumption) (by omega) _ Try.underlying29 (by kernel_rfl) size29 ?_)
    | ((with_reducible refine wpList_test (by kernel_rfl) .eql _ _ _ _ rfl _ _ rfl rfl (eqg_int _ _ _ _ _ _) ?_ ?_) <;> intro hq)
    | ((with_reducible refine wpList_test (by kernel_rfl) .eql _ _ _ _ rfl _ _ rfl rfl (eqg_ref _ _ _ _ _ _) ?_ ?_) <;> intro hq)
    | (go_at_call 46; (with_reducible refine (eqL (by assumption) (by assumption) hk).on ?_ ?_) <;> (intro w1 hq hb1; replace hb := hb.next hb1; replace hb' := hb'.next hb1; replace hk := hk.trans (hb1.mono hk.size); clear hb1)))
  all_goals go_ret
  all_goals first
    | exact askP_no (by assumption) hk (fun e => by rw [e]; exact ⟨rfl, rfl⟩)
    | exact askP_no (by assumption) hk (fun e => by rw [e])
    | (exact askP_yes (gt_iff.1 ⟨Hid.out (by assumption), Hid.out (by assumption), Hid.out (by assumption), Hid.out (by assumption), Hid.out (by assumption)⟩) hk)
end
section
open Go.RowKit Go.Shelf
set_option linter.unusedVariables false
attribute [local go_sem] Oper.semAt_some

theorem CtD.at {D : Nat → Prop} {w : World} {ao : Option Addr} {n cap : Nat} {L : List Int} (h : CtD D w ao n cap L) {i : Nat} (hi : i < n) : ∃ (b off : Nat) (x : Int), ao = some ⟨b, off, none⟩ ∧ D b ∧ Hid (L.getD i 0 = x) ∧ w.cell? ⟨b, off + i, none⟩ = some (.int .u64 x) := by
  obtain ⟨b, off, e, hb, hc⟩ := h.2.2.2 (by omega)
  exact ⟨b, off, _, e, hb, rfl, hc i hi⟩
theorem eqw_succ {p q : Nat → Int} {k : Nat} (h : ∀ i, i < k → p i = q i) (hk : p k = q k) : ∀ i, i < k + 1 → p i = q i := fun i hi => by
  rcases Nat.lt_or_ge i k with h' | h'
  · exact h i h'
  · have : i = k := by omega
    rw [this]; exact hk
theorem words_ext {L M : List Int} (h : L.length = M.length) (k : ∀ i, i < L.length → L.getD i 0 = M.getD i 0) : L = M := by
  apply List.ext_getElem h
  intro i h1 h2
  have := k i h1
  simpa [List.getD_eq_getElem?_getD, List.getElem?_eq_getElem h1, List.getElem?_eq_getElem h2] using this
set_option maxRecDepth 100000 in
set_option maxHeartbeats 2000000 in
theorem eqU {w0 w : World} {a a' : Option Addr} {n c n' c' : Nat} {L M : List Int} (h0 : CtD (LtN w0) w0 a n c L) (h0' : CtD (LtN w0) w0 a' n' c' M) (k : Below w0.heap.size w0 w) :
    Asks 47 #[.slice a n c, .slice a' n' c'] (L = M) w := by
  have h := h0.ct' k
  have h' := h0'.ct' k
  clear h0 h0' k
  have hn : Hid (L.length = n) := h.1
  have hn' : Hid (M.length = n') := h'.1
  have hnc := h.2.1
  have hcm := h.2.2.1.1
  have hnc' := h'.2.1
  have hcm' := h'.2.2.1.1
  unfold Asks
  by_cases hnn : n = n'
  · subst hnn
    go_enter Try.func47, Try.ntmps47
    go_wp2
    go_loopw [13] (fun i wr => ∃ k : Nat, k ≤ n ∧ i = .int .i64 k ∧ Hid (∀ j, j < k → L.getD j 0 = M.getD j 0) ∧ Below w.heap.size w wr) (fun i _ => n - (intOf i).toNat)
    case atStart => exact ⟨0, Nat.zero_le _, rfl, fun j hj => absurd hj (by omega), Below.refl _ _⟩
    case round =>
      obtain ⟨k, hk, rfl, hal, hb⟩ := hrel
      by_cases hkn : k < n
      · obtain ⟨b, off, x, rfl, hB, hx, c0⟩ := (h.laterK fun b hb' => hb.block b hb').at hkn
        obtain ⟨b', off', y, rfl, hB', hy, d0⟩ := (h'.laterK fun b hb' => hb.block b hb').at hkn
        have hkn' : (k : Int) < n := by omega
        by_cases hxx : x = y
        · have hal2 : Hid (∀ j, j < k + 1 → L.getD j 0 = M.getD j 0) := eqw_succ hal.out (by rw [hx.out, hy.out, hxx])
          subst hxx
          go_wp2
          go_quiet (fail)
          go_wp2
          go_roundw
          case rel => exact ⟨k + 1, by omega, by go_num, hal2, PgM.below_drewN hb _⟩
          case measure => simp [intOf]; omega
        · have hf : Hid (¬ L = M) := by
            refine (?_ : ¬ L = M)
            intro e; apply hxx; rw [← hx.out, ← hy.out, e]
          have hd : (x == y) = false := by rw [beq_eq_false_iff_ne]; exact hxx
          clear hxx
          go_wp2
          go_quiet (fail)
          go_wp2
          go_ret
          exact askP_no hf (PgM.below_drewN hb _) id
      · obtain rfl : k = n := by omega
        have hf : Hid (L = M) := words_ext (by rw [hn.out, hn'.out]) (fun i hi => hal.out i (by rw [hn.out] at hi; exact hi))
        go_wp2
        go_ret
        exact askP_yes hf.out hb
  · have hf : Hid (¬ L = M) := by
      refine (?_ : ¬ L = M)
      intro e; apply hnn; rw [← hn.out, ← hn'.out, e]
    have hne : ((n : Int) == (n' : Int)) = false := by simp; omega
    go_enter Try.func47, Try.ntmps47
    go_wp2
    go_ret
    exact askP_no hf (Below.refl _ _) id
set_option maxRecDepth 100000 in
set_option maxHeartbeats 2000000 in
theorem reqU {w0 w : World} {a a' : Option Addr} {n c n' c' : Nat} {L M : List Int} (h0 : CtD (LtN w0) w0 a n c L) (h0' : CtD (LtN w0) w0 a' n' c' M) (k : Below w0.heap.size w0 w) :
    Asks 52 #[.slice a n c, .slice a' n' c'] (L = M) w := by
  have h := h0.ct' k
  have h' := h0'.ct' k
  clear h0 h0' k
  have hn : Hid (L.length = n) := h.1
  have hn' : Hid (M.length = n') := h'.1
  have hnc := h.2.1
  have hcm := h.2.2.1.1
  have hnc' := h'.2.1
  have hcm' := h'.2.2.1.1
  unfold Asks
  by_cases hnn : n = n'
  · subst hnn
    go_enter Try.func52, Try.ntmps52
    go_wp2
    go_loopw [5] (fun i wr => ∃ k : Nat, k ≤ n ∧ i = .int .i64 k ∧ Hid (∀ j, j < k → L.getD j 0 = M.getD j 0) ∧ Below w.heap.size w wr) (fun i _ => n - (intOf i).toNat)
    case atStart => exact ⟨0, Nat.zero_le _, rfl, fun j hj => absurd hj (by omega), Below.refl _ _⟩
    case round =>
      obtain ⟨k, hk, rfl, hal, hb⟩ := hrel
      by_cases hkn : k < n
      · obtain ⟨b, off, x, rfl, hB, hx, c0⟩ := (h.laterK fun b hb' => hb.block b hb').at hkn
        obtain ⟨b', off', y, rfl, hB', hy, d0⟩ := (h'.laterK fun b hb' => hb.block b hb').at hkn
        have hkn' : (k : Int) < n := by omega
        by_cases hxx : x = y
        · have hal2 : Hid (∀ j, j < k + 1 → L.getD j 0 = M.getD j 0) := eqw_succ hal.out (by rw [hx.out, hy.out, hxx])
          subst hxx
          go_wp2
          go_quiet (fail)
          go_wp2
          go_roundw
          case rel => exact ⟨k + 1, by omega, by go_num, hal2, PgM.below_drewN hb _⟩
          case measure => simp [intOf]; omega
        · have hf : Hid (¬ L = M) := by
            refine (?_ : ¬ L = M)
            intro e; apply hxx; rw [← hx.out, ← hy.out, e]
          have hd : (x == y) = false := by rw [beq_eq_false_iff_ne]; exact hxx
          clear hxx
          go_wp2
          go_quiet (fail)
          go_wp2
          go_ret
          exact askP_no hf (PgM.below_drewN hb _) id
      · obtain rfl : k = n := by omega
        have hf : Hid (L = M) := words_ext (by rw [hn.out, hn'.out]) (fun i hi => hal.out i (by rw [hn.out] at hi; exact hi))
        go_wp2
        go_ret
        exact askP_yes hf.out hb
  · have hf : Hid (¬ L = M) := by
      refine (?_ : ¬ L = M)
      intro e; apply hnn; rw [← hn.out, ← hn'.out, e]
    have hne : ((n : Int) == (n' : Int)) = false := by simp; omega
    go_enter Try.func52, Try.ntmps52
    go_wp2
    go_ret
    exact askP_no hf (Below.refl _ _) id
end
section
open Go.RowKit Go.Shelf
set_option linter.unusedVariables false
attribute [local go_sem] Oper.semAt_some

/-- Four labels one behind the other. -/
def Four (w : World) (b o : Nat) (R : Nat → Lb) : Prop := b < w.heap.size ∧ ∀ i, i < 4 → LbV (LtN w) w (w.cell? ⟨b, o + i, none⟩) (R i)
theorem Four.next {w w' : World} {b o : Nat} {R : Nat → Lb} (h : Four w b o R) (k : Below w.heap.size w w') : Four w' b o R :=
  ⟨Nat.lt_of_lt_of_le h.1 k.size, fun i hi => by rw [k.cell (p := ⟨b, o + i, none⟩) h.1]; exact (h.2 i hi).next k⟩
def labs (t : Th) : Nat → Lb
  | 0 => t.l0
  | 1 => t.l1
  | 2 => t.l2
  | _ => t.l3
theorem labs_iff {a b : Th} : (∀ i, i < 4 → labs a i = labs b i) ↔ (a.l0 = b.l0 ∧ a.l1 = b.l1 ∧ a.l2 = b.l2 ∧ a.l3 = b.l3) :=
  ⟨fun h => ⟨h 0 (by omega), h 1 (by omega), h 2 (by omega), h 3 (by omega)⟩, fun h i hi => by
    rcases i with _ | _ | _ | _ | i
    · exact h.1
    · exact h.2.1
    · exact h.2.2.1
    · exact h.2.2.2
    · omega⟩
theorem ThD.four {w : World} {B : Nat} {T : Array Value} {t : Th} {ty : TypeId} (h : ThD (LtN w) w T t) (hb : Blk w B T ty) : Four w B 31 (labs t) := by
  refine ⟨hb.lt, fun i hi => ?_⟩
  rw [hb.cell]
  rcases i with _ | _ | _ | _ | i
  · exact h.f.l0
  · exact h.f.l1
  · exact h.f.l2
  · exact h.f.l3
  · omega
theorem lab_eq {w w' : World} {ao : Option Addr} {n cap : Nat} {L : Lb} (h : LabD (LtN w) w ao n cap L) (k : Below w.heap.size w w') : LabD (LtN w') w' ao n cap L := (h.laterK fun b hb => k.block b hb).wide fun b hb => Nat.lt_of_lt_of_le hb k.size
set_option maxRecDepth 100000 in
set_option maxHeartbeats 2000000 in
theorem four_any {w : World} {b b' o o' : Nat} {R R' : Nat → Lb} (h : Four w b o R) (h' : Four w b' o' R') :
    Asks 79 #[.slice (some ⟨b, o, none⟩) 4 4, .slice (some ⟨b', o', none⟩) 4 4, .func (.func 46) #[] #[]] (∀ i, i < 4 → R i = R' i) w := by
  unfold Asks
  go_enter Try.func79, Try.ntmps79
  go_wp2
  go_loopw [17] (fun i wr => ∃ k : Nat, k ≤ 4 ∧ i = .int .i64 k ∧ Hid (∀ j, j < k → R j = R' j) ∧ Below w.heap.size w wr) (fun i _ => 4 - (intOf i).toNat)
  case atStart => exact ⟨0, Nat.zero_le _, rfl, fun j hj => absurd hj (by omega), Below.refl _ _⟩
  case round =>
    obtain ⟨k, hk, rfl, hal, hb⟩ := hrel
    by_cases hkn : k < 4
    · have hh := h.next hb
      have hh' := h'.next hb
      obtain ⟨ai, ni, ci, q1, q2⟩ := hh.2 k hkn
      obtain ⟨ai', ni', ci', q1', q2'⟩ := hh'.2 k hkn
      have hkn' : (k : Int) < 4 := by omega
      clear hh hh'
      go_wp2_with (go_at_call 46; (with_reducible refine (eqL q2 q2' (Below.refl _ _)).on ?_ ?_) <;> intro w1 hq hb1)
      · go_roundw
        case rel => exact ⟨k + 1, by omega, by go_num, fun j hj => by
            rcases Nat.lt_or_ge j k with h | h
            · exact hal.out j h
            · obtain rfl : j = k := by omega
              exact hq.out, hb.trans (hb1.mono hb.size)⟩
        case measure => simp [intOf]; omega
      · go_ret
        exact askP_no hq (hb.trans (hb1.mono hb.size)) (fun e => e k hkn)
    · obtain rfl : k = 4 := by omega
      go_wp2
      go_ret
      exact askP_yes hal.out hb
end
end Go.Proofs.Ytfpmkihlfhpgdaa
