/-
  PROVED HERE: codec's fromText (a contract over this translation): the label of a text, or what is thrown.
-/
import Derived.Test.YtbmfehkahjeobaaDoorCod2
import Derived.Test.YtbmfehkahjeobaaDoorCod9
import Derived.Test.YtbmfehkahjeobaaDoorRoundHeld
import Derived.Test.YtbmfehkahjeobaaDoorLabFold
import Derived.Deep.AppendLies
namespace Go.Proofs.YtbmfehkahjeobaaDoor
open Go.RowKit Go.Shelf
set_option linter.unusedVariables false
attribute [local go_sem] Oper.semAt_some

theorem ownsRow_base {W : World} {b b' : Nat} {e : TypeId} {size : Nat} {v : Value} {k : Nat} {xs : List Value} (hb : b' ≤ b) (h : W.ownsRow b e size v k xs) : W.ownsRow b' e size v k xs := by
  refine ⟨h.1, ?_⟩
  rcases h.2 with h0 | ⟨g, c, cur, h1, h2, h3⟩
  · exact .inl h0
  · exact .inr ⟨g, c, cur, h1, Nat.le_trans hb h2, h3⟩
/-- Behind an append to a row in a box, and the store back. -/
theorem app_back {W w1 : World} {s r B : Nat} {t e : TypeId} {size : Nat} {v v' : Value} {k m : Nat} {xs ys : List Value} {tmp : Obj} (hv : Boxed W B t v) (hte : t ≠ e) (hrow : W.ownsRow r e size v k xs) (hs : s ≤ W.heap.size) (hsr : s ≤ r) (hB : s ≤ B)
    (hown' : w1.ownsRow r e size v' m ys) (hgrow : (W.alloc tmp).grownBy w1 v.ownBlock) :
    Boxed w1 B t v ∧ Boxed (w1.setCell ⟨B, 0, none⟩ v') B t v' ∧ (w1.setCell ⟨B, 0, none⟩ v').ownsRow r e size v' m ys ∧ KeepsOthers W (w1.setCell ⟨B, 0, none⟩ v') ∧ Below s W (w1.setCell ⟨B, 0, none⟩ v') ∧
    (∀ B' t' u, Boxed W B' t' u → t' ≠ e → B' ≠ B → Boxed (w1.setCell ⟨B, 0, none⟩ v') B' t' u) ∧ (∀ b, b < W.heap.size → b < r → b ≠ B → (w1.setCell ⟨B, 0, none⟩ v').heap[b]? = W.heap[b]?) := by
  obtain ⟨h1, h2, _, h4, h5⟩ := hv.appended hte (ownsRow_base hsr hrow) hs hB (ownsRow_base hsr hown') hgrow
  refine ⟨h1, h2, hown'.kept (grownBy_setCell' w1 B v') (.inr (h1.not_row hte hown').symm), h4, h5, ?_, ?_⟩
  · intro B' t' u hu ht hne
    exact ((hu.alloc tmp).kept hgrow (hu.not_row ht hrow)).other hne _
  intro b hbW hbr hne
  rw [Below.heap_setCell w1 ⟨B, 0, none⟩ _ b hne]
  refine (hgrow.block b (by simp; omega) (fun e' => ?_)).trans (Below.heap_alloc W tmp b hbW)
  have := (hrow.lt b e'.symm).1
  omega


def pairI (s : ByteArray) : Option (Int × Int) := (pairOf s).map fun p => ((p.1 : Int), p.2)
def prs (ps : List ByteArray) : Option (List (Int × Int)) := ps.mapM pairI
theorem prs_nil : prs [] = some [] := rfl
theorem prs_snoc (ps : List ByteArray) (x : ByteArray) : prs (ps ++ [x]) = (prs ps).bind fun L => (pairI x).map fun p => L ++ [p] := by
  unfold prs
  rw [List.mapM_append]
  simp [Option.bind_eq_bind]
  cases ps.mapM pairI <;> simp
  cases pairI x <;> simp
theorem prs_len {ps : List ByteArray} {L : List (Int × Int)} (h : prs ps = some L) : L.length = ps.length := Lib.mapM_length h
theorem prs_prefix {pre ps : List ByteArray} (hp : pre <+: ps) (h : prs pre = none) : prs ps = none := by
  obtain ⟨r, rfl⟩ := hp
  unfold prs at *
  rw [List.mapM_append, h]
  rfl
def pl (ps : List ByteArray) : List (Int × Int) := (prs ps).getD []
theorem pl_of {ps : List ByteArray} {L : List (Int × Int)} (h : prs ps = some L) : pl ps = L := by unfold pl; rw [h]; rfl
theorem split_len : ∀ (k : Nat) (s : ByteArray), (splitN k s).length ≤ k := by
  intro k
  induction k with
  | zero => intro s; simp [splitN]
  | succ k ih =>
    intro s
    simp only [splitN, List.length_cons]
    split
    · have := ih (cut2 s commaB); omega
    · simp
theorem parts_len (s : ByteArray) : (partsOf s).length ≤ s.size + 1 := by
  unfold partsOf tailOf
  split
  · exact split_len _ _
  · simp
theorem split_size : ∀ (k : Nat) (s x : ByteArray), x ∈ splitN k s → x.size ≤ s.size := by
  intro k
  induction k with
  | zero => intro s x h; simp [splitN] at h
  | succ k ih =>
    intro s x h
    simp only [splitN, List.mem_cons] at h
    rcases h with rfl | h
    · exact cut1_size _ _
    · split at h
      · have := ih _ _ h; have := cut2_size s commaB; omega
      · cases h
theorem parts_size {s x : ByteArray} (h : x ∈ partsOf s) : x.size ≤ s.size := by
  unfold partsOf tailOf at h
  split at h
  · exact split_size _ _ _ h
  · cases h

/-- The label of a text. -/
def readT (s : ByteArray) : Option (List (Int × Int)) := prs (partsOf s)

def ItemsI (w : World) (pre : List ByteArray) (X : World) : Prop :=
  ((∃ v, Boxed X w.heap.size 23 v ∧ X.ownsRow w.heap.size 35 2 v (pl pre).length (cellsOf (pl pre)) ∧ True) ∧ prs pre = some (pl pre)) ∧ Below w.heap.size w X
def ItemsP (w : World) (ch : List PanicEntry) (pre : List ByteArray) (X : World) : Prop := ch = thrown 11 ∧ prs pre = none ∧ Below w.heap.size w X
def actAt (w : World) (s x : ByteArray) : Act :=
  { tmps := #[.string s, undef, .slice none 0 0, .pointer (some ⟨w.heap.size, 0, none⟩), .string x, .string s, .func (.func 35) #[] #[.pointer (some ⟨w.heap.size + 1, 0, none⟩)], .string x, undef, undef, undef, undef, undef, undef, undef, undef, undef, undef, undef, undef, undef], defers := [] }

set_option maxRecDepth 100000 in
set_option maxHeartbeats 2000000 in
theorem body_any (n : Nat) (w W0 X : World) (hW0 : W0.heap.size = w.heap.size + 2) (l : Nat) (pre : List ByteArray) (x s : ByteArray) (hx : x.size ≤ 65536) (hlen : pre.length ≤ 65536) (hv : Vars w) (hI : ItemsI w pre X) :
    (Code.block 1 (Code.region 4 #[{ dst := some 8, op := Op.load 23 (Operand.tmp 3), type := 23, pos := "codec.go:89", after := #[], guard := none }, { dst := some 9, op := Op.move (Operand.tmp 4), type := 9, pos := "codec.go:89", after := #[], guard := none },
        { dst := some 10, op := Op.call { callee := Callee.value (Operand.func 23), args := #[Operand.tmp 9], argTypes := #[9] }, type := 35, pos := "codec.go:89", after := #[{ on := 1, ground := Ground.data }], guard := none },
        { dst := some 11, op := Op.buildSlice 23 1 #[(0, Operand.tmp 10)], type := 23, pos := "codec.go:89", after := #[{ on := 2, ground := Ground.data }], guard := none },
        { dst := some 12, op := Op.call { callee := Callee.builtin Builtin.append, args := #[Operand.tmp 8, Operand.tmp 11], argTypes := #[23, 23] }, type := 23, pos := "codec.go:89", after := #[{ on := 0, ground := Ground.data }, { on := 3, ground := Ground.data }, { on := 2, ground := Ground.chain }], guard := none },
        { dst := none, op := Op.store 23 (Operand.tmp 3) (Operand.tmp 12), type := 0, pos := "codec.go:89", after := #[{ on := 4, ground := Ground.data }, { on := 4, ground := Ground.chain }, { on := 0, ground := Ground.phase }, { on := 1, ground := Ground.phase }, { on := 2, ground := Ground.phase }, { on := 3, ground := Ground.phase }, { on := 4, ground := Ground.phase }], guard := none }] true)).wpIn (Fence.wide.inRound l) n Tryd.prog (bodyThrows W0.heap.size (ItemsI w) (ItemsP w) (pre ++ [x]) X) (actAt w s x) X := by
  obtain ⟨i0, hi, hz0, hz1, hz2⟩ := info_parts infoPair
  obtain ⟨⟨⟨v, bO, hrow, _⟩, hpre⟩, hB⟩ := hI
  have hpl := (prs_len hpre).symm
  have hmx : Tryd.prog.follows .mixedOrders = true := by kernel_rfl
  have hVX : Vars X := hv.later hB
  have cO := bO.cell
  unfold actAt
  gi_wp2
  refine region_round (S := fun _ => True) hmx (by kernel_rfl) (by rintro ⟨_, _, h⟩; exact h) trivial (fun hS => ?_)
  refine wpAnyH_take (i := 1) (v := .string x) rfl (by kernel_rfl) (by kernel_rfl) (by kernel_rfl) (fun _ _ _ h => h) (Or.inl ⟨by rfl, fun w2 hS2 => by go_simp⟩) hS ?_
  simp only [Act.put]
  cases hp : pairOf x with
  | none =>
    have HPN : Hid (prs (pre ++ [x]) = none) := by show _ = none; rw [prs_snoc, hpre]; simp [pairI, hp]
    refine wpAnyH_ready (rs := [0, 2]) (by kernel_rfl) (by simp) ?_
    refine AllReadyH.cons rfl (fun K hK => ?_) (AllReadyH.cons rfl (fun K hK => ?_) AllReadyH.nil)
    · go_simp
      refine hK.out _ _ trivial (fun _ => ?_)
      clear hK K
      refine wpAnyH_ready (rs := [2]) (by kernel_rfl) (by simp) ?_
      refine AllReadyH.cons rfl (fun K hK => ?_) AllReadyH.nil
      go_simp
      refine (pair_none x hx hp _ (hVX.drew 1)).mono ?_
      rintro e w1 ⟨rfl, hb1⟩
      have hb : Below X.heap.size X w1 := (Below.refl _ X).drew.trans hb1
      exact ⟨rfl, ⟨hb.size, fun k o _ hk _ => (hb.block k (Array.getElem?_eq_some_iff.1 hk).1).trans hk⟩, rfl, HPN.out, hB.trans (hb.mono hB.size)⟩
    · go_simp
      refine (pair_none x hx hp _ (hVX.drew 1)).mono ?_
      rintro e w1 ⟨rfl, hb1⟩
      have hb : Below X.heap.size X w1 := (Below.refl _ X).drew.trans hb1
      exact ⟨rfl, ⟨hb.size, fun k o _ hk _ => (hb.block k (Array.getElem?_eq_some_iff.1 hk).1).trans hk⟩, rfl, HPN.out, hB.trans (hb.mono hB.size)⟩
  | some q =>
    obtain ⟨u, lv⟩ := q
    have HPS' : prs (pre ++ [x]) = some (pl pre ++ [((u : Int), lv)]) := by rw [prs_snoc, hpre]; simp [pairI, hp]
    have HPL : Hid (pl (pre ++ [x]) = pl pre ++ [((u : Int), lv)]) := pl_of HPS'
    have HPS : Hid (prs (pre ++ [x]) = some (pl (pre ++ [x]))) := by show _ = _; rw [HPL.out]; exact HPS'
    have HR : Hid (∀ w1, Below X.heap.size X w1 → w1.ownsRow w.heap.size 35 2 v (pl pre).length (cellsOf (pl pre))) := fun w1 hb => (by obtain ⟨aoL, capL, rfl, hown⟩ := ownL_of hrow; exact (hown.next hb).2)
    clear HPS'
    refine wpAnyH_ready (rs := [0, 2]) (by kernel_rfl) (by simp) ?_
    refine AllReadyH.cons rfl (fun K hK => ?_) (AllReadyH.cons rfl (fun K hK => ?_) AllReadyH.nil)
    · go_simp
      refine hK.out _ _ trivial (fun _ => ?_)
      clear hK K
      refine wpAnyH_ready (rs := [2]) (by kernel_rfl) (by simp) ?_
      refine AllReadyH.cons rfl (fun K hK => ?_) AllReadyH.nil
      go_simp
      refine (pair_some x hx u lv hp _ (hVX.drew 1)).mono ?_
      rintro e w1 ⟨rfl, hb1⟩
      have hb : Below X.heap.size X w1 := (Below.refl _ X).drew.trans hb1
      have bO1 : Boxed w1 w.heap.size 23 v := (hb.block _ bO.lt).trans bO
      have hrow1 : w1.ownsRow w.heap.size 35 2 v (pl pre).length (cellsOf (pl pre)) := HR.out w1 hb
      have cO1 := bO1.cell
      refine hK.out _ _ trivial (fun _ => ?_)
      clear hK K
      refine wpAnyH_ready (rs := [3]) (by kernel_rfl) (by simp) ?_
      refine AllReadyH.cons rfl (fun K hK => ?_) AllReadyH.nil
      go_simp
      have cO3 := (bO1.alloc (.cells #[.int .u64 (u : Int), .int .i64 lv] 35)).cell
      refine hK.out _ _ trivial (fun _ => ?_)
      clear hK K
      refine wpAnyH_ready (rs := [4]) (by kernel_rfl) (by simp) ?_
      refine AllReadyH.cons rfl (fun K hK => ?_) AllReadyH.nil
      refine step_append_lies _ rfl (.tmp 8) (.tmp 11) 23 rfl w.heap.size 35 i0 (.agg #[.int .u64 0, .int .i64 0]) 2 16 Tryd.underlying23 hi hz0 hz1 hz2 rfl (by decide) v (pl pre).length (cellsOf (pl pre)) rfl (hrow1.alloc _) ⟨w1.heap.size, 0, none⟩ 1 1 [.int .u64 (u : Int), .int .i64 lv] rfl rfl (cell_two_new w1 _ _ _) (by simp [Value.oneCell']) (by omega) (by unfold maxLen; omega) (by omega) (by have := hB.size; have := hb.size; simp; omega) _ rfl ?_
      intro g1 cp1 w2 hown2 hgrow2 hat hlt2
      obtain ⟨q1, q2, q3, q4, q5, q6, _⟩ := app_back (s := w.heap.size) bO1 (by decide) hrow1 (Nat.le_trans hB.size hb.size) (Nat.le_refl _) (Nat.le_refl _) hown2 hgrow2
      refine hK.out _ _ trivial (fun _ => ?_)
      clear hK K
      refine wpAnyH_ready (rs := [5]) (by kernel_rfl) (by simp) ?_
      refine AllReadyH.cons rfl (fun K hK => ?_) AllReadyH.nil
      have cO2 := q1.cell
      have fO2 := q1.frozen
      go_simp
      refine hK.out _ _ trivial (fun _ => ?_)
      clear hK K
      refine wpAnyH_done (by kernel_rfl) ?_ _
      exact ⟨(KeepsFrom.trans ⟨hb.size, fun k o _ hk _ => (hb.block k (Array.getElem?_eq_some_iff.1 hk).1).trans hk⟩ (q4.from _)), ⟨⟨_, q2, by rw [HPL.out]; simpa [cellsOf_append, cellsOf] using q3, trivial⟩, HPS.out⟩, (hB.trans (hb.mono hB.size)).trans q5⟩
    · go_simp
      refine (pair_some x hx u lv hp _ (hVX.drew 1)).mono ?_
      rintro e w1 ⟨rfl, hb1⟩
      have hb : Below X.heap.size X w1 := (Below.refl _ X).drew.trans hb1
      have bO1 : Boxed w1 w.heap.size 23 v := (hb.block _ bO.lt).trans bO
      have hrow1 : w1.ownsRow w.heap.size 35 2 v (pl pre).length (cellsOf (pl pre)) := HR.out w1 hb
      have cO1 := bO1.cell
      refine hK.out _ _ trivial (fun _ => ?_)
      clear hK K
      refine wpAnyH_ready (rs := [0, 3]) (by kernel_rfl) (by simp) ?_
      refine AllReadyH.cons rfl (fun K hK => ?_) (AllReadyH.cons rfl (fun K hK => ?_) AllReadyH.nil)
      · go_simp
        refine hK.out _ _ trivial (fun _ => ?_)
        clear hK K
        refine wpAnyH_ready (rs := [3]) (by kernel_rfl) (by simp) ?_
        refine AllReadyH.cons rfl (fun K hK => ?_) AllReadyH.nil
        go_simp
        have cO3 := (bO1.alloc (.cells #[.int .u64 (u : Int), .int .i64 lv] 35)).cell
        refine hK.out _ _ trivial (fun _ => ?_)
        clear hK K
        refine wpAnyH_ready (rs := [4]) (by kernel_rfl) (by simp) ?_
        refine AllReadyH.cons rfl (fun K hK => ?_) AllReadyH.nil
        refine step_append_lies _ rfl (.tmp 8) (.tmp 11) 23 rfl w.heap.size 35 i0 (.agg #[.int .u64 0, .int .i64 0]) 2 16 Tryd.underlying23 hi hz0 hz1 hz2 rfl (by decide) v (pl pre).length (cellsOf (pl pre)) rfl (hrow1.alloc _) ⟨w1.heap.size, 0, none⟩ 1 1 [.int .u64 (u : Int), .int .i64 lv] rfl rfl (cell_two_new w1 _ _ _) (by simp [Value.oneCell']) (by omega) (by unfold maxLen; omega) (by omega) (by have := hB.size; have := hb.size; simp; omega) _ rfl ?_
        intro g1 cp1 w2 hown2 hgrow2 hat hlt2
        obtain ⟨q1, q2, q3, q4, q5, q6, _⟩ := app_back (s := w.heap.size) bO1 (by decide) hrow1 (Nat.le_trans hB.size hb.size) (Nat.le_refl _) (Nat.le_refl _) hown2 hgrow2
        refine hK.out _ _ trivial (fun _ => ?_)
        clear hK K
        refine wpAnyH_ready (rs := [5]) (by kernel_rfl) (by simp) ?_
        refine AllReadyH.cons rfl (fun K hK => ?_) AllReadyH.nil
        have cO2 := q1.cell
        have fO2 := q1.frozen
        go_simp
        refine hK.out _ _ trivial (fun _ => ?_)
        clear hK K
        refine wpAnyH_done (by kernel_rfl) ?_ _
        exact ⟨(KeepsFrom.trans ⟨hb.size, fun k o _ hk _ => (hb.block k (Array.getElem?_eq_some_iff.1 hk).1).trans hk⟩ (q4.from _)), ⟨⟨_, q2, by rw [HPL.out]; simpa [cellsOf_append, cellsOf] using q3, trivial⟩, HPS.out⟩, (hB.trans (hb.mono hB.size)).trans q5⟩
      · go_simp
        have cO3 := (bO1.alloc (.cells #[.int .u64 (u : Int), .int .i64 lv] 35)).cell
        refine hK.out _ _ trivial (fun _ => ?_)
        clear hK K
        refine wpAnyH_ready (rs := [0]) (by kernel_rfl) (by simp) ?_
        refine AllReadyH.cons rfl (fun K hK => ?_) AllReadyH.nil
        go_simp
        refine hK.out _ _ trivial (fun _ => ?_)
        clear hK K
        refine wpAnyH_ready (rs := [4]) (by kernel_rfl) (by simp) ?_
        refine AllReadyH.cons rfl (fun K hK => ?_) AllReadyH.nil
        refine step_append_lies _ rfl (.tmp 8) (.tmp 11) 23 rfl w.heap.size 35 i0 (.agg #[.int .u64 0, .int .i64 0]) 2 16 Tryd.underlying23 hi hz0 hz1 hz2 rfl (by decide) v (pl pre).length (cellsOf (pl pre)) rfl (hrow1.alloc _) ⟨w1.heap.size, 0, none⟩ 1 1 [.int .u64 (u : Int), .int .i64 lv] rfl rfl (cell_two_new w1 _ _ _) (by simp [Value.oneCell']) (by omega) (by unfold maxLen; omega) (by omega) (by have := hB.size; have := hb.size; simp; omega) _ rfl ?_
        intro g1 cp1 w2 hown2 hgrow2 hat hlt2
        obtain ⟨q1, q2, q3, q4, q5, q6, _⟩ := app_back (s := w.heap.size) bO1 (by decide) hrow1 (Nat.le_trans hB.size hb.size) (Nat.le_refl _) (Nat.le_refl _) hown2 hgrow2
        refine hK.out _ _ trivial (fun _ => ?_)
        clear hK K
        refine wpAnyH_ready (rs := [5]) (by kernel_rfl) (by simp) ?_
        refine AllReadyH.cons rfl (fun K hK => ?_) AllReadyH.nil
        have cO2 := q1.cell
        have fO2 := q1.frozen
        go_simp
        refine hK.out _ _ trivial (fun _ => ?_)
        clear hK K
        refine wpAnyH_done (by kernel_rfl) ?_ _
        exact ⟨(KeepsFrom.trans ⟨hb.size, fun k o _ hk _ => (hb.block k (Array.getElem?_eq_some_iff.1 hk).1).trans hk⟩ (q4.from _)), ⟨⟨_, q2, by rw [HPL.out]; simpa [cellsOf_append, cellsOf] using q3, trivial⟩, HPS.out⟩, (hB.trans (hb.mono hB.size)).trans q5⟩
end Go.Proofs.YtbmfehkahjeobaaDoor
