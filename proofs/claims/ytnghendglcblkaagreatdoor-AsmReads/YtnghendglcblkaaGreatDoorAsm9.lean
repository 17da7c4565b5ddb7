/-
  PROVED HERE: what Put of package asm returns when it is called: a program's words, or where its first error is, and which (a contract over this translation). At most 4000 lines.
-/
import Derived.Test.YtnghendglcblkaaGreatDoorAsmP
import Derived.Test.YtnghendglcblkaaGreatDoorInsRound
import Derived.Deep.AppendLies
import Derived.RangeFuncBox
namespace Go.Proofs.YtnghendglcblkaaGreatDoor
open Go.RowKit Go.Shelf
set_option linter.unusedVariables false
attribute [local go_sem] Oper.semAt_some
open Asm

/-- Words as values. -/
def wV (ws : List Int) : List Value := ws.map (Value.int .u64 ·)
theorem infoU64 : (Tryz.prog.info? 55).map (fun i => (i.zero, i.size, i.bytes)) = some (some (.int .u64 0), 1, 8) := by kernel_rfl
theorem ownsRow_base {W : World} {b b' : Nat} {e : TypeId} {size : Nat} {v : Value} {k : Nat} {xs : List Value} (hb : b' ≤ b) (h : W.ownsRow b e size v k xs) : W.ownsRow b' e size v k xs := by
  refine ⟨h.1, ?_⟩
  rcases h.2 with h0 | ⟨g, c, cur, h1, h2, h3⟩
  · exact .inl h0
  · exact .inr ⟨g, c, cur, h1, Nat.le_trans hb h2, h3⟩
theorem row_next {W W' : World} {b : Nat} {e : TypeId} {size : Nat} {v : Value} {k : Nat} {xs : List Value} (h : W.ownsRow b e size v k xs) (hb : Below W.heap.size W W') : W'.ownsRow b e size v k xs :=
  h.kept (below_grown hb) (by cases v.ownBlock <;> simp)
/-- A row of words is no block of another type. -/
theorem row_type {W : World} {b g : Nat} {e t : TypeId} {size : Nat} {v : Value} {k : Nat} {xs : List Value} {cs : Array Value} {fr : Nat × Nat} (h : W.ownsRow b e size v k xs) (hg : some g = v.ownBlock) (hc : W.heap[g]? = some (.cells cs t fr)) (ht : t ≠ e) : False := by
  rcases h.2 with ⟨rfl, _⟩ | ⟨g', c, cur, rfl, _, h3, _⟩
  · cases hg
  · cases hg
    rw [h3] at hc
    cases hc
    exact ht rfl
theorem row_other {W : World} {b D : Nat} {e : TypeId} {size : Nat} {v : Value} {k : Nat} {xs : List Value} {o : Obj} (h : W.ownsRow b e size v k xs) (hd : W.heap[D]? = some o) (hc : o.isCells = false) : v.ownBlock ≠ some D := by
  intro hg
  rcases h.2 with ⟨rfl, _⟩ | ⟨g', c, cur, rfl, _, h3, _⟩
  · cases hg
  · cases hg
    rw [h3] at hd
    cases hd
    cases hc
theorem row_slice {W : World} {b : Nat} {e : TypeId} {size : Nat} {v : Value} {k : Nat} {xs : List Value} (h : W.ownsRow b e size v k xs) : ∃ ao c, v = .slice ao k c := by
  rcases h.2 with ⟨rfl, h0⟩ | ⟨g', c, cur, rfl, _, h3, _⟩
  · exact ⟨none, 0, by rw [h0]⟩
  · exact ⟨_, _, rfl⟩
theorem cell_one_new (W : World) (x : Value) (t : TypeId) : ∀ (j : Nat) (u : Value), [x][j]? = some u → (W.alloc (.cells #[x] t)).cell? ((⟨W.heap.size, 0, none⟩ : Addr).add j) = some u := by
  intro j u hu
  cases j with
  | zero => cases hu; exact (Boxed.new W t x).cell
  | succ j => cases hu
theorem Ib.kept {W W' : World} {B : Nat} {op a b c i : Int} {row : Option Nat} (h : Ib W B op a b c i) (hg : W.grownBy W' row) (hne : some B = row → False) : Ib W' B op a b c i := (hg.block B h.lt hne).trans h
/-- Behind an append to a row in a box, and the store back. -/
theorem app_back {W w1 : World} {s r B : Nat} {t e : TypeId} {size : Nat} {v v' : Value} {k m : Nat} {xs ys : List Value} {tmp : Obj} (hv : Boxed W B t v) (hte : t ≠ e) (hrow : W.ownsRow r e size v k xs) (hs : s ≤ W.heap.size) (hsr : s ≤ r) (hB : s ≤ B)
    (hown' : w1.ownsRow r e size v' m ys) (hgrow : (W.alloc tmp).grownBy w1 v.ownBlock) :
    Boxed w1 B t v ∧ Boxed (w1.setCell ⟨B, 0, none⟩ v') B t v' ∧ (w1.setCell ⟨B, 0, none⟩ v').ownsRow r e size v' m ys ∧ KeepsOthers W (w1.setCell ⟨B, 0, none⟩ v') ∧ Below s W (w1.setCell ⟨B, 0, none⟩ v') ∧
    (∀ B' t' u, Boxed W B' t' u → t' ≠ e → B' ≠ B → Boxed (w1.setCell ⟨B, 0, none⟩ v') B' t' u) ∧ (∀ b, b < W.heap.size → b < r → b ≠ B → (w1.setCell ⟨B, 0, none⟩ v').heap[b]? = W.heap[b]?) := by
  obtain ⟨h1, h2, _, h4, h5⟩ := hv.appended hte (ownsRow_base hsr hrow) hs hB (ownsRow_base hsr hown') hgrow
  refine ⟨h1, h2, hown'.kept (grownBy_setCell' w1 B v') (.inr (h1.not_row hte hown').symm), h4, h5, ?_, ?_⟩
  · intro B' t' u hu ht hne
    exact ((hu.alloc tmp).kept hgrow (hu.not_row ht hrow)).other hne _
  intro b hbW hbr hne
  rw [Below.heap_setCell w1 ⟨B, 0, none⟩ _ b hne]
  refine (hgrow.block b (by simp; omega) (fun e' => ?_)).trans (Below.heap_alloc W tmp b hbW)
  have := (hrow.lt b e'.symm).1
  omega
/-- The words of instructions. -/
def wX (l : List Ln) (pre : List Nat) : List Int := pre.map (wrdX l)
def lastX (pre : List Nat) : Nat := pre.getLast?.getD 0
theorem wX_snoc (l : List Ln) (pre : List Nat) (x : Nat) : wX l (pre ++ [x]) = wX l pre ++ [wrdX l x] := by simp [wX]
theorem lastX_snoc (pre : List Nat) (x : Nat) : lastX (pre ++ [x]) = x := by simp [lastX]
theorem wV_snoc (ws : List Int) (x : Int) : wV (ws ++ [x]) = wV ws ++ [.int .u64 x] := by simp [wV]
set_option maxRecDepth 100000 in
set_option maxHeartbeats 2000000 in
theorem put_any (ao : Option Addr) (n cap : Nat) (l : List Ln) (w : World) (hn : n ≤ 4000) (h : Lns w.heap.size w ao n cap l) (hok : Okl l) :
    Calls Tryz.prog 8 #[.slice ao n cap] w fun e w' => Below w.heap.size w w' ∧ ∃ v, e = .returned (.tuple #[v, .int .i64 ((putK l : Nat) : Int), .int .i64 ((putE l : Nat) : Int)]) ∧ w'.ownsRow w.heap.size 55 1 v (putW l).length (wV (putW l)) := by
  have hlen : Hid (l.length = n) := h.1
  refine (callsIn_wide (n := 5)).1 ?_
  refine callsIn_of_wp_marks Tryz.func8 rfl trivial ?_ rfl
  simp only [Tryz.ntmps8, List.size_toArray, List.length_cons, List.length_nil, Nat.reduceAdd, Nat.reduceSub, Array.replicate_succ, Array.replicate_zero, List.push_toArray, List.append_toArray, List.nil_append, List.cons_append]
  have hB4 : Below w.heap.size w ((((w.alloc (.cells #[.slice ao n cap] 23)).alloc (.cells #[.slice none 0 0] 31)).alloc (.cells #[.int .i64 0] 3)).alloc (.cells #[.int .i64 0] 24)) := ((((Below.refl _ w).alloc (Nat.le_refl _) _).alloc (by simp) _).alloc (by simp; omega) _).alloc (by simp; omega) _
  have bL := (((Boxed.new w 23 (.slice ao n cap)).alloc (.cells #[.slice none 0 0] 31)).alloc (.cells #[.int .i64 0] 3)).alloc (.cells #[.int .i64 0] 24)
  have bV := ((Boxed.new (w.alloc (.cells #[.slice ao n cap] 23)) 31 (.slice none 0 0)).alloc (.cells #[.int .i64 0] 3)).alloc (.cells #[.int .i64 0] 24)
  have bK := (Boxed.new ((w.alloc (.cells #[.slice ao n cap] 23)).alloc (.cells #[.slice none 0 0] 31)) 3 (.int .i64 0)).alloc (.cells #[.int .i64 0] 24)
  have bE := Boxed.new (((w.alloc (.cells #[.slice ao n cap] 23)).alloc (.cells #[.slice none 0 0] 31)).alloc (.cells #[.int .i64 0] 3)) 24 (.int .i64 0)
  simp only [World.size_alloc] at bL bV bK bE
  have hsz : ((((w.alloc (.cells #[.slice ao n cap] 23)).alloc (.cells #[.slice none 0 0] 31)).alloc (.cells #[.int .i64 0] 3)).alloc (.cells #[.int .i64 0] 24)).heap.size = w.heap.size + 4 := by simp
  gi_wp2_with (refine ⟨trivial, ?_⟩; gi_at_call 15)
  obtain ⟨W4, hW4⟩ : ∃ W4, (((w.alloc (.cells #[.slice ao n cap] 23)).alloc (.cells #[.slice none 0 0] 31)).alloc (.cells #[.int .i64 0] 3)).alloc (.cells #[.int .i64 0] 24) = W4 := ⟨_, rfl⟩
  rw [hW4] at hB4 bL bV bK bE hsz ⊢
  clear hW4
  refine (callsIn_wide.2 (marksOf_any ao n cap l W4 hn ((h.later hB4).wide hB4.size) hok)).mono ?_
  rintro e w1 ⟨hb1, ⟨hsc, M, rfl, hM, hMge⟩ | ⟨k, er, hsc, hle, rfl⟩⟩
  · have hB1 : Below w.heap.size w w1 := hB4.trans (hb1.mono hB4.size)
    have hlt : w.heap.size + 4 ≤ w1.heap.size := by have := hb1.size; omega
    have bL1 := ((Boxed.next bL hb1).alloc (.cells #[.map (some M)] 39)).alloc (.cells #[.slice none 0 0] 31)
    have bV1 := ((Boxed.next bV hb1).alloc (.cells #[.map (some M)] 39)).alloc (.cells #[.slice none 0 0] 31)
    have bK1 := ((Boxed.next bK hb1).alloc (.cells #[.map (some M)] 39)).alloc (.cells #[.slice none 0 0] 31)
    have bE1 := ((Boxed.next bE hb1).alloc (.cells #[.map (some M)] 39)).alloc (.cells #[.slice none 0 0] 31)
    obtain ⟨G, hG⟩ : ∃ G, w1.heap.size = G := ⟨_, rfl⟩
    have bM1 := ((Boxed.new w1 39 (.map (some M))).alloc (.cells #[.slice none 0 0] 31)).alloc (.cells #[.slice ao n cap] 23)
    have bW1 := (Boxed.new (w1.alloc (.cells #[.map (some M)] 39)) 31 (.slice none 0 0)).alloc (.cells #[.slice ao n cap] 23)
    have bI1 := Boxed.new ((w1.alloc (.cells #[.map (some M)] 39)).alloc (.cells #[.slice none 0 0] 31)) 23 (.slice ao n cap)
    have bL0 := bL1.alloc (.cells #[.slice ao n cap] 23)
    have bV0 := bV1.alloc (.cells #[.slice ao n cap] 23)
    have bK0 := bK1.alloc (.cells #[.slice ao n cap] 23)
    have bE0 := bE1.alloc (.cells #[.slice ao n cap] 23)
    have hM0 : MapAt (((w1.alloc (.cells #[.map (some M)] 39)).alloc (.cells #[.slice none 0 0] 31)).alloc (.cells #[.slice ao n cap] 23)) M (mks l 0) := hM.next ((((Below.refl _ w1).alloc (Nat.le_refl _) _).alloc (by simp) _).alloc (by simp; omega) _)
    have hB0 : Below w.heap.size w (((w1.alloc (.cells #[.map (some M)] 39)).alloc (.cells #[.slice none 0 0] 31)).alloc (.cells #[.slice ao n cap] 23)) := ((hB1.alloc hB1.size _).alloc (by simp; omega) _).alloc (by simp; omega) _
    have hs0 : (((w1.alloc (.cells #[.map (some M)] 39)).alloc (.cells #[.slice none 0 0] 31)).alloc (.cells #[.slice ao n cap] 23)).heap.size = G + 3 := by simp [hG]
    have hMlt : M < G := by rw [← hG]; exact hM.lt
    simp only [World.size_alloc] at bM1 bW1 bI1
    have cL := bL1.cell
    gi_wp2_with (refine ⟨trivial, ?_⟩; gi_at_call 16; refine (callsIn_wide.2 (instr_any _ _ _ _)).mono ?_; rintro e w2 ⟨rfl, rfl⟩)
    obtain ⟨W0, hW0⟩ : ∃ W0, ((w1.alloc (.cells #[.map (some M)] 39)).alloc (.cells #[.slice none 0 0] 31)).alloc (.cells #[.slice ao n cap] 23) = W0 := ⟨_, rfl⟩
    rw [hW0] at bM1 bW1 bI1 bL0 bV0 bK0 bE0 hM0 hB0 hs0
    rw [hW0]
    rw [hG] at bM1 bW1 bI1 hlt
    clear hW0 bL1 bV1 bK1 bE1 bL bV bK bE cL hM hb1 hB1 hMge hG hB4 hsz
    have hLs : Lns w.heap.size W0 ao n cap l := h.later hB0
    refine wpIn_rangeFunc_ownH rfl (by omega) (gf := 41) (lb := #[.pointer (some ⟨G + 1 + 1, 0, none⟩)]) rfl trivial (enters_of Tryz.func41 (by kernel_rfl) rfl)
      (instr_stops _ (by omega) (G + 1 + 1) w.heap.size ao n cap (by omega) l W0 bI1 hLs hB0.size) keepsK_t (keepsK_b (fun b hb => by omega)) (Below.refl _ _) (fun _ => rfl)
      (fun (pre : List Nat) W => ((∃ v, Boxed W (G + 1) 31 v ∧ W.ownsRow (G + 3) 55 1 v (wX l pre).length (wV (wX l pre)) ∧ True) ∧ (∀ x ∈ pre, errX l x = 0)) ∧ Below (G + 1) W0 W)
      (fun cd (pre : List Nat) W => (((cd = .ret ∧ pre ≠ [] ∧ (∀ x ∈ pre.dropLast, errX l x = 0) ∧ errX l (lastX pre) ≠ 0) ∧ Boxed W (w.heap.size + 1) 31 (.slice none 0 0)) ∧ (Boxed W (w.heap.size + 1 + 1) 3 (.int .i64 ((lineOf l (lastX pre) : Nat) : Int)) ∧ Boxed W (w.heap.size + 1 + 1 + 1) 24 (.int .i64 ((errX l (lastX pre) : Nat) : Int)))) ∧ Below w.heap.size w W)
      (OwnFrom.and (OwnFrom.and (Own.from (holdsRow_own (G + 3) (G + 1) 31 55 1 (fun pre => (wX l pre).length) (fun pre => wV (wX l pre)) (fun _ _ => True)) _) (ownFrom_pure _ _)) (ownFrom_below (by omega) (by omega)))
      (fun cd => OwnFrom.and (OwnFrom.and (OwnFrom.and (ownFrom_pure _ _) (Own.from (boxed_own _ _ _) _)) (OwnFrom.and (Own.from (boxed_own _ _ _) _) (Own.from (boxed_own _ _ _) _))) (ownFrom_below (Nat.le_refl _) (by omega)))
      ⟨⟨⟨_, bW1, ⟨rfl, .inl ⟨rfl, rfl⟩⟩, trivial⟩, by simp⟩, Below.refl _ _⟩
      (fun x a' W => a' = { tmps := #[.slice ao n cap, .pointer (some ⟨w.heap.size, 0, none⟩), .pointer (some ⟨w.heap.size + 1, 0, none⟩), .pointer (some ⟨w.heap.size + 1 + 1, 0, none⟩), .pointer (some ⟨w.heap.size + 1 + 1 + 1, 0, none⟩), .pointer (some ⟨G, 0, none⟩), .int .i64 0, .int .i64 0, .pointer (some ⟨G + 1, 0, none⟩), .int .i64 ((plcOf l x : Nat) : Int), .int .i64 ((lineOf l x : Nat) : Int), undef, undef, .tuple #[.map (some M), .int .i64 0, .int .i64 0], .slice ao n cap, .tuple #[.map (some M), .int .i64 0, .int .i64 0], .map (some M), .int .i64 0, .int .i64 0, .int .i64 0, .bool false, undef, undef, .slice ao n cap, .func (.func 41) #[] #[.pointer (some ⟨G + 1 + 1, 0, none⟩)], .int .i64 ((plcOf l x : Nat) : Int), .int .i64 ((lineOf l x : Nat) : Int), undef, undef, undef, undef, undef, undef, undef, undef, undef, undef, undef, undef, undef, undef, undef, undef, undef, undef, undef, undef], defers := [] })
      (fun x a' _ X Y row hs hg hr => hs)
      ?assign ?body ?done ?stop
    case assign =>
      rintro yl pre x W K hI hK
      dsimp only [encL]
      gi_wp2
      exact hK _ _ (KeepsFrom.refl _ _) (Keeps.refl _ _) hI rfl
    case body =>
      rintro yl pre x a' X hl ⟨r, hr⟩ ⟨⟨⟨v, bW2, hrow, _⟩, hz⟩, hBX⟩ rfl hlt2
      have hmx : Tryz.prog.follows .mixedOrders = true := by kernel_rfl
      have hl0 : 0 < l.length := by have := cnt_le l; omega
      have hkk : lineOf l x < l.length := lineOf_lt hl0
      have hpp : plcOf l x ≤ l.length := Nat.min_le_right _ _
      have hlw : w.heap.size ≤ G := by omega
      have hXs : G + 3 ≤ X.heap.size := by have := hBX.size; omega
      have hBw : Below w.heap.size w X := hB0.trans (hBX.mono (by omega))
      have bLX : Boxed X w.heap.size 23 (.slice ao n cap) := (hBX.block _ (by omega)).trans bL0
      have bMX : Boxed X G 39 (.map (some M)) := (hBX.block _ (by omega)).trans bM1
      have bVX : Boxed X (w.heap.size + 1) 31 (.slice none 0 0) := (hBX.block _ (by omega)).trans bV0
      have bKX : Boxed X (w.heap.size + 1 + 1) 3 (.int .i64 0) := (hBX.block _ (by omega)).trans bK0
      have bEX : Boxed X (w.heap.size + 1 + 1 + 1) 24 (.int .i64 0) := (hBX.block _ (by omega)).trans bE0
      have hMX : MapAt X M (mks l 0) := (hBX.block _ (by omega)).trans hM0
      have hLX : Lns w.heap.size X ao n cap l := h.later hBw
      have HE : Hid (errX l x = err2 l (plcOf l x) (l.getD (lineOf l x) default)) := rfl
      have HW : Hid (wrdX l x = wrd l (plcOf l x) (l.getD (lineOf l x) default)) := rfl
      have hl4 : l.length ≤ 65536 := by rw [hlen.out]; omega
      have HL : Hid (∀ y, lineOf l x = y → lineOf l (lastX (pre ++ [x])) = y) := fun y e => by rw [lastX_snoc]; exact e
      have HQ : Hid (errX l (lastX (pre ++ [x])) = errX l x) := by show _ = _; rw [lastX_snoc]
      obtain ⟨kk, hk0⟩ : ∃ kk, lineOf l x = kk := ⟨_, rfl⟩
      obtain ⟨p, hp0⟩ : ∃ p, plcOf l x = p := ⟨_, rfl⟩
      have HL2 : Hid (lineOf l (lastX (pre ++ [x])) = kk) := HL.out kk hk0
      rw [hk0] at hkk HE HW ⊢
      rw [hp0] at hpp HE HW ⊢
      clear hk0 hp0 HL
      have hks : kk < n := by rw [← hlen.out]; exact hkk
      obtain ⟨b, off, m', op, a, b', c, i', to, rfl, hb, hx, c0, c1, c2, c3, c4, c5, c6⟩ := LnsD.at hLX hks
      have hset := fun W2 => settled_any ⟨m', op, a, b', c, i', to⟩ (hok.at hkk hx.out).1 p (by omega) l hl4 M W2
      rw [hx.out] at HE HW
      unfold lnV at hset
      dsimp only at hset
      have HA : Hid (wrdX l x = Ins.wordI op a b' c (aim l p ⟨m', op, a, b', c, i', to⟩)) := HW
      clear HW
      obtain ⟨im, him⟩ : ∃ im, aim l p ⟨m', op, a, b', c, i', to⟩ = im := ⟨_, rfl⟩
      simp only [him] at hset
      rw [him] at HA
      clear him
      have hbw : b < w.heap.size := hb
      have hWd : Below X.heap.size X X.drew := (Below.refl _ X).drew
      have hcl : ∀ W2, Below X.heap.size X W2 → W2.cell? ⟨w.heap.size, 0, none⟩ = some (.slice (some ⟨b, off, none⟩) n cap) := fun W2 hb2 => (Boxed.next bLX hb2).cell
      have hcm : ∀ W2, Below X.heap.size X W2 → W2.cell? ⟨G, 0, none⟩ = some (.map (some M)) := fun W2 hb2 => (Boxed.next bMX hb2).cell
      have hcc : ∀ W2, Below X.heap.size X W2 → W2.cell? ⟨b, off + kk * 7, none⟩ = some (.string m') ∧ W2.cell? ⟨b, off + kk * 7 + 1, none⟩ = some (.int .i64 op) ∧ W2.cell? ⟨b, off + kk * 7 + 2, none⟩ = some (.int .i64 a) ∧ W2.cell? ⟨b, off + kk * 7 + 3, none⟩ = some (.int .i64 b') ∧ W2.cell? ⟨b, off + kk * 7 + 4, none⟩ = some (.int .i64 c) ∧ W2.cell? ⟨b, off + kk * 7 + 5, none⟩ = some (.int .i32 i') ∧ W2.cell? ⟨b, off + kk * 7 + 6, none⟩ = some (.string to) := fun W2 hb2 => ⟨(hb2.cell (by show b < _; omega)).trans c0, (hb2.cell (by show b < _; omega)).trans c1, (hb2.cell (by show b < _; omega)).trans c2, (hb2.cell (by show b < _; omega)).trans c3, (hb2.cell (by show b < _; omega)).trans c4, (hb2.cell (by show b < _; omega)).trans c5, (hb2.cell (by show b < _; omega)).trans c6⟩
      clear c0 c1 c2 c3 c4 c5 c6
      gi_wp2
      rename_i K hK
      have rest_err : ∀ (er : Nat), Hid (err2 l p ⟨m', op, a, b', c, i', to⟩ = er ∧ er ≠ 0) → er ≤ 13 → ∀ (Wc : World) (Bi : Nat), Below X.heap.size X Wc → Ib Wc Bi 0 0 0 0 0 → X.heap.size ≤ Bi → K { tmps := #[.slice (some ⟨b, off, none⟩) n cap, .pointer (some ⟨w.heap.size, 0, none⟩), .pointer (some ⟨w.heap.size + 1, 0, none⟩), .pointer (some ⟨w.heap.size + 1 + 1, 0, none⟩), .pointer (some ⟨w.heap.size + 1 + 1 + 1, 0, none⟩), .pointer (some ⟨G, 0, none⟩), .int .i64 0, .int .i64 0, .pointer (some ⟨G + 1, 0, none⟩), .int .i64 (p : Int), .int .i64 (kk : Int), .pointer (some ⟨Bi, 0, none⟩), .int .i64 (er : Int), .tuple #[.map (some M), .int .i64 0, .int .i64 0], .slice (some ⟨b, off, none⟩) n cap, .tuple #[.map (some M), .int .i64 0, .int .i64 0], .map (some M), .int .i64 0, .int .i64 0, .int .i64 0, .bool false, undef, undef, .slice (some ⟨b, off, none⟩) n cap, .func (.func 41) #[] #[.pointer (some ⟨G + 1 + 1, 0, none⟩)], .int .i64 (p : Int), .int .i64 (kk : Int), .tuple #[.agg #[.int .i64 0, .int .i64 0, .int .i64 0, .int .i64 0, .int .i32 0], .int .i64 (er : Int)], .slice (some ⟨b, off, none⟩) n cap, .int .i64 (kk : Int), .pointer (some ⟨b, off + kk * 7, none⟩), .agg #[.string m', .int .i64 op, .int .i64 a, .int .i64 b', .int .i64 c, .int .i32 i', .string to], .int .i64 (p : Int), .map (some M), .tuple #[.agg #[.int .i64 0, .int .i64 0, .int .i64 0, .int .i64 0, .int .i32 0], .int .i64 (er : Int)], .agg #[.int .i64 0, .int .i64 0, .int .i64 0, .int .i64 0, .int .i32 0], .int .i64 (er : Int), undef, undef, undef, undef, undef, undef, undef, undef, undef, undef], defers := [] } Wc := by
        intro er hE hle Wc Bi hbc hIc hBi
        refine hK _ _ ?_
        clear hK K hset
        have hne : ¬ er = 0 := hE.out.2
        have bV1 := Boxed.next bVX hbc
        have bK1 := (Boxed.next bKX hbc).other (B' := w.heap.size + 1) (by omega) (.slice none 0 0)
        have bE1 := ((Boxed.next bEX hbc).other (B' := w.heap.size + 1) (by omega) (.slice none 0 0)).other (B' := w.heap.size + 1 + 1) (by omega) (.int .i64 (kk : Int))
        have cV := bV1.cell
        have cK := bK1.cell
        have cE := bE1.cell
        have fV := bV1.frozen
        have fK := bK1.frozen
        have fE := bE1.frozen
        gi_wp2
        have gV := ((bV1.set (.slice none 0 0)).other (B' := w.heap.size + 1 + 1) (by omega) (.int .i64 (kk : Int))).other (B' := w.heap.size + 1 + 1 + 1) (by omega) (.int .i64 (er : Int))
        have gK := (bK1.set (.int .i64 (kk : Int))).other (B' := w.heap.size + 1 + 1 + 1) (by omega) (.int .i64 (er : Int))
        have gE := bE1.set (.int .i64 (er : Int))
        have hko : KeepsOthers X Wc := ⟨hbc.size, fun k o hk _ => (hbc.block k (Array.getElem?_eq_some_iff.1 hk).1).trans hk⟩
        have hBc := hBw.trans (hbc.mono hBw.size)
        have hq : errX l (lastX (pre ++ [x])) = er := HQ.out.trans (HE.out.trans hE.out.1)
        refine ⟨(((hko.trans (KeepsOthers.setCell _ _ _)).trans (KeepsOthers.setCell _ _ _)).trans (KeepsOthers.setCell _ _ _)).from _, ⟨⟨⟨rfl, by simp, by rw [List.dropLast_concat]; exact hz, by rw [hq]; exact hne⟩, gV⟩, by rw [HL2.out]; exact gK, by rw [hq]; exact gE⟩, ((hBc.setCell (p := ⟨w.heap.size + 1, 0, none⟩) (by show _ ≤ w.heap.size + 1; omega) _).setCell (p := ⟨w.heap.size + 1 + 1, 0, none⟩) (by show _ ≤ w.heap.size + 1 + 1; omega) _).setCell (p := ⟨w.heap.size + 1 + 1 + 1, 0, none⟩) (by show _ ≤ w.heap.size + 1 + 1 + 1; omega) _⟩
      have rest_ok : Hid (err2 l p ⟨m', op, a, b', c, i', to⟩ = 0) → Hid (-2147483648 ≤ im ∧ im < 2147483648) → ∀ (Wc : World) (Bi : Nat), Below X.heap.size X Wc → Ib Wc Bi op a b' c im → X.heap.size ≤ Bi → K { tmps := #[.slice (some ⟨b, off, none⟩) n cap, .pointer (some ⟨w.heap.size, 0, none⟩), .pointer (some ⟨w.heap.size + 1, 0, none⟩), .pointer (some ⟨w.heap.size + 1 + 1, 0, none⟩), .pointer (some ⟨w.heap.size + 1 + 1 + 1, 0, none⟩), .pointer (some ⟨G, 0, none⟩), .int .i64 0, .int .i64 0, .pointer (some ⟨G + 1, 0, none⟩), .int .i64 (p : Int), .int .i64 (kk : Int), .pointer (some ⟨Bi, 0, none⟩), .int .i64 0, .tuple #[.map (some M), .int .i64 0, .int .i64 0], .slice (some ⟨b, off, none⟩) n cap, .tuple #[.map (some M), .int .i64 0, .int .i64 0], .map (some M), .int .i64 0, .int .i64 0, .int .i64 0, .bool false, undef, undef, .slice (some ⟨b, off, none⟩) n cap, .func (.func 41) #[] #[.pointer (some ⟨G + 1 + 1, 0, none⟩)], .int .i64 (p : Int), .int .i64 (kk : Int), .tuple #[.agg #[.int .i64 op, .int .i64 a, .int .i64 b', .int .i64 c, .int .i32 im], .int .i64 0], .slice (some ⟨b, off, none⟩) n cap, .int .i64 (kk : Int), .pointer (some ⟨b, off + kk * 7, none⟩), .agg #[.string m', .int .i64 op, .int .i64 a, .int .i64 b', .int .i64 c, .int .i32 i', .string to], .int .i64 (p : Int), .map (some M), .tuple #[.agg #[.int .i64 op, .int .i64 a, .int .i64 b', .int .i64 c, .int .i32 im], .int .i64 0], .agg #[.int .i64 op, .int .i64 a, .int .i64 b', .int .i64 c, .int .i32 im], .int .i64 0, undef, undef, undef, undef, undef, undef, undef, undef, undef, undef], defers := [] } Wc := by
        intro hE hI Wc Bi hbc hIc hBi
        refine hK _ _ ?_
        clear rest_err
        clear hK K hset
        obtain ⟨i0, hi, hz0, hz1, hz2⟩ := info_parts infoU64
        have hlen3 : (wX l pre).length ≤ 4000 := by unfold wX; rw [List.length_map]; have := cnt_le l; have := hlen.out; omega
        have hen := fun W2 => encode_any op a b' c im hI.out.1 hI.out.2 W2
        obtain ⟨wd, hwd⟩ : ∃ wd, Ins.wordI op a b' c im = wd := ⟨_, rfl⟩
        simp only [hwd] at hen
        rw [hwd] at HA
        clear hwd
        have bWc : Boxed Wc (G + 1) 31 v := Boxed.next bW2 hbc
        have hrowc : Wc.ownsRow (G + 3) 55 1 v (wX l pre).length (wV (wX l pre)) := row_next hrow hbc
        have cW := bWc.cell
        have hWcd : Below Wc.heap.size Wc Wc.drew := (Below.refl _ Wc).drew
        have hIcd : Ib Wc.drew Bi op a b' c im := hIc
        gi_wp2
        refine region_round (S := fun W2 => Ib W2 Bi op a b' c im) hmx (by kernel_rfl) (by rintro ⟨_, _, h⟩; exact h) hIcd (fun hS => ?_)
        refine wpAnyH_take (i := 1) (v := .agg #[.int .i64 op, .int .i64 a, .int .i64 b', .int .i64 c, .int .i32 im]) rfl (by kernel_rfl) (by kernel_rfl) (by kernel_rfl) (fun _ _ _ h => h) (Or.inl ⟨by rfl, fun w2 hS2 => by obtain ⟨e0, e1, e2, e3, e4⟩ := Ib.cells hS2; go_simp⟩) hS ?_
        simp only [Act.put]
        refine wpAnyH_ready (rs := [0, 2]) (by kernel_rfl) (by simp) ?_
        refine AllReadyH.cons rfl (fun K hK => ?_) (AllReadyH.cons rfl (fun K hK => ?_) AllReadyH.nil)
        · go_simp
          refine hK.out _ _ hS (fun hS => ?_)
          clear hK K
          refine wpAnyH_ready (rs := [2]) (by kernel_rfl) (by simp) ?_
          refine AllReadyH.cons rfl (fun K hK => ?_) AllReadyH.nil
          go_simp
          refine (hen _).mono ?_
          rintro e w4 ⟨rfl, hb4'⟩
          have hb4 : Below Wc.heap.size Wc w4 := hWcd.trans hb4'
          have hbX : Below X.heap.size X w4 := hbc.trans (hb4.mono hbc.size)
          have hI4 := hIc.next hb4
          have bW4 := Boxed.next bWc hb4
          have hrow4 := row_next hrowc hb4
          refine hK.out _ _ hI4 (fun hS => ?_)
          clear hK K
          refine wpAnyH_ready (rs := [3]) (by kernel_rfl) (by simp) ?_
          refine AllReadyH.cons rfl (fun K hK => ?_) AllReadyH.nil
          go_simp
          have hIn := hI4.alloc (.cells #[.int .u64 wd] 55)
          refine hK.out _ _ hIn (fun hS => ?_)
          clear hK K
          refine wpAnyH_ready (rs := [4]) (by kernel_rfl) (by simp) ?_
          refine AllReadyH.cons rfl (fun K hK => ?_) AllReadyH.nil
          refine step_append_lies _ rfl (.tmp 41) (.tmp 44) 31 rfl (G + 3) 55 i0 (.int .u64 0) 1 8 Tryz.underlying31 hi hz0 hz1 hz2 rfl (by decide) v (wX l pre).length (wV (wX l pre)) rfl (hrow4.alloc _) ⟨w4.heap.size, 0, none⟩ 1 1 [.int .u64 wd] rfl rfl (cell_one_new w4 _ _) (by simp [Value.oneCell']) (by omega) (by unfold maxLen; omega) (by omega) (by have := hb4.size; have := hbc.size; simp; omega) _ rfl ?_
          intro g1 cp1 w5 hown5 hgrow5 hat hlt5
          obtain ⟨q1, q2, q3, q4, q5, q6, q7⟩ := app_back (s := G + 1) bW4 (by decide) hrow4 (by have := hb4.size; have := hbc.size; omega) (by omega) (Nat.le_refl _) hown5 hgrow5
          have hI5 : Ib w5 Bi op a b' c im := ((hI4.alloc (.cells #[.int .u64 wd] 55)).kept hgrow5 (fun e => row_type hrow4 e hI4 (by decide)))
          refine hK.out _ _ hI5 (fun hS => ?_)
          clear hK K
          refine wpAnyH_ready (rs := [5]) (by kernel_rfl) (by simp) ?_
          refine AllReadyH.cons rfl (fun K hK => ?_) AllReadyH.nil
          have cO2 := q1.cell
          have fO2 := q1.frozen
          go_simp
          have hI6 := hI5.other (g := G + 1) (j := 0) (x := .slice (some ⟨g1, 0, none⟩) ((wX l pre).length + 1) cp1) (by omega)
          refine hK.out _ _ hI6 (fun hS => ?_)
          clear hK K
          refine wpAnyH_done (by kernel_rfl) ?_ _
          have hko : KeepsOthers X w4 := ⟨hbX.size, fun k o hk _ => (hbX.block k (Array.getElem?_eq_some_iff.1 hk).1).trans hk⟩
          refine ⟨(hko.trans q4).from _, ⟨(hko.trans q4).walks, fun k hk => ?_⟩, ⟨⟨_, q2, ?_, trivial⟩, ?_⟩, ?_⟩
          · rw [q7 k (by have := hbX.size; omega) (by omega) (by omega)]; exact hbX.block k (by omega)
          · rw [wX_snoc, wV_snoc, HA.out]; simpa using q3
          · intro y hy; rcases List.mem_append.1 hy with hy | hy
            · exact hz y hy
            · rw [List.mem_singleton.1 hy, HE.out]; exact hE.out
          · exact hBX.trans ((hbX.mono (by omega)).trans q5)
        · go_simp
          refine (hen _).mono ?_
          rintro e w4 ⟨rfl, hb4'⟩
          have hb4 : Below Wc.heap.size Wc w4 := hWcd.trans hb4'
          have hbX : Below X.heap.size X w4 := hbc.trans (hb4.mono hbc.size)
          have hI4 := hIc.next hb4
          have bW4 := Boxed.next bWc hb4
          have hrow4 := row_next hrowc hb4
          have cW4 := bW4.cell
          refine hK.out _ _ hI4 (fun hS => ?_)
          clear hK K
          refine wpAnyH_ready (rs := [0, 3]) (by kernel_rfl) (by simp) ?_
          refine AllReadyH.cons rfl (fun K hK => ?_) (AllReadyH.cons rfl (fun K hK => ?_) AllReadyH.nil)
          · go_simp
            refine hK.out _ _ hI4 (fun hS => ?_)
            clear hK K
            refine wpAnyH_ready (rs := [3]) (by kernel_rfl) (by simp) ?_
            refine AllReadyH.cons rfl (fun K hK => ?_) AllReadyH.nil
            go_simp
            have hIn := hI4.alloc (.cells #[.int .u64 wd] 55)
            refine hK.out _ _ hIn (fun hS => ?_)
            clear hK K
            refine wpAnyH_ready (rs := [4]) (by kernel_rfl) (by simp) ?_
            refine AllReadyH.cons rfl (fun K hK => ?_) AllReadyH.nil
            refine step_append_lies _ rfl (.tmp 41) (.tmp 44) 31 rfl (G + 3) 55 i0 (.int .u64 0) 1 8 Tryz.underlying31 hi hz0 hz1 hz2 rfl (by decide) v (wX l pre).length (wV (wX l pre)) rfl (hrow4.alloc _) ⟨w4.heap.size, 0, none⟩ 1 1 [.int .u64 wd] rfl rfl (cell_one_new w4 _ _) (by simp [Value.oneCell']) (by omega) (by unfold maxLen; omega) (by omega) (by have := hb4.size; have := hbc.size; simp; omega) _ rfl ?_
            intro g1 cp1 w5 hown5 hgrow5 hat hlt5
            obtain ⟨q1, q2, q3, q4, q5, q6, q7⟩ := app_back (s := G + 1) bW4 (by decide) hrow4 (by have := hb4.size; have := hbc.size; omega) (by omega) (Nat.le_refl _) hown5 hgrow5
            have hI5 : Ib w5 Bi op a b' c im := ((hI4.alloc (.cells #[.int .u64 wd] 55)).kept hgrow5 (fun e => row_type hrow4 e hI4 (by decide)))
            refine hK.out _ _ hI5 (fun hS => ?_)
            clear hK K
            refine wpAnyH_ready (rs := [5]) (by kernel_rfl) (by simp) ?_
            refine AllReadyH.cons rfl (fun K hK => ?_) AllReadyH.nil
            have cO2 := q1.cell
            have fO2 := q1.frozen
            go_simp
            have hI6 := hI5.other (g := G + 1) (j := 0) (x := .slice (some ⟨g1, 0, none⟩) ((wX l pre).length + 1) cp1) (by omega)
            refine hK.out _ _ hI6 (fun hS => ?_)
            clear hK K
            refine wpAnyH_done (by kernel_rfl) ?_ _
            have hko : KeepsOthers X w4 := ⟨hbX.size, fun k o hk _ => (hbX.block k (Array.getElem?_eq_some_iff.1 hk).1).trans hk⟩
            refine ⟨(hko.trans q4).from _, ⟨(hko.trans q4).walks, fun k hk => ?_⟩, ⟨⟨_, q2, ?_, trivial⟩, ?_⟩, ?_⟩
            · rw [q7 k (by have := hbX.size; omega) (by omega) (by omega)]; exact hbX.block k (by omega)
            · rw [wX_snoc, wV_snoc, HA.out]; simpa using q3
            · intro y hy; rcases List.mem_append.1 hy with hy | hy
              · exact hz y hy
              · rw [List.mem_singleton.1 hy, HE.out]; exact hE.out
            · exact hBX.trans ((hbX.mono (by omega)).trans q5)
          · go_simp
            have hIn := hI4.alloc (.cells #[.int .u64 wd] 55)
            have cW5 := (bW4.alloc (.cells #[.int .u64 wd] 55)).cell
            refine hK.out _ _ hIn (fun hS => ?_)
            clear hK K
            refine wpAnyH_ready (rs := [0]) (by kernel_rfl) (by simp) ?_
            refine AllReadyH.cons rfl (fun K hK => ?_) AllReadyH.nil
            go_simp
            refine hK.out _ _ hIn (fun hS => ?_)
            clear hK K
            refine wpAnyH_ready (rs := [4]) (by kernel_rfl) (by simp) ?_
            refine AllReadyH.cons rfl (fun K hK => ?_) AllReadyH.nil
            refine step_append_lies _ rfl (.tmp 41) (.tmp 44) 31 rfl (G + 3) 55 i0 (.int .u64 0) 1 8 Tryz.underlying31 hi hz0 hz1 hz2 rfl (by decide) v (wX l pre).length (wV (wX l pre)) rfl (hrow4.alloc _) ⟨w4.heap.size, 0, none⟩ 1 1 [.int .u64 wd] rfl rfl (cell_one_new w4 _ _) (by simp [Value.oneCell']) (by omega) (by unfold maxLen; omega) (by omega) (by have := hb4.size; have := hbc.size; simp; omega) _ rfl ?_
            intro g1 cp1 w5 hown5 hgrow5 hat hlt5
            obtain ⟨q1, q2, q3, q4, q5, q6, q7⟩ := app_back (s := G + 1) bW4 (by decide) hrow4 (by have := hb4.size; have := hbc.size; omega) (by omega) (Nat.le_refl _) hown5 hgrow5
            have hI5 : Ib w5 Bi op a b' c im := ((hI4.alloc (.cells #[.int .u64 wd] 55)).kept hgrow5 (fun e => row_type hrow4 e hI4 (by decide)))
            refine hK.out _ _ hI5 (fun hS => ?_)
            clear hK K
            refine wpAnyH_ready (rs := [5]) (by kernel_rfl) (by simp) ?_
            refine AllReadyH.cons rfl (fun K hK => ?_) AllReadyH.nil
            have cO2 := q1.cell
            have fO2 := q1.frozen
            go_simp
            have hI6 := hI5.other (g := G + 1) (j := 0) (x := .slice (some ⟨g1, 0, none⟩) ((wX l pre).length + 1) cp1) (by omega)
            refine hK.out _ _ hI6 (fun hS => ?_)
            clear hK K
            refine wpAnyH_done (by kernel_rfl) ?_ _
            have hko : KeepsOthers X w4 := ⟨hbX.size, fun k o hk _ => (hbX.block k (Array.getElem?_eq_some_iff.1 hk).1).trans hk⟩
            refine ⟨(hko.trans q4).from _, ⟨(hko.trans q4).walks, fun k hk => ?_⟩, ⟨⟨_, q2, ?_, trivial⟩, ?_⟩, ?_⟩
            · rw [q7 k (by have := hbX.size; omega) (by omega) (by omega)]; exact hbX.block k (by omega)
            · rw [wX_snoc, wV_snoc, HA.out]; simpa using q3
            · intro y hy; rcases List.mem_append.1 hy with hy | hy
              · exact hz y hy
              · rw [List.mem_singleton.1 hy, HE.out]; exact hE.out
            · exact hBX.trans ((hbX.mono (by omega)).trans q5)
      refine region_round (S := fun W2 => Below X.heap.size X W2) hmx (by kernel_rfl) (by rintro ⟨_, _, h⟩; exact h) hWd (fun hS => ?_)
      refine wpAnyH_take (i := 0) (v := .slice (some ⟨b, off, none⟩) n cap) rfl (by kernel_rfl) (by kernel_rfl) (by kernel_rfl) (fun _ _ _ h => h) (Or.inl ⟨by rfl, fun w2 hS2 => by have e0 := hcl w2 hS2; go_simp⟩) hS ?_
      simp only [Act.put]
      refine wpAnyH_take (i := 1) (v := .int .i64 (kk : Int)) rfl (by kernel_rfl) (by kernel_rfl) (by kernel_rfl) (fun _ _ _ h => h) (Or.inl ⟨by rfl, fun w2 hS2 => by go_simp⟩) hS ?_
      simp only [Act.put]
      refine wpAnyH_take (i := 2) (v := .pointer (some ⟨b, off + kk * 7, none⟩)) rfl (by kernel_rfl) (by kernel_rfl) (by kernel_rfl) (fun _ _ _ h => h) (Or.inl ⟨by rfl, fun w2 hS2 => by go_simp⟩) hS ?_
      simp only [Act.put]
      refine wpAnyH_take (i := 3) (v := .agg #[.string m', .int .i64 op, .int .i64 a, .int .i64 b', .int .i64 c, .int .i32 i', .string to]) rfl (by kernel_rfl) (by kernel_rfl) (by kernel_rfl) (fun _ _ _ h => h) (Or.inl ⟨by rfl, fun w2 hS2 => by obtain ⟨e0, e1, e2, e3, e4, e5, e6⟩ := hcc w2 hS2; go_simp⟩) hS ?_
      simp only [Act.put]
      refine wpAnyH_take (i := 4) (v := .int .i64 (p : Int)) rfl (by kernel_rfl) (by kernel_rfl) (by kernel_rfl) (fun _ _ _ h => h) (Or.inl ⟨by rfl, fun w2 hS2 => by go_simp⟩) hS ?_
      simp only [Act.put]
      refine wpAnyH_take (i := 5) (v := .map (some M)) rfl (by kernel_rfl) (by kernel_rfl) (by kernel_rfl) (fun _ _ _ h => h) (Or.inl ⟨by rfl, fun w2 hS2 => by have e0 := hcm w2 hS2; go_simp⟩) hS ?_
      simp only [Act.put]
      refine wpAnyH_ready (rs := [6, 10]) (by kernel_rfl) (by simp) ?_
      refine AllReadyH.cons rfl (fun K hK => ?_) (AllReadyH.cons rfl (fun K hK => ?_) AllReadyH.nil)
      · go_simp
        refine (hset _ (hMX.next hWd)).mono ?_
        rintro e w3 ⟨hb3, (⟨hE, hI, rfl⟩ | ⟨er, hE, hle, rfl⟩)⟩
        · have rest_ok := rest_ok hE hI
          have hS : Below X.heap.size X w3 := hWd.trans hb3
          refine hK.out _ _ hS (fun _ => ?_)
          clear hK K
          refine wpAnyH_take (i := 7) (v := .tuple #[.agg #[.int .i64 op, .int .i64 a, .int .i64 b', .int .i64 c, .int .i32 im], .int .i64 0]) rfl (by kernel_rfl) (by kernel_rfl) (by kernel_rfl) (fun _ _ _ h => h) (Or.inl ⟨by rfl, fun w2 hS2 => by go_simp⟩) hS ?_
          simp only [Act.put]
          refine wpAnyH_take (i := 8) (v := .agg #[.int .i64 op, .int .i64 a, .int .i64 b', .int .i64 c, .int .i32 im]) rfl (by kernel_rfl) (by kernel_rfl) (by kernel_rfl) (fun _ _ _ h => h) (Or.inl ⟨by rfl, fun w2 hS2 => by go_simp⟩) hS ?_
          simp only [Act.put]
          refine wpAnyH_take (i := 9) (v := .int .i64 0) rfl (by kernel_rfl) (by kernel_rfl) (by kernel_rfl) (fun _ _ _ h => h) (Or.inl ⟨by rfl, fun w2 hS2 => by go_simp⟩) hS ?_
          simp only [Act.put]
          refine wpAnyH_ready (rs := [10]) (by kernel_rfl) (by simp) ?_
          refine AllReadyH.cons rfl (fun K hK => ?_) AllReadyH.nil
          go_simp
          have hS : Below X.heap.size X (w3.alloc (.cells #[.int .i64 0, .int .i64 0, .int .i64 0, .int .i64 0, .int .i32 0] 35)) := hS.alloc hS.size _
          refine hK.out _ _ hS (fun _ => ?_)
          clear hK K
          refine wpAnyH_ready (rs := [11]) (by kernel_rfl) (by simp) ?_
          refine AllReadyH.cons rfl (fun K hK => ?_) AllReadyH.nil
          go_simp
          have hI3 := Ib.new w3 op a b' c im
          have hS : Below X.heap.size X (w3.alloc (.cells #[.int .i64 op, .int .i64 a, .int .i64 b', .int .i64 c, .int .i32 im] 35)) := (hWd.trans hb3).alloc (hWd.trans hb3).size _
          refine hK.out _ _ hS (fun _ => ?_)
          clear hK K
          refine wpAnyH_take (i := 12) (v := .int .i64 0) rfl (by kernel_rfl) (by kernel_rfl) (by kernel_rfl) (fun _ _ _ h => h) (Or.inl ⟨by rfl, fun w2 hS2 => by go_simp⟩) hS ?_
          simp only [Act.put]
          refine wpAnyH_done (by kernel_rfl) ?_ _
          exact rest_ok _ _ hS hI3 (hWd.trans hb3).size
        · have hS : Below X.heap.size X w3 := hWd.trans hb3
          refine hK.out _ _ hS (fun _ => ?_)
          clear hK K
          refine wpAnyH_take (i := 7) (v := .tuple #[.agg #[.int .i64 0, .int .i64 0, .int .i64 0, .int .i64 0, .int .i32 0], .int .i64 (er : Int)]) rfl (by kernel_rfl) (by kernel_rfl) (by kernel_rfl) (fun _ _ _ h => h) (Or.inl ⟨by rfl, fun w2 hS2 => by go_simp⟩) hS ?_
          simp only [Act.put]
          refine wpAnyH_take (i := 8) (v := .agg #[.int .i64 0, .int .i64 0, .int .i64 0, .int .i64 0, .int .i32 0]) rfl (by kernel_rfl) (by kernel_rfl) (by kernel_rfl) (fun _ _ _ h => h) (Or.inl ⟨by rfl, fun w2 hS2 => by go_simp⟩) hS ?_
          simp only [Act.put]
          refine wpAnyH_take (i := 9) (v := .int .i64 (er : Int)) rfl (by kernel_rfl) (by kernel_rfl) (by kernel_rfl) (fun _ _ _ h => h) (Or.inl ⟨by rfl, fun w2 hS2 => by go_simp⟩) hS ?_
          simp only [Act.put]
          refine wpAnyH_ready (rs := [10]) (by kernel_rfl) (by simp) ?_
          refine AllReadyH.cons rfl (fun K hK => ?_) AllReadyH.nil
          go_simp
          have hS : Below X.heap.size X (w3.alloc (.cells #[.int .i64 0, .int .i64 0, .int .i64 0, .int .i64 0, .int .i32 0] 35)) := hS.alloc hS.size _
          refine hK.out _ _ hS (fun _ => ?_)
          clear hK K
          refine wpAnyH_ready (rs := [11]) (by kernel_rfl) (by simp) ?_
          refine AllReadyH.cons rfl (fun K hK => ?_) AllReadyH.nil
          go_simp
          have hI3 := Ib.new w3 0 0 0 0 0
          have hS : Below X.heap.size X (w3.alloc (.cells #[.int .i64 0, .int .i64 0, .int .i64 0, .int .i64 0, .int .i32 0] 35)) := (hWd.trans hb3).alloc (hWd.trans hb3).size _
          refine hK.out _ _ hS (fun _ => ?_)
          clear hK K
          refine wpAnyH_take (i := 12) (v := .int .i64 (er : Int)) rfl (by kernel_rfl) (by kernel_rfl) (by kernel_rfl) (fun _ _ _ h => h) (Or.inl ⟨by rfl, fun w2 hS2 => by go_simp⟩) hS ?_
          simp only [Act.put]
          refine wpAnyH_done (by kernel_rfl) ?_ _
          exact rest_err er hE hle _ _ hS hI3 (hWd.trans hb3).size
      · go_simp
        have hWa : Below X.heap.size X (X.drew.alloc (.cells #[.int .i64 0, .int .i64 0, .int .i64 0, .int .i64 0, .int .i32 0] 35)) := hWd.alloc (Nat.le_refl _) _
        have hIa : Ib (X.drew.alloc (.cells #[.int .i64 0, .int .i64 0, .int .i64 0, .int .i64 0, .int .i32 0] 35)) X.heap.size 0 0 0 0 0 := Ib.new X.drew 0 0 0 0 0
        refine hK.out _ _ hWa (fun hS => ?_)
        clear hK K
        refine wpAnyH_ready (rs := [6]) (by kernel_rfl) (by simp) ?_
        refine AllReadyH.cons rfl (fun K hK => ?_) AllReadyH.nil
        go_simp
        refine (hset _ (hMX.next hWa)).mono ?_
        rintro e w3 ⟨hb3, (⟨hE, hI, rfl⟩ | ⟨er, hE, hle, rfl⟩)⟩
        · have rest_ok := rest_ok hE hI
          have hS : Below X.heap.size X w3 := hWa.trans (hb3.mono hWa.size)
          refine hK.out _ _ hS (fun _ => ?_)
          clear hK K
          refine wpAnyH_take (i := 7) (v := .tuple #[.agg #[.int .i64 op, .int .i64 a, .int .i64 b', .int .i64 c, .int .i32 im], .int .i64 0]) rfl (by kernel_rfl) (by kernel_rfl) (by kernel_rfl) (fun _ _ _ h => h) (Or.inl ⟨by rfl, fun w2 hS2 => by go_simp⟩) hS ?_
          simp only [Act.put]
          refine wpAnyH_take (i := 8) (v := .agg #[.int .i64 op, .int .i64 a, .int .i64 b', .int .i64 c, .int .i32 im]) rfl (by kernel_rfl) (by kernel_rfl) (by kernel_rfl) (fun _ _ _ h => h) (Or.inl ⟨by rfl, fun w2 hS2 => by go_simp⟩) hS ?_
          simp only [Act.put]
          refine wpAnyH_take (i := 9) (v := .int .i64 0) rfl (by kernel_rfl) (by kernel_rfl) (by kernel_rfl) (fun _ _ _ h => h) (Or.inl ⟨by rfl, fun w2 hS2 => by go_simp⟩) hS ?_
          simp only [Act.put]
          have hI3 := hIa.next hb3
          obtain ⟨z0, z1, z2, z3, z4⟩ := hI3.cells
          have zf := hI3.frozen
          refine wpAnyH_ready (rs := [11]) (by kernel_rfl) (by simp) ?_
          refine AllReadyH.cons rfl (fun K hK => ?_) AllReadyH.nil
          go_simp
          have hI4 := hI3.set5 op a b' c im
          have hS : Below X.heap.size X (set5 w3 X.heap.size op a b' c im) := set5_from hS (Nat.le_refl _) _ _ _ _ _
          refine hK.out _ _ hS (fun _ => ?_)
          clear hK K
          refine wpAnyH_take (i := 12) (v := .int .i64 0) rfl (by kernel_rfl) (by kernel_rfl) (by kernel_rfl) (fun _ _ _ h => h) (Or.inl ⟨by rfl, fun w2 hS2 => by go_simp⟩) hS ?_
          simp only [Act.put]
          refine wpAnyH_done (by kernel_rfl) ?_ _
          exact rest_ok _ _ hS hI4 (Nat.le_refl _)
        · have hS : Below X.heap.size X w3 := hWa.trans (hb3.mono hWa.size)
          refine hK.out _ _ hS (fun _ => ?_)
          clear hK K
          refine wpAnyH_take (i := 7) (v := .tuple #[.agg #[.int .i64 0, .int .i64 0, .int .i64 0, .int .i64 0, .int .i32 0], .int .i64 (er : Int)]) rfl (by kernel_rfl) (by kernel_rfl) (by kernel_rfl) (fun _ _ _ h => h) (Or.inl ⟨by rfl, fun w2 hS2 => by go_simp⟩) hS ?_
          simp only [Act.put]
          refine wpAnyH_take (i := 8) (v := .agg #[.int .i64 0, .int .i64 0, .int .i64 0, .int .i64 0, .int .i32 0]) rfl (by kernel_rfl) (by kernel_rfl) (by kernel_rfl) (fun _ _ _ h => h) (Or.inl ⟨by rfl, fun w2 hS2 => by go_simp⟩) hS ?_
          simp only [Act.put]
          refine wpAnyH_take (i := 9) (v := .int .i64 (er : Int)) rfl (by kernel_rfl) (by kernel_rfl) (by kernel_rfl) (fun _ _ _ h => h) (Or.inl ⟨by rfl, fun w2 hS2 => by go_simp⟩) hS ?_
          simp only [Act.put]
          have hI3 := hIa.next hb3
          obtain ⟨z0, z1, z2, z3, z4⟩ := hI3.cells
          have zf := hI3.frozen
          refine wpAnyH_ready (rs := [11]) (by kernel_rfl) (by simp) ?_
          refine AllReadyH.cons rfl (fun K hK => ?_) AllReadyH.nil
          go_simp
          have hI4 := hI3.set5 0 0 0 0 0
          have hS : Below X.heap.size X (set5 w3 X.heap.size 0 0 0 0 0) := set5_from hS (Nat.le_refl _) _ _ _ _ _
          refine hK.out _ _ hS (fun _ => ?_)
          clear hK K
          refine wpAnyH_take (i := 12) (v := .int .i64 (er : Int)) rfl (by kernel_rfl) (by kernel_rfl) (by kernel_rfl) (fun _ _ _ h => h) (Or.inl ⟨by rfl, fun w2 hS2 => by go_simp⟩) hS ?_
          simp only [Act.put]
          refine wpAnyH_done (by kernel_rfl) ?_ _
          exact rest_err er hE hle _ _ hS hI4 (Nat.le_refl _)
    case done =>
      rintro D ys W hD rfl ⟨⟨⟨v, bW2, hrow, _⟩, hz⟩, hBX⟩ hK
      obtain ⟨aw, cw, rfl⟩ := row_slice hrow
      have hr : Hid (putW l = wX l (List.range (cnt l)) ∧ putK l = 0 ∧ putE l = 0) := put_words hsc.out (fun y hy => hz y (List.mem_range.2 hy))
      have hBw : Below w.heap.size w W := hB0.trans (hBX.mono (by omega))
      have bV1 : Boxed W (w.heap.size + 1) 31 (.slice none 0 0) := (hBX.block _ (by omega)).trans bV0
      have bK1 : Boxed (W.setCell ⟨w.heap.size + 1, 0, none⟩ (.slice aw (wX l (List.range (cnt l))).length cw)) (w.heap.size + 1 + 1) 3 (.int .i64 0) := Boxed.other ((hBX.block _ (by omega)).trans bK0) (by omega) _
      have bE1 : Boxed ((W.setCell ⟨w.heap.size + 1, 0, none⟩ (.slice aw (wX l (List.range (cnt l))).length cw)).setCell ⟨w.heap.size + 1 + 1, 0, none⟩ (.int .i64 0)) (w.heap.size + 1 + 1 + 1) 24 (.int .i64 0) := Boxed.other (Boxed.other ((hBX.block _ (by omega)).trans bE0) (by omega) _) (by omega) _
      have cW := bW2.cell
      have cV := bV1.cell
      have cK := bK1.cell
      have cE := bE1.cell
      have fV := bV1.frozen
      have fK := bK1.frozen
      have fE := bE1.frozen
      gi_wp2
      have gV := ((bV1.set (.slice aw (wX l (List.range (cnt l))).length cw)).other (B' := w.heap.size + 1 + 1) (by omega) (.int .i64 0)).other (B' := w.heap.size + 1 + 1 + 1) (by omega) (.int .i64 0)
      have gK := (bK1.set (.int .i64 0)).other (B' := w.heap.size + 1 + 1 + 1) (by omega) (.int .i64 0)
      have gE := bE1.set (.int .i64 0)
      have hrow1 := ((hrow.kept (grownBy_setCell' W (w.heap.size + 1) (.slice aw (wX l (List.range (cnt l))).length cw)) (.inr (fun e => by have := (hrow.lt _ e).1; omega))).kept (grownBy_setCell' _ (w.heap.size + 1 + 1) (.int .i64 0)) (.inr (fun e => by have := (hrow.lt _ e).1; omega))).kept (grownBy_setCell' _ (w.heap.size + 1 + 1 + 1) (.int .i64 0)) (.inr (fun e => by have := (hrow.lt _ e).1; omega))
      have hBf := ((hBw.setCell (p := ⟨w.heap.size + 1, 0, none⟩) (by show _ ≤ w.heap.size + 1; omega) (.slice aw (wX l (List.range (cnt l))).length cw)).setCell (p := ⟨w.heap.size + 1 + 1, 0, none⟩) (by show _ ≤ w.heap.size + 1 + 1; omega) (.int .i64 0)).setCell (p := ⟨w.heap.size + 1 + 1 + 1, 0, none⟩) (by show _ ≤ w.heap.size + 1 + 1 + 1; omega) (.int .i64 0)
      have hK' := (((KeepsOthers.setCell W ⟨w.heap.size + 1, 0, none⟩ (.slice aw (wX l (List.range (cnt l))).length cw)).trans (KeepsOthers.setCell _ ⟨w.heap.size + 1 + 1, 0, none⟩ (.int .i64 0))).trans (KeepsOthers.setCell _ ⟨w.heap.size + 1 + 1 + 1, 0, none⟩ (.int .i64 0))).same D _ hK rfl
      refine ⟨by simp, .inl ⟨_, _, rfl, run_takeDeferred hK', ?_⟩⟩
      have kV := cell_kept gV.cell (grownBy_putObj' _ D (.deferred none)) (fun r e => by cases e; exact ⟨_, hK', rfl⟩)
      have kK := cell_kept gK.cell (grownBy_putObj' _ D (.deferred none)) (fun r e => by cases e; exact ⟨_, hK', rfl⟩)
      have kE := cell_kept gE.cell (grownBy_putObj' _ D (.deferred none)) (fun r e => by cases e; exact ⟨_, hK', rfl⟩)
      refine ⟨.tuple #[(.slice aw (wX l (List.range (cnt l))).length cw), .int .i64 0, .int .i64 0], ?_, hBf.trans (belowK_b (w := w) (Nat.le_refl _) _ D _ _ (by omega) hK' rfl rfl), (.slice aw (wX l (List.range (cnt l))).length cw), by rw [hr.out.2.1, hr.out.2.2]; rfl, ?_⟩
      · simp [results, Tryz.f8, go_sem, kV, kK, kE]
      · rw [hr.out.1]
        exact ownsRow_base (by omega) (hrow1.kept (grownBy_putObj' _ D (.deferred none)) (.inr (row_other hrow1 hK' rfl)))
    case stop =>
      rintro D cd pre W hD hpre ⟨⟨⟨⟨rfl, hne, hz, hx⟩, bV2⟩, bK2, bE2⟩, hBX⟩ hK
      obtain ⟨j, hj, rfl⟩ : ∃ j, j < cnt l ∧ pre = List.range (j + 1) := by
        have h1 := List.prefix_iff_eq_take.1 hpre
        have h2 : pre.length ≤ cnt l := by have := hpre.length_le; rwa [List.length_range] at this
        have h3 : 0 < pre.length := List.length_pos_iff.2 hne
        refine ⟨pre.length - 1, by omega, ?_⟩
        rw [show pre.length - 1 + 1 = pre.length by omega]
        rw [h1]
        simp [List.take_range]
      rw [List.range_succ, List.dropLast_concat] at hz
      rw [List.range_succ, lastX_snoc] at hx bK2 bE2
      have hr : Hid (putW l = [] ∧ putK l = lineOf l j ∧ putE l = errX l j) := put_second hsc.out hj (fun y hy => hz y (List.mem_range.2 hy)) hx
      gi_wp2
      refine ⟨by simp, .inl ⟨_, _, rfl, run_takeDeferred hK, ?_⟩⟩
      have kV := cell_kept bV2.cell (grownBy_putObj' _ D (.deferred none)) (fun r e => by cases e; exact ⟨_, hK, rfl⟩)
      have kK := cell_kept bK2.cell (grownBy_putObj' _ D (.deferred none)) (fun r e => by cases e; exact ⟨_, hK, rfl⟩)
      have kE := cell_kept bE2.cell (grownBy_putObj' _ D (.deferred none)) (fun r e => by cases e; exact ⟨_, hK, rfl⟩)
      refine ⟨.tuple #[.slice none 0 0, .int .i64 ((lineOf l j : Nat) : Int), .int .i64 ((errX l j : Nat) : Int)], ?_, hBX.trans (belowK_b (w := w) (Nat.le_refl _) W D _ _ (by omega) hK rfl rfl), .slice none 0 0, by rw [hr.out.2.1, hr.out.2.2], ?_⟩
      · simp [results, Tryz.f8, go_sem, kV, kK, kE]
      · rw [hr.out.1]; exact ⟨rfl, .inl ⟨rfl, rfl⟩⟩
  · have bV1 := (Boxed.next bV hb1).alloc (.cells #[.map none] 39)
    have bK1 := ((Boxed.next bK hb1).alloc (.cells #[.map none] 39)).other (B' := w.heap.size + 1) (by omega) (.slice none 0 0)
    have bE1 := (((Boxed.next bE hb1).alloc (.cells #[.map none] 39)).other (B' := w.heap.size + 1) (by omega) (.slice none 0 0)).other (B' := w.heap.size + 1 + 1) (by omega) (.int .i64 (k : Int))
    have cV := bV1.cell
    have cK := bK1.cell
    have cE := bE1.cell
    have fV := bV1.frozen
    have fK := bK1.frozen
    have fE := bE1.frozen
    have hB1 : Below w.heap.size w w1 := hB4.trans (hb1.mono hB4.size)
    have hr : Hid (putW l = [] ∧ putK l = k ∧ putE l = er) := by
      have h1 := hsc.out
      unfold putW putK putE put
      rw [if_pos (by rw [h1.1]; exact h1.2), h1.1]
      exact ⟨rfl, rfl, rfl⟩
    have hne : ¬ er = 0 := hsc.out.2
    gi_wp2
    have gV := (((bV1.set (.slice none 0 0)).other (B' := w.heap.size + 1 + 1) (by omega) (.int .i64 (k : Int))).other (B' := w.heap.size + 1 + 1 + 1) (by omega) (.int .i64 (er : Int))).cell
    have gK := ((bK1.set (.int .i64 (k : Int))).other (B' := w.heap.size + 1 + 1 + 1) (by omega) (.int .i64 (er : Int))).cell
    have gE := (bE1.set (.int .i64 (er : Int))).cell
    refine ⟨.tuple #[.slice none 0 0, .int .i64 (k : Int), .int .i64 (er : Int)], ?_, ?_, .slice none 0 0, by rw [hr.out.2.1, hr.out.2.2], ?_⟩
    · simp [results, Tryz.f8, go_sem, gV, gK, gE]
    · exact (((hB1.alloc hB1.size _).setCell (p := ⟨w.heap.size + 1, 0, none⟩) (by show _ ≤ w.heap.size + 1; omega) _).setCell (p := ⟨w.heap.size + 1 + 1, 0, none⟩) (by show _ ≤ w.heap.size + 1 + 1; omega) _).setCell (p := ⟨w.heap.size + 1 + 1 + 1, 0, none⟩) (by show _ ≤ w.heap.size + 1 + 1 + 1; omega) _
    · rw [hr.out.1]; exact ⟨rfl, .inl ⟨rfl, rfl⟩⟩
end Go.Proofs.YtnghendglcblkaaGreatDoor
