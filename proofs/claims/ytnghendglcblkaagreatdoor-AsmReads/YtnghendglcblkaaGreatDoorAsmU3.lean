/-
  PROVED HERE: what read of package curtilageref10 returns at a text that is no mark (a contract over this translation). Texts of at most 65536 bytes, not empty.
-/
import Derived.Test.YtnghendglcblkaaGreatDoorAsmU2
import Derived.Test.YtnghendglcblkaaGreatDoorAsmV5
import Derived.Deep.DeepCutAuto
import Derived.Deep.QuietTactic
namespace Go.Proofs.YtnghendglcblkaaGreatDoor
open Go.RowKit Go.Shelf
set_option linter.unusedVariables false
open Asm

theorem wSt_size : ∀ (l : List UInt8) (D : List (List UInt8)) (c : List UInt8) (m : Nat), (∀ d ∈ D, d.length ≤ m) → c.length ≤ m → (∀ d ∈ (l.foldl wStep (D, c)).1, d.length ≤ m + l.length) ∧ (l.foldl wStep (D, c)).2.length ≤ m + l.length
  | [], D, c, m, hD, hc => ⟨hD, hc⟩
  | x :: l, D, c, m, hD, hc => by
    rw [List.foldl_cons]
    by_cases hx : x = 32
    · rw [show wStep (D, c) x = (D ++ [c], []) by unfold wStep; rw [if_pos hx]]
      obtain ⟨h1, h2⟩ := wSt_size l (D ++ [c]) [] (m + 1) (fun d hd => by rcases List.mem_append.1 hd with h | h; exact Nat.le_succ_of_le (hD d h); rw [List.mem_singleton.1 h]; omega) (by simp)
      rw [List.length_cons]
      exact ⟨fun d hd => by have := h1 d hd; omega, by omega⟩
    · rw [show wStep (D, c) x = (D, c ++ [x]) by unfold wStep; rw [if_neg hx]]
      obtain ⟨h1, h2⟩ := wSt_size l D (c ++ [x]) (m + 1) (fun d hd => Nat.le_succ_of_le (hD d hd)) (by simp; omega)
      rw [List.length_cons]
      exact ⟨fun d hd => by have := h1 d hd; omega, by omega⟩
theorem w_size (s : ByteArray) (k : Nat) : ((wAll s).getD k ⟨#[]⟩).size ≤ s.size := by
  have h := wSt_size (bl s) [] [] 0 (fun d hd => by cases hd) (by simp)
  rw [List.getD_eq_getElem?_getD]
  cases hk : (wAll s)[k]? with
  | none => exact Nat.zero_le _
  | some t =>
    have ht := List.mem_of_getElem? hk
    unfold wAll at ht
    obtain ⟨d, hd, rfl⟩ := List.mem_map.1 ht
    have hb : (sb d).size = d.length := rfl
    show (sb d).size ≤ _
    rw [hb, ← bl_len]
    rcases List.mem_append.1 hd with hd | hd
    · have := h.1 d hd; simpa using this
    · rw [List.mem_singleton.1 hd]; have := h.2; simpa [wSt] using this
section
variable {s : ByteArray} {x0 : Ln}
theorem pl_words (h : PL s x0) : wAll s = nmS x0.op :: ((Ins.shp x0.op).map (pOf x0)).map sb := by rw [← h.2.2]; exact line_wAll h.1
theorem pl_len (h : PL s x0) : (wAll s).length = (Ins.shp x0.op).length + 1 := by rw [pl_words h]; simp
theorem pl_name (h : PL s x0) : (wAll s).getD 0 ⟨#[]⟩ = nmS x0.op := by rw [pl_words h]; rfl
theorem pl_word (h : PL s x0) {j : Nat} (hj : j < (Ins.shp x0.op).length) : (wAll s).getD (j + 1) ⟨#[]⟩ = sb (pOf x0 (Ins.shp x0.op)[j]) := by
  rw [pl_words h, List.getD_cons_succ, List.getD_eq_getElem?_getD, List.getElem?_map, List.getElem?_map, List.getElem?_eq_getElem hj]
  rfl
/-- What the first k operations' names tell of the text's. -/
def Opd (s : ByteArray) (k : Nat) (xo : Int) : Prop := ∀ x0, PL s x0 → xo = if x0.op < (k : Int) then x0.op else 0
theorem Opd.zero (s : ByteArray) : Opd s 0 0 := fun x0 h => by
  obtain ⟨k, _, e⟩ := ins_op h.1
  rw [if_neg (by omega)]
theorem Opd.hit {s : ByteArray} {k : Nat} {xo : Int} (hk : k < 26) (h : Opd s k xo) (e : nmS (k : Int) = (wAll s).getD 0 ⟨#[]⟩) : Opd s (k + 1) (k : Int) := fun x0 hp => by
  obtain ⟨m, hm, em⟩ := ins_op hp.1
  rw [pl_name hp, em] at e
  have := nm_eq hk hm e
  subst this
  rw [em, if_pos (by omega)]
theorem Opd.miss {s : ByteArray} {k : Nat} {xo : Int} (h : Opd s k xo) (e : nmS (k : Int) ≠ (wAll s).getD 0 ⟨#[]⟩) : Opd s (k + 1) xo := fun x0 hp => by
  have h1 := h x0 hp
  have : x0.op ≠ (k : Int) := fun e2 => e (by rw [pl_name hp, e2])
  rw [h1]
  by_cases h2 : x0.op < (k : Int)
  · rw [if_pos h2, if_pos (by omega)]
  · rw [if_neg h2, if_neg (by omega)]
theorem Opd.all {s : ByteArray} {xo : Int} (h : Opd s 26 xo) {x0 : Ln} (hp : PL s x0) : xo = x0.op := by
  obtain ⟨m, hm, em⟩ := ins_op hp.1
  have := h x0 hp
  rw [if_pos (by omega)] at this
  exact this
/-- What the first j words tell of the text's line. -/
def Fad (s : ByteArray) (j : Nat) (a b c i : Int) (tt : ByteArray) : Prop := ∀ x0, PL s x0 → Far x0 j a b c i tt
theorem Fad.zero (s : ByteArray) : Fad s 0 0 0 0 0 ⟨#[]⟩ := fun x0 _ => far_zero x0
variable {j : Nat} {a b c i : Int} {tt : ByteArray} {xo : Int}
theorem reg_word (l : UInt8) (hl : l ≠ 105) (v : Int) (hv : prt x0.a x0.b x0.c x0.i (l.toNat : Int) = v) : sb (pOf x0 l) = ⟨#[114]⟩ ++ itS v := by
  refine ba_ext ?_
  show pOf x0 l = _
  unfold pOf
  rw [if_neg hl, hv, app_list]
  rfl
theorem Fad.setA (h : Fad s j a b c i tt) (hx : ∀ x0, PL s x0 → xo = x0.op) (hj : j < (Ins.shp xo).length) (hl : (Ins.shp xo)[j] = 97) {r : Int} (hr : ∀ v : Int, 0 ≤ v → v < 16 → (wAll s).getD (j + 1) ⟨#[]⟩ = ⟨#[114]⟩ ++ itS v → r = v) : Fad s (j + 1) r b c i tt := fun x0 hp => by
  obtain rfl := hx x0 hp
  obtain ⟨_, hf, _⟩ := ins_parts hp.1
  obtain ⟨_, ha, _, _⟩ := Ins.fit_bounds hf
  have e : r = x0.a := hr x0.a ha.1 ha.2 (by rw [pl_word hp hj, hl]; exact reg_word 97 (by decide) _ rfl)
  have := far_step hj hl (h x0 hp)
  simpa [e] using this
theorem Fad.setB (h : Fad s j a b c i tt) (hx : ∀ x0, PL s x0 → xo = x0.op) (hj : j < (Ins.shp xo).length) (hl : (Ins.shp xo)[j] = 98) {r : Int} (hr : ∀ v : Int, 0 ≤ v → v < 16 → (wAll s).getD (j + 1) ⟨#[]⟩ = ⟨#[114]⟩ ++ itS v → r = v) : Fad s (j + 1) a r c i tt := fun x0 hp => by
  obtain rfl := hx x0 hp
  obtain ⟨_, hf, _⟩ := ins_parts hp.1
  obtain ⟨_, _, hb, _⟩ := Ins.fit_bounds hf
  have e : r = x0.b := hr x0.b hb.1 hb.2 (by rw [pl_word hp hj, hl]; exact reg_word 98 (by decide) _ rfl)
  have := far_step hj hl (h x0 hp)
  simpa [e] using this
theorem Fad.setC (h : Fad s j a b c i tt) (hx : ∀ x0, PL s x0 → xo = x0.op) (hj : j < (Ins.shp xo).length) (hl : (Ins.shp xo)[j] = 99) {r : Int} (hr : ∀ v : Int, 0 ≤ v → v < 16 → (wAll s).getD (j + 1) ⟨#[]⟩ = ⟨#[114]⟩ ++ itS v → r = v) : Fad s (j + 1) a b r i tt := fun x0 hp => by
  obtain rfl := hx x0 hp
  obtain ⟨_, hf, _⟩ := ins_parts hp.1
  obtain ⟨_, _, _, hc⟩ := Ins.fit_bounds hf
  have e : r = x0.c := hr x0.c hc.1 hc.2 (by rw [pl_word hp hj, hl]; exact reg_word 99 (by decide) _ rfl)
  have := far_step hj hl (h x0 hp)
  simpa [e] using this
/-- The word of a number: itself, or a mark. -/
theorem imm_word (hp : PL s x0) (hj : j < (Ins.shp x0.op).length) (hl : (Ins.shp x0.op)[j] = 105) : (emB x0.to = true ∧ (wAll s).getD (j + 1) ⟨#[]⟩ = itS x0.i) ∨ (emB x0.to = false ∧ nameB x0.to = true ∧ bl ((wAll s).getD (j + 1) ⟨#[]⟩) = 64 :: bl (x0.to ++ addS x0.i)) := by
  obtain ⟨_, _, h3⟩ := ins_parts hp.1
  rw [pl_word hp hj, hl]
  cases he : emB x0.to with
  | true => exact .inl ⟨rfl, ba_ext (by show pOf x0 105 = _; unfold pOf; rw [if_pos rfl, he]; rfl)⟩
  | false =>
    rw [he] at h3
    rcases h3 with h3 | h3
    · cases h3
    · refine .inr ⟨rfl, h3.1, ?_⟩
      show pOf x0 105 = _
      unfold pOf
      rw [if_pos rfl, he, bl_app]
      rfl
theorem it_head (v : Int) (h : 0 < (itS v).size) : ((itS v)[0]'h).toNat ≠ 64 := by
  have hm : ((itS v)[0]'h) ∈ Lib.itoa v := by
    have : (itS v).data.toList = Lib.itoa v := rfl
    rw [← this, ← at_list]
    exact List.getElem_mem _
  have := (itoa_not v _ hm).2.2.2.1
  intro e
  exact this (UInt8.toNat_inj.1 e)
/-- A word that opens with an at sign, taken as a target. -/
theorem Fad.setT (h : Fad s j a b c i tt) (hx : ∀ x0, PL s x0 → xo = x0.op) (hj : j < (Ins.shp xo).length) (hl : (Ins.shp xo)[j] = 105) {t : ByteArray} (ht : (wAll s).getD (j + 1) ⟨#[]⟩ = t) (hz : 0 < t.size) (h64 : (t[0]'hz).toNat = 64)
    {m : ByteArray} {k : Int} {ok : Bool} (hr : ∀ (u : ByteArray) (v : Int), nameB u = true → -2147483648 ≤ v → v < 2147483648 → t.extract 1 t.size = u ++ addS v → m = u ∧ k = v ∧ ok = true) :
    (∀ x0, PL s x0 → ok = true ∧ emB m = false) ∧ Fad s (j + 1) a b c k m := by
  have key : ∀ x0, PL s x0 → m = x0.to ∧ k = x0.i ∧ ok = true ∧ emB m = false := fun x0 hp => by
    obtain rfl := hx x0 hp
    rcases imm_word hp hj hl with ⟨_, e⟩ | ⟨he, hn, e⟩
    · rw [ht] at e
      subst e
      exact absurd h64 (it_head _ hz)
    · rw [ht] at e
      have e2 : t.extract 1 t.size = x0.to ++ addS x0.i := by
        refine ba_ext ?_
        have h1 : bl (t.extract 1 t.size) = (bl t).drop 1 := by
          rw [bl_ext, show (bl t).take t.size = bl t by rw [← bl_len]; exact List.take_length]
        show bl (t.extract 1 t.size) = bl (x0.to ++ addS x0.i)
        rw [h1, e]; rfl
      obtain ⟨q1, q2, q3⟩ := hr x0.to x0.i hn hp.2.1.1 hp.2.1.2 e2
      exact ⟨q1, q2, q3, by rw [q1]; exact he⟩
  refine ⟨fun x0 hp => (key x0 hp).2.2, fun x0 hp => ?_⟩
  obtain ⟨q1, q2, _, _⟩ := key x0 hp
  obtain rfl := hx x0 hp
  have := far_step hj hl (h x0 hp)
  simpa [q1, q2] using this
/-- Any other word, taken as a number. -/
theorem Fad.setN (h : Fad s j a b c i tt) (hx : ∀ x0, PL s x0 → xo = x0.op) (hj : j < (Ins.shp xo).length) (hl : (Ins.shp xo)[j] = 105) (htt : tt = ⟨#[]⟩) {t : ByteArray} (ht : (wAll s).getD (j + 1) ⟨#[]⟩ = t) (h64 : ∀ hz : 0 < t.size, (t[0]'hz).toNat ≠ 64)
    {k : Int} {ok : Bool} (hr : ok = true → -2147483648 ≤ k ∧ k < 2147483648 ∧ t = itS k) (hr2 : isNum t → ok = true) :
    (∀ x0, PL s x0 → ok = true) ∧ Fad s (j + 1) a b c k tt := by
  have key : ∀ x0, PL s x0 → emB x0.to = true ∧ k = x0.i ∧ ok = true := fun x0 hp => by
    obtain rfl := hx x0 hp
    rcases imm_word hp hj hl with ⟨he, e⟩ | ⟨he, hn, e⟩
    · rw [ht] at e
      have hok := hr2 ⟨x0.i, hp.2.1.1, hp.2.1.2, e⟩
      obtain ⟨_, _, e2⟩ := hr hok
      exact ⟨he, itS_inj (e2.symm.trans e), hok⟩
    · rw [ht] at e
      have hz : 0 < t.size := by rw [← bl_len, e]; simp
      refine absurd ?_ (h64 hz)
      have h0 : t[0]'hz = 64 := by
        rw [← at_list]
        have : t.data.toList = 64 :: bl (x0.to ++ addS x0.i) := e
        simp [this]
      rw [h0]; rfl
  refine ⟨fun x0 hp => (key x0 hp).2.2, fun x0 hp => ?_⟩
  obtain ⟨q1, q2, _⟩ := key x0 hp
  obtain rfl := hx x0 hp
  have := far_step hj hl (h x0 hp)
  have e0 : x0.to = ⟨#[]⟩ := (emB_iff _).1 q1
  simpa [q2, e0, htt] using this
theorem Fad.all (h : Fad s (Ins.shp xo).length a b c i tt) (hx : ∀ x0, PL s x0 → xo = x0.op) (hp : PL s x0) : (⟨⟨#[]⟩, xo, a, b, c, i, tt⟩ : Ln) = x0 := by
  obtain rfl := hx x0 hp
  exact far_all hp.1 (h x0 hp)
end
theorem Sts.keep {W W' : World} {ao : Option Addr} {n cap B : Nat} {D : List ByteArray} (h : Sts B W ao n cap D) (k : Below B W W') : Sts B W' ao n cap D := by
  obtain ⟨h1, h2, h4⟩ := h
  refine ⟨h1, h2, fun hn => ?_⟩
  obtain ⟨b, off, e, hb, hc⟩ := h4 hn
  exact ⟨b, off, e, hb, fun i hi => (World.cell?_of_block (w := W) (a := ⟨b, off + i, none⟩) (k.block b hb)).trans (hc i hi)⟩
theorem Lb.drewN {W : World} {B : Nat} {m : ByteArray} {op a b c i : Int} {tt : ByteArray} (h : Lb W B m op a b c i tt) (k : Nat) : Lb (W.drewN k) B m op a b c i tt := h
theorem below_drewN' {B : Nat} {w W : World} (h : Below B w W) (m : Nat) : Below B w (W.drewN m) := h.trans ⟨rfl, rfl, rfl, Nat.le_refl _, fun _ _ => rfl⟩
theorem shp_letter {xo : Int} {j n : Nat} (hn : n = (Ins.shp xo).length) (hj : j < (Ins.shp xo).length) : (Ins.shp xo)[j] = 97 ∨ (Ins.shp xo)[j] = 98 ∨ (Ins.shp xo)[j] = 99 ∨ ((Ins.shp xo)[j] = 105 ∧ j + 1 = n) := by
  subst hn
  revert j
  rcases Ins.shp_cases xo with h | h | h | h | h | h | h <;> rw [h] <;> decide
theorem tx_size {k : Nat} (h : k < 26) : (txS (k : Int) 0 0 0 0).size ≤ 100 := by
  have : ∀ k : Fin 26, (txS (k.val : Int) 0 0 0 0).size ≤ 100 := by decide +kernel
  exact this ⟨k, h⟩
set_option maxRecDepth 100000 in
set_option maxHeartbeats 8000000 in
theorem rread_ins (s : ByteArray) (hs : s.size ≤ 65536) (p : Nat) (hp : s.size = p + 1) (h58 : (s[p]'(by omega)) ≠ 58) (w : World) :
    Calls Tryz.prog 14 #[.string s] w fun e w' => Below w.heap.size w w' ∧ RdR s e := by
  have hmx : Tryz.prog.follows .mixedOrders = true := by kernel_rfl
  have hem1 : s.toList.isEmpty = false := by rw [em_list]; exact beq_eq_false_iff_ne.2 (by omega)
  have hpl : p < s.size := by omega
  have hpi : (s.size : Int) - 1 = (p : Int) := by omega
  have h58' : (((s[p]'hpl).toNat : Int) == 58) = false := by
    rw [beq_eq_false_iff_ne]
    intro e
    exact h58 (UInt8.toNat_inj.1 (by show (s[p]'hpl).toNat = 58; omega))
  have hin : Hid (∀ x0, goodB x0 = true → -2147483648 ≤ x0.i → x0.i < 2147483648 → lineT x0 = s → PL s x0) := by
    intro x0 h1 h2 h3 h4
    refine ⟨not_mark (fun q hq => ?_) h1 h4, ⟨h2, h3⟩, h4⟩
    have e : q = p := by omega
    subst e
    exact h58
  clear h58
  have hB0 : Below w.heap.size w (w.alloc (.cells #[.string ⟨#[]⟩, .int .i64 0, .int .i64 0, .int .i64 0, .int .i64 0, .int .i32 0, .string ⟨#[]⟩] 37)) := (Below.refl _ w).alloc (Nat.le_refl _) _
  have hR0 := Lb.new w ⟨#[]⟩ 0 0 0 0 0 ⟨#[]⟩
  have hwd := rwords_any s hs (w.alloc (.cells #[.string ⟨#[]⟩, .int .i64 0, .int .i64 0, .int .i64 0, .int .i64 0, .int .i32 0, .string ⟨#[]⟩] 37))
  go_enter Tryz.func14, Tryz.ntmps14
  go_upto_region 5 with (go_at_call 34; refine hwd.mono ?_; rintro e w1 ⟨hb1, v, rfl, hrow⟩; obtain ⟨ao, cap, rfl, hS⟩ := sts_of_row hrow)
  have hSw : Sts w1.heap.size w1 ao (wAll s).length cap (wAll s) := hS
  have hB1 : Below w.heap.size w w1 := hB0.trans (hb1.mono hB0.size)
  have hR1 : Lb w1 w.heap.size ⟨#[]⟩ 0 0 0 0 0 ⟨#[]⟩ := hR0.next hb1
  have hX1 := Lb.new w1 ⟨#[]⟩ 0 0 0 0 0 ⟨#[]⟩
  have ha1 : Below w1.heap.size w1 (w1.alloc (.cells #[.string ⟨#[]⟩, .int .i64 0, .int .i64 0, .int .i64 0, .int .i64 0, .int .i32 0, .string ⟨#[]⟩] 37)) := (Below.refl _ w1).alloc (Nat.le_refl _) _
  have hS1 : Sts w1.heap.size (w1.alloc (.cells #[.string ⟨#[]⟩, .int .i64 0, .int .i64 0, .int .i64 0, .int .i64 0, .int .i32 0, .string ⟨#[]⟩] 37)) ao (wAll s).length cap (wAll s) := hSw.keep ha1
  have hB2 := hB1.trans (ha1.mono hB1.size)
  have hR2 := hR1.next ha1
  have hlt1 : w.heap.size < w1.heap.size := hR1.lt
  have hz1 : w1.heap.size < (w1.alloc (.cells #[.string ⟨#[]⟩, .int .i64 0, .int .i64 0, .int .i64 0, .int .i64 0, .int .i32 0, .string ⟨#[]⟩] 37)).heap.size := hX1.lt
  have hnp : 0 < (wAll s).length := wAll_pos s
  have hnl : (wAll s).length ≤ cap := hSw.2.1
  obtain ⟨n, hn⟩ : ∃ n, Hid ((wAll s).length = n) := ⟨_, rfl⟩
  rw [hn.out] at hS1 hnp hnl
  rw [hn.out]
  clear hwd hb1 hrow hS hSw hB0 hR0 hB1 hR1 ha1
  go_upto_region 6 with fail
  obtain ⟨W1, hW1⟩ : ∃ W1, w1.alloc (.cells #[.string ⟨#[]⟩, .int .i64 0, .int .i64 0, .int .i64 0, .int .i64 0, .int .i32 0, .string ⟨#[]⟩] 37) = W1 := ⟨_, rfl⟩
  rw [hW1] at hX1 hS1 hB2 hR2 hz1
  rw [hW1]
  clear hW1
  obtain ⟨Bx, hBx⟩ : ∃ Bx, w1.heap.size = Bx := ⟨_, rfl⟩
  rw [hBx] at hX1 hS1 hlt1 hz1
  rw [hBx]
  clear hBx
  obtain ⟨d0, hd0⟩ : ∃ d0, Hid ((wAll s).getD 0 ⟨#[]⟩ = d0) := ⟨_, rfl⟩
  go_wp2
  go_loopw [7] (fun vi wr => ∃ (k : Nat) (xo : Int), k ≤ 26 ∧ vi = .int .i64 k ∧ Lb wr Bx ⟨#[]⟩ xo 0 0 0 0 ⟨#[]⟩ ∧ (0 ≤ xo ∧ xo < 26) ∧ Hid (Opd s k xo) ∧ Below Bx W1 wr) (fun vi _ => 26 - (intOf vi).toNat)
  case atStart => exact ⟨0, 0, by omega, rfl, hX1, by omega, Opd.zero s, Below.refl _ _⟩
  case round =>
    obtain ⟨k, xo, hk, rfl, hX, hxo, hO, hB⟩ := hrel
    have hzr : Bx < wr.heap.size := hX.lt
    by_cases hk26 : k < 26
    · have hk26' : (k : Int) < 26 := by omega
      have htx := rtext_any (k : Int) 0 0 0 0 (by omega) (by omega) wr
      have hsz := tx_size hk26
      obtain ⟨hnm, hnmp⟩ := name_wAll hk26
      obtain ⟨b, off, rfl, hbB, q0⟩ := Sts.at hS1 (i := 0) hnp
      rw [hd0.out] at q0
      obtain ⟨T, hT⟩ : ∃ T, Hid (wAll (txS (k : Int) 0 0 0 0) = T) := ⟨_, rfl⟩
      rw [hT.out] at hnm hnmp
      obtain ⟨tx, htxe⟩ : ∃ tx, Hid (txS (k : Int) 0 0 0 0 = tx) := ⟨_, rfl⟩
      have hT' : Hid (wAll tx = T) := by show _ = _; rw [← htxe.out]; exact hT.out
      rw [htxe.out] at htx hsz
      go_upto_region 10 with (first | (go_at_call 35; refine htx.mono ?_; rintro e w3 ⟨rfl, hb3⟩) | (go_at_call 34; refine (rwords_any tx (by omega) _).mono ?_; rintro e w4 ⟨hb4, v, rfl, hrow⟩; rw [hT'.out] at hrow; obtain ⟨ao4, cap4, rfl, hS4⟩ := sts_of_row hrow))
      have hB4 : Below Bx W1 w4 := (hB.trans (hb3.mono (Nat.le_of_lt hzr))).trans (hb4.mono (Nat.le_trans (Nat.le_of_lt hzr) hb3.size))
      have hX4 := (hX.next hb3).next hb4
      obtain ⟨b4, off4, rfl, hb4B, q4⟩ := Sts.at hS4 (i := 0) hnmp
      have hc4 := hS4.2.1
      rw [hnm, Nat.add_zero] at q4
      rw [Nat.add_zero] at q0
      have q1 := (hB4.cell (p := ⟨b, off, none⟩) hbB).trans q0
      obtain ⟨tl, htl⟩ : ∃ tl, Hid (T.length = tl) := ⟨_, rfl⟩
      rw [htl.out] at hnmp hc4
      rw [htl.out]
      obtain ⟨f0, f1, f2, f3, f4, f5, f6⟩ := hX4.cells
      have ff := hX4.frozen
      clear hnm hS4 hrow
      by_cases he : nmS (k : Int) = d0
      · have hO2 : Hid (Opd s (k + 1) (k : Int)) := hO.out.hit hk26 (by rw [hd0.out]; exact he)
        rw [he] at q4
        clear he
        go_quiet (fail)
        go_wp2
        go_roundw
        case rel => exact ⟨k + 1, (k : Int), by omega, by go_num, Lb.setO (Lb.drewN hX4 _) _, by omega, hO2, (below_drewN' hB4 _).setCell (p := ⟨Bx, 1, none⟩) (Nat.le_refl _) _⟩
        case measure => simp [intOf]; omega
      · have hO2 : Hid (Opd s (k + 1) xo) := hO.out.miss (by rw [hd0.out]; exact he)
        have hne : ((nmS (k : Int)).toList == d0.toList) = false := by rw [list_beq]; exact decide_eq_false he
        obtain ⟨nk, hnk⟩ : ∃ nk, nmS (k : Int) = nk := ⟨_, rfl⟩
        rw [hnk] at q4 hne
        clear he hnk
        go_quiet (fail)
        go_wp2
        go_roundw
        case rel => exact ⟨k + 1, xo, by omega, by go_num, Lb.drewN hX4 _, hxo, hO2, below_drewN' hB4 _⟩
        case measure => simp [intOf]; omega
    · obtain rfl : k = 26 := by omega
      simp only [show ((26 : Nat) : Int) = 26 from rfl]
      have hXo : Hid (∀ x0, PL s x0 → xo = x0.op) := fun x0 h => hO.out.all h
      clear hO hX1
      have hR := (hB.block w.heap.size hlt1).trans hR2
      have hRl : Lb wr w.heap.size ⟨#[]⟩ 0 0 0 0 0 ⟨#[]⟩ := hR
      clear hR
      have hBw : Below w.heap.size w wr := hB2.trans (hB.mono (Nat.le_of_lt hlt1))
      obtain ⟨f0, f1, f2, f3, f4, f5, f6⟩ := hX.cells
      obtain ⟨g0, g1, g2, g3, g4, g5, g6⟩ := hRl.cells
      have gf := hRl.frozen
      have hsh := rshape_any xo wr
      obtain ⟨sp, hsp⟩ : ∃ sp, Hid (Ins.shS xo = sp) := ⟨_, rfl⟩
      have hspl : Hid (sp.size = (Ins.shp xo).length) := by show _ = _; rw [← hsp.out]; unfold Ins.shS; simp [ByteArray.size]
      have hsp4 : sp.size ≤ 3 := by rw [hspl.out]; rcases Ins.shp_cases xo with h | h | h | h | h | h | h <;> rw [h] <;> decide
      rw [hsp.out] at hsh
      by_cases hnn : n = sp.size + 1
      · have hnn' : (n : Int) = (sp.size : Int) + 1 := by omega
        go_upto_region 15 with (go_at_call 36; refine hsh.mono ?_; rintro e w5 ⟨rfl, rfl⟩)
        have hSp : Hid (∀ (j : Nat) (h : j < sp.size), (sp[j]'h) = (Ins.shp xo)[j]'(by rw [← hspl.out]; exact h)) := by
          intro j h
          have e : sp.data.toList = Ins.shp xo := by rw [← hsp.out]; rfl
          rw [← at_list h]
          simp only [e]
        clear f0 f1 f2 f3 f4 f5 f6 g0 g1 g2 g3 g4 g5 g6 gf hsh hRl hBw
        go_wp2
        go_loopw [10] (fun vi wr => ∃ (j : Nat) (a b c i : Int) (tt : ByteArray), j ≤ sp.size ∧ vi = .int .i64 j ∧ Lb wr Bx ⟨#[]⟩ xo a b c i tt ∧ (-2147483648 ≤ i ∧ i < 2147483648) ∧ tt.size ≤ 65536 ∧ Hid (Fad s j a b c i tt) ∧ Hid (j < sp.size → tt = ⟨#[]⟩) ∧ Below Bx W1 wr) (fun vi _ => sp.size - (intOf vi).toNat)
        case atStart => exact ⟨0, 0, 0, 0, 0, ⟨#[]⟩, Nat.zero_le _, rfl, hX, by omega, by show 0 ≤ 65536; omega, Fad.zero s, fun _ => rfl, hB⟩
        case round =>
          clear hX hB hzr
          obtain ⟨j, a, b, c, i, tt, hj, rfl, hX, hii, hti, hF, htt, hB⟩ := hrel
          have hzr : Bx < wr.heap.size := hX.lt
          by_cases hjn : j < sp.size
          · have hjn' : (j : Int) < sp.size := by omega
            have hjl : Hid (j < (Ins.shp xo).length) := by show j < _; rw [← hspl.out]; exact hjn
            have hlj : Hid ((sp[j]'hjn) = (Ins.shp xo)[j]'hjl.out) := hSp.out j hjn
            obtain ⟨bb, off, rfl, hbB, q0⟩ := Sts.at hS1 (i := j + 1) (by omega)
            have q1 := (hB.cell (p := ⟨bb, off + (j + 1), none⟩) hbB).trans q0
            have hts := w_size s (j + 1)
            obtain ⟨t, ht⟩ : ∃ t, Hid ((wAll s).getD (j + 1) ⟨#[]⟩ = t) := ⟨_, rfl⟩
            rw [ht.out] at q1 hts
            clear q0
            have hrg := rregister_any t (by omega) wr
            have hl4 : (Ins.shp xo)[j]'hjl.out = 97 ∨ (Ins.shp xo)[j]'hjl.out = 98 ∨ (Ins.shp xo)[j]'hjl.out = 99 ∨ ((Ins.shp xo)[j]'hjl.out = 105 ∧ j + 1 = sp.size) := shp_letter hspl.out hjl.out
            go_upto_region 24 with (go_at_call 37; refine hrg.mono ?_; rintro e w7 ⟨hb7, r, rfl, hr0, hr1, hr⟩)
            have hX7 := hX.next hb7
            have hB7 : Below Bx W1 w7 := hB.trans (hb7.mono (Nat.le_of_lt hzr))
            obtain ⟨f0, f1, f2, f3, f4, f5, f6⟩ := hX7.cells
            have ff := hX7.frozen
            clear hX hB hb7 hrg q1
            rcases hl4 with hl | hl | hl | ⟨hl, hlst⟩
            · have hidx : (((sp[j]'hjn).toNat : Nat) : Int) = 97 := by rw [hlj.out, hl]; rfl
              have hFad2 : Hid (Fad s (j + 1) r b c i tt) := hF.out.setA hXo.out hjl.out hl (fun v h1 h2 h3 => hr.out v h1 h2 (by rw [← ht.out]; exact h3))
              have hlast : Hid (j + 1 < sp.size → tt = ⟨#[]⟩) := fun h => htt.out (by omega)
              clear hl
              go_wp2
              go_roundw
              case rel => exact ⟨j + 1, r, b, c, i, tt, by omega, by go_num, hX7.setA r, hii, hti, hFad2, hlast, hB7.setCell (p := ⟨Bx, _, none⟩) (Nat.le_refl _) _⟩
              case measure => simp [intOf]; omega
            · have hidx : (((sp[j]'hjn).toNat : Nat) : Int) = 98 := by rw [hlj.out, hl]; rfl
              have hFad2 : Hid (Fad s (j + 1) a r c i tt) := hF.out.setB hXo.out hjl.out hl (fun v h1 h2 h3 => hr.out v h1 h2 (by rw [← ht.out]; exact h3))
              have hlast : Hid (j + 1 < sp.size → tt = ⟨#[]⟩) := fun h => htt.out (by omega)
              clear hl
              go_wp2
              go_roundw
              case rel => exact ⟨j + 1, a, r, c, i, tt, by omega, by go_num, hX7.setB r, hii, hti, hFad2, hlast, hB7.setCell (p := ⟨Bx, _, none⟩) (Nat.le_refl _) _⟩
              case measure => simp [intOf]; omega
            · have hidx : (((sp[j]'hjn).toNat : Nat) : Int) = 99 := by rw [hlj.out, hl]; rfl
              have hFad2 : Hid (Fad s (j + 1) a b r i tt) := hF.out.setC hXo.out hjl.out hl (fun v h1 h2 h3 => hr.out v h1 h2 (by rw [← ht.out]; exact h3))
              have hlast : Hid (j + 1 < sp.size → tt = ⟨#[]⟩) := fun h => htt.out (by omega)
              clear hl
              go_wp2
              go_roundw
              case rel => exact ⟨j + 1, a, b, r, i, tt, by omega, by go_num, hX7.setC r, hii, hti, hFad2, hlast, hB7.setCell (p := ⟨Bx, _, none⟩) (Nat.le_refl _) _⟩
              case measure => simp [intOf]; omega
            · have hidx : (((sp[j]'hjn).toNat : Nat) : Int) = 105 := by rw [hlj.out, hl]; rfl
              have hemt := em_list t
              by_cases hz : 0 < t.size
              · rw [show emB t = false from beq_eq_false_iff_ne.2 (by omega)] at hemt
                by_cases h64 : (t[0]'hz).toNat = 64
                · have h64' : (((t[0]'hz).toNat : Nat) : Int) = 64 := by omega
                  have htg := rtarget_any (t.extract 1 t.size) (by have := ext_size t 1 t.size; omega) w7
                  go_upto_region 32 with (go_at_call 38; refine htg.mono ?_; rintro e w8 ⟨hb8, m, k, ok, rfl, hms, hk, htr⟩)
                  have hX8 := hX7.next hb8
                  have hB8 : Below Bx W1 w8 := hB7.trans (hb8.mono (Nat.le_of_lt hX7.lt))
                  obtain ⟨hT1, hT2⟩ := hF.out.setT hXo.out hjl.out hl ht.out hz h64 htr.out
                  have HT1 : Hid (∀ x0, PL s x0 → ok = true ∧ emB m = false) := hT1
                  have HT2 : Hid (Fad s (j + 1) a b c k m) := hT2
                  clear hT1 hT2 htr htg
                  have hms2 : m.size ≤ 65536 := by have := ext_size t 1 t.size; omega
                  have hL1 := (hX8.setT m).setI k
                  have hB9 : Below Bx W1 ((w8.setCell ⟨Bx, 6, none⟩ (.string m)).setCell ⟨Bx, 5, none⟩ (.int .i32 k)) := (hB8.setCell (p := ⟨Bx, 6, none⟩) (Nat.le_refl _) _).setCell (p := ⟨Bx, 5, none⟩) (Nat.le_refl _) _
                  clear f0 f1 f2 f3 f4 f5 f6 ff
                  obtain ⟨f0, f1, f2, f3, f4, f5, f6⟩ := hX8.cells
                  have ff := hX8.frozen
                  go_upto_region 34 with fail
                  obtain ⟨W9, hW9⟩ : ∃ W9, (w8.setCell ⟨Bx, 6, none⟩ (.string m)).setCell ⟨Bx, 5, none⟩ (.int .i32 k) = W9 := ⟨_, rfl⟩
                  rw [hW9] at hL1 hB9
                  rw [hW9]
                  clear hW9 f0 f1 f2 f3 f4 f5 f6 ff hX8 hB8 hX7 hB7
                  obtain ⟨f0, f1, f2, f3, f4, f5, f6⟩ := hL1.cells
                  have hRl : Lb W9 w.heap.size ⟨#[]⟩ 0 0 0 0 0 ⟨#[]⟩ := (hB9.block w.heap.size hlt1).trans hR2
                  have hBw : Below w.heap.size w W9 := hB2.trans (hB9.mono (Nat.le_of_lt hlt1))
                  obtain ⟨g0, g1, g2, g3, g4, g5, g6⟩ := hRl.cells
                  have gf := hRl.frozen
                  cases hok : ok with
                  | false =>
                    have hno : Hid (∀ x0, PL s x0 → False) := fun x0 hp => by have := (HT1.out x0 hp).1; rw [hok] at this; cases this
                    clear HT1 hk
                    subst hok
                    go_wp2
                    have hL5 := hRl.set7 ⟨#[]⟩ xo a b c k m
                    have hB5 := set7_from hBw (Nat.le_refl _) ⟨#[]⟩ xo a b c k m
                    obtain ⟨W5, hW5⟩ : ∃ W5, set7 W9 w.heap.size ⟨#[]⟩ xo a b c k m = W5 := ⟨_, rfl⟩
                    unfold set7 at hW5 hL5 hB5
                    rw [hW5] at hL5 hB5
                    rw [hW5]
                    clear hW5
                    obtain ⟨z0, z1, z2, z3, z4, z5, z6⟩ := hL5.cells
                    refine bodyPost_ret (v := .tuple #[.agg #[.string ⟨#[]⟩, .int .i64 xo, .int .i64 a, .int .i64 b, .int .i64 c, .int .i32 k, .string m], .bool false]) (by simp [results, Tryz.f14, go_sem, z0, z1, z2, z3, z4, z5, z6]) rfl ?_
                    exact ⟨hB5, ⟨⟨#[]⟩, xo, a, b, c, k, m⟩, false, rfl, fun h => Bool.noConfusion h, fun x0 h1 h2 h3 h4 => (hno.out x0 (hin.out x0 h1 h2 h3 h4)).elim⟩
                  | true =>
                    have hem := em_list m
                    cases he : emB m with
                    | true =>
                      have hno : Hid (∀ x0, PL s x0 → False) := fun x0 hp => by have := (HT1.out x0 hp).2; rw [he] at this; cases this
                      rw [he] at hem
                      clear HT1 hk
                      subst hok
                      go_wp2
                      have hL5 := hRl.set7 ⟨#[]⟩ xo a b c k m
                      have hB5 := set7_from hBw (Nat.le_refl _) ⟨#[]⟩ xo a b c k m
                      obtain ⟨W5, hW5⟩ : ∃ W5, set7 W9 w.heap.size ⟨#[]⟩ xo a b c k m = W5 := ⟨_, rfl⟩
                      unfold set7 at hW5 hL5 hB5
                      rw [hW5] at hL5 hB5
                      rw [hW5]
                      clear hW5
                      obtain ⟨z0, z1, z2, z3, z4, z5, z6⟩ := hL5.cells
                      refine bodyPost_ret (v := .tuple #[.agg #[.string ⟨#[]⟩, .int .i64 xo, .int .i64 a, .int .i64 b, .int .i64 c, .int .i32 k, .string m], .bool false]) (by simp [results, Tryz.f14, go_sem, z0, z1, z2, z3, z4, z5, z6]) rfl ?_
                      exact ⟨hB5, ⟨⟨#[]⟩, xo, a, b, c, k, m⟩, false, rfl, fun h => Bool.noConfusion h, fun x0 h1 h2 h3 h4 => (hno.out x0 (hin.out x0 h1 h2 h3 h4)).elim⟩
                    | false =>
                      rw [he] at hem
                      have hk2 := hk.out hok
                      clear HT1 hk
                      subst hok
                      have hlast : Hid (j + 1 < sp.size → m = ⟨#[]⟩) := fun h => absurd h (by omega)
                      go_wp2
                      go_roundw
                      case rel => exact ⟨j + 1, a, b, c, k, m, by omega, by go_num, hL1, hk2, hms2, HT2, hlast, hB9⟩
                      case measure => simp [intOf]; omega
                · have h64' : ((((t[0]'hz).toNat : Nat) : Int) == 64) = false := by rw [beq_eq_false_iff_ne]; omega
                  have hnu := rnumber_any t (by omega) w7
                  go_upto_region 21 with (go_at_call 39; refine hnu.mono ?_; rintro e w8 ⟨hb8, k, ok, rfl, hk, hkn⟩)
                  have hX8 := hX7.next hb8
                  have hB8 : Below Bx W1 w8 := hB7.trans (hb8.mono (Nat.le_of_lt hX7.lt))
                  obtain ⟨hT1, hT2⟩ := hF.out.setN hXo.out hjl.out hl (htt.out hjn) ht.out (fun _ => h64) hk.out hkn.out
                  have HT1 : Hid (∀ x0, PL s x0 → ok = true) := hT1
                  have HT2 : Hid (Fad s (j + 1) a b c k tt) := hT2
                  clear hT1 hT2 hnu hkn
                  have hL1 := hX8.setI k
                  have hB9 : Below Bx W1 (w8.setCell ⟨Bx, 5, none⟩ (.int .i32 k)) := hB8.setCell (p := ⟨Bx, 5, none⟩) (Nat.le_refl _) _
                  clear f0 f1 f2 f3 f4 f5 f6 ff
                  obtain ⟨f0, f1, f2, f3, f4, f5, f6⟩ := hX8.cells
                  have ff := hX8.frozen
                  go_upto_region 22 with fail
                  obtain ⟨W9, hW9⟩ : ∃ W9, w8.setCell ⟨Bx, 5, none⟩ (.int .i32 k) = W9 := ⟨_, rfl⟩
                  rw [hW9] at hL1 hB9
                  rw [hW9]
                  clear hW9 f0 f1 f2 f3 f4 f5 f6 ff hX8 hB8 hX7 hB7
                  obtain ⟨f0, f1, f2, f3, f4, f5, f6⟩ := hL1.cells
                  have hRl : Lb W9 w.heap.size ⟨#[]⟩ 0 0 0 0 0 ⟨#[]⟩ := (hB9.block w.heap.size hlt1).trans hR2
                  have hBw : Below w.heap.size w W9 := hB2.trans (hB9.mono (Nat.le_of_lt hlt1))
                  obtain ⟨g0, g1, g2, g3, g4, g5, g6⟩ := hRl.cells
                  have gf := hRl.frozen
                  cases hok : ok with
                  | false =>
                    have hno : Hid (∀ x0, PL s x0 → False) := fun x0 hp => by have := HT1.out x0 hp; rw [hok] at this; cases this
                    clear HT1 hk
                    subst hok
                    go_wp2
                    have hL5 := hRl.set7 ⟨#[]⟩ xo a b c k tt
                    have hB5 := set7_from hBw (Nat.le_refl _) ⟨#[]⟩ xo a b c k tt
                    obtain ⟨W5, hW5⟩ : ∃ W5, set7 W9 w.heap.size ⟨#[]⟩ xo a b c k tt = W5 := ⟨_, rfl⟩
                    unfold set7 at hW5 hL5 hB5
                    rw [hW5] at hL5 hB5
                    rw [hW5]
                    clear hW5
                    obtain ⟨z0, z1, z2, z3, z4, z5, z6⟩ := hL5.cells
                    refine bodyPost_ret (v := .tuple #[.agg #[.string ⟨#[]⟩, .int .i64 xo, .int .i64 a, .int .i64 b, .int .i64 c, .int .i32 k, .string tt], .bool false]) (by simp [results, Tryz.f14, go_sem, z0, z1, z2, z3, z4, z5, z6]) rfl ?_
                    exact ⟨hB5, ⟨⟨#[]⟩, xo, a, b, c, k, tt⟩, false, rfl, fun h => Bool.noConfusion h, fun x0 h1 h2 h3 h4 => (hno.out x0 (hin.out x0 h1 h2 h3 h4)).elim⟩
                  | true =>
                    have hk2 : -2147483648 ≤ k ∧ k < 2147483648 := ⟨(hk.out hok).1, (hk.out hok).2.1⟩
                    clear HT1 hk
                    subst hok
                    have hlast : Hid (j + 1 < sp.size → tt = ⟨#[]⟩) := fun h => htt.out (by omega)
                    go_wp2
                    go_roundw
                    case rel => exact ⟨j + 1, a, b, c, k, tt, by omega, by go_num, hL1, hk2, hti, HT2, hlast, hB9⟩
                    case measure => simp [intOf]; omega
              · rw [show emB t = true from beq_iff_eq.2 (by omega)] at hemt
                have hnu := rnumber_any t (by omega) w7
                go_upto_region 21 with (go_at_call 39; refine hnu.mono ?_; rintro e w8 ⟨hb8, k, ok, rfl, hk, hkn⟩)
                have hX8 := hX7.next hb8
                have hB8 : Below Bx W1 w8 := hB7.trans (hb8.mono (Nat.le_of_lt hX7.lt))
                obtain ⟨hT1, hT2⟩ := hF.out.setN hXo.out hjl.out hl (htt.out hjn) ht.out (fun h => absurd h hz) hk.out hkn.out
                have HT1 : Hid (∀ x0, PL s x0 → ok = true) := hT1
                have HT2 : Hid (Fad s (j + 1) a b c k tt) := hT2
                clear hT1 hT2 hnu hkn
                have hL1 := hX8.setI k
                have hB9 : Below Bx W1 (w8.setCell ⟨Bx, 5, none⟩ (.int .i32 k)) := hB8.setCell (p := ⟨Bx, 5, none⟩) (Nat.le_refl _) _
                clear f0 f1 f2 f3 f4 f5 f6 ff
                obtain ⟨f0, f1, f2, f3, f4, f5, f6⟩ := hX8.cells
                have ff := hX8.frozen
                go_upto_region 22 with fail
                obtain ⟨W9, hW9⟩ : ∃ W9, w8.setCell ⟨Bx, 5, none⟩ (.int .i32 k) = W9 := ⟨_, rfl⟩
                rw [hW9] at hL1 hB9
                rw [hW9]
                clear hW9 f0 f1 f2 f3 f4 f5 f6 ff hX8 hB8 hX7 hB7
                obtain ⟨f0, f1, f2, f3, f4, f5, f6⟩ := hL1.cells
                have hRl : Lb W9 w.heap.size ⟨#[]⟩ 0 0 0 0 0 ⟨#[]⟩ := (hB9.block w.heap.size hlt1).trans hR2
                have hBw : Below w.heap.size w W9 := hB2.trans (hB9.mono (Nat.le_of_lt hlt1))
                obtain ⟨g0, g1, g2, g3, g4, g5, g6⟩ := hRl.cells
                have gf := hRl.frozen
                cases hok : ok with
                | false =>
                  have hno : Hid (∀ x0, PL s x0 → False) := fun x0 hp => by have := HT1.out x0 hp; rw [hok] at this; cases this
                  clear HT1 hk
                  subst hok
                  go_wp2
                  have hL5 := hRl.set7 ⟨#[]⟩ xo a b c k tt
                  have hB5 := set7_from hBw (Nat.le_refl _) ⟨#[]⟩ xo a b c k tt
                  obtain ⟨W5, hW5⟩ : ∃ W5, set7 W9 w.heap.size ⟨#[]⟩ xo a b c k tt = W5 := ⟨_, rfl⟩
                  unfold set7 at hW5 hL5 hB5
                  rw [hW5] at hL5 hB5
                  rw [hW5]
                  clear hW5
                  obtain ⟨z0, z1, z2, z3, z4, z5, z6⟩ := hL5.cells
                  refine bodyPost_ret (v := .tuple #[.agg #[.string ⟨#[]⟩, .int .i64 xo, .int .i64 a, .int .i64 b, .int .i64 c, .int .i32 k, .string tt], .bool false]) (by simp [results, Tryz.f14, go_sem, z0, z1, z2, z3, z4, z5, z6]) rfl ?_
                  exact ⟨hB5, ⟨⟨#[]⟩, xo, a, b, c, k, tt⟩, false, rfl, fun h => Bool.noConfusion h, fun x0 h1 h2 h3 h4 => (hno.out x0 (hin.out x0 h1 h2 h3 h4)).elim⟩
                | true =>
                  have hk2 : -2147483648 ≤ k ∧ k < 2147483648 := ⟨(hk.out hok).1, (hk.out hok).2.1⟩
                  clear HT1 hk
                  subst hok
                  have hlast : Hid (j + 1 < sp.size → tt = ⟨#[]⟩) := fun h => htt.out (by omega)
                  go_wp2
                  go_roundw
                  case rel => exact ⟨j + 1, a, b, c, k, tt, by omega, by go_num, hL1, hk2, hti, HT2, hlast, hB9⟩
                  case measure => simp [intOf]; omega
          · obtain rfl : j = sp.size := by omega
            have hFx : Hid (∀ x0, PL s x0 → (⟨⟨#[]⟩, xo, a, b, c, i, tt⟩ : Ln) = x0) := fun x0 hp => by
              have h1 := hF.out
              rw [hspl.out] at h1
              exact Fad.all h1 hXo.out hp
            have hgd := fun W => rgood_any ⟨⟨#[]⟩, xo, a, b, c, i, tt⟩ (by show 0 ≤ 65536; omega) hti W
            unfold lnV at hgd
            dsimp only at hgd
            have hRl : Lb wr w.heap.size ⟨#[]⟩ 0 0 0 0 0 ⟨#[]⟩ := (hB.block w.heap.size hlt1).trans hR2
            have hBw : Below w.heap.size w wr := hB2.trans (hB.mono (Nat.le_of_lt hlt1))
            have hne : w.heap.size ≠ Bx := by omega
            clear hF hB hB2 hR2 hS1 hSp
            go_wp2
            refine region_out (S := fun W => Lb W Bx ⟨#[]⟩ xo a b c i tt) hmx hX (fun hS => ?_)
            have hR3' : Lb wr.drew w.heap.size ⟨#[]⟩ 0 0 0 0 0 ⟨#[]⟩ := hRl
            have hB3' : Below w.heap.size w wr.drew := hBw.drew
            obtain ⟨W3, hW3⟩ : ∃ W3, wr.drew = W3 := ⟨_, rfl⟩
            rw [hW3] at hS hR3' hB3'
            rw [hW3]
            clear hW3 hX hRl hBw
            refine wpAnyH_take (i := 0) (v := .agg #[.string ⟨#[]⟩, .int .i64 xo, .int .i64 a, .int .i64 b, .int .i64 c, .int .i32 i, .string tt]) rfl (by kernel_rfl) (by kernel_rfl) (by kernel_rfl) (fun _ _ _ h => h) (Or.inl ⟨by rfl, fun w2 hS2 => by obtain ⟨q0, q1, q2, q3, q4, q5, q6⟩ := Lb.cells hS2; go_simp⟩) hS ?_
            simp only [Act.put]
            refine wpAnyH_take (i := 1) (v := .agg #[.string ⟨#[]⟩, .int .i64 xo, .int .i64 a, .int .i64 b, .int .i64 c, .int .i32 i, .string tt]) rfl (by kernel_rfl) (by kernel_rfl) (by kernel_rfl) (fun _ _ _ h => h) (Or.inl ⟨by rfl, fun w2 hS2 => by obtain ⟨q0, q1, q2, q3, q4, q5, q6⟩ := Lb.cells hS2; go_simp⟩) hS ?_
            simp only [Act.put]
            refine wpAnyH_ready (rs := [2]) (by kernel_rfl) (by simp) ?_
            refine AllReadyH.cons rfl (fun K hK => ?_) AllReadyH.nil
            go_simp
            refine (hgd _).mono ?_
            rintro e w3 ⟨rfl, hb3⟩
            have hS : Lb w3 Bx ⟨#[]⟩ xo a b c i tt := Lb.next hS hb3
            have hR3 : Lb w3 w.heap.size ⟨#[]⟩ 0 0 0 0 0 ⟨#[]⟩ := Lb.next hR3' hb3
            have hB3 : Below w.heap.size w w3 := hB3'.trans (hb3.mono hB3'.size)
            refine hK.out _ _ hS (fun hS => ?_)
            clear hK K hgd hb3 hR3' hB3'
            cases hg : goodB ⟨⟨#[]⟩, xo, a, b, c, i, tt⟩ with
            | false =>
              have hgf : Hid (goodB ⟨⟨#[]⟩, xo, a, b, c, i, tt⟩ = false) := hg
              clear hg
              refine wpAnyH_take (i := 3) (v := .bool false) rfl (by kernel_rfl) (by kernel_rfl) (by kernel_rfl) (fun _ _ _ h => h) (Or.inl ⟨by rfl, fun w2 hS2 => by go_simp⟩) hS ?_
              simp only [Act.put]
              refine wpAnyH_take (i := 4) (v := undef) rfl (by kernel_rfl) (by kernel_rfl) (by kernel_rfl) (fun _ _ _ h => h) (Or.inr ⟨by rfl, rfl⟩) hS ?_
              simp only [Act.put]
              refine wpAnyH_take (i := 5) (v := undef) rfl (by kernel_rfl) (by kernel_rfl) (by kernel_rfl) (fun _ _ _ h => h) (Or.inr ⟨by rfl, rfl⟩) hS ?_
              simp only [Act.put]
              refine wpAnyH_take (i := 6) (v := undef) rfl (by kernel_rfl) (by kernel_rfl) (by kernel_rfl) (fun _ _ _ h => h) (Or.inr ⟨by rfl, rfl⟩) hS ?_
              simp only [Act.put]
              refine wpAnyH_take (i := 7) (v := undef) rfl (by kernel_rfl) (by kernel_rfl) (by kernel_rfl) (fun _ _ _ h => h) (Or.inr ⟨by rfl, rfl⟩) hS ?_
              simp only [Act.put]
              refine wpAnyH_take (i := 8) (v := .bool false) rfl (by kernel_rfl) (by kernel_rfl) (by kernel_rfl) (fun _ _ _ h => h) (Or.inl ⟨by rfl, fun w2 hS2 => by go_simp⟩) hS ?_
              simp only [Act.put]
              obtain ⟨f0, f1, f2, f3, f4, f5, f6⟩ := hR3.cells
              have ff := hR3.frozen
              refine wpAnyH_ready (rs := [9]) (by kernel_rfl) (by simp) ?_
              refine AllReadyH.cons rfl (fun K hK => ?_) AllReadyH.nil
              go_simp
              have hS : Lb (set7 w3 w.heap.size ⟨#[]⟩ xo a b c i tt) Bx ⟨#[]⟩ xo a b c i tt := (set7_heap (Ne.symm hne) _ _ _ _ _ _ _).trans hS
              refine hK.out _ _ hS (fun hS => ?_)
              clear hK K
              have hL5 := hR3.set7 ⟨#[]⟩ xo a b c i tt
              have hB5 := set7_from hB3 (Nat.le_refl _) ⟨#[]⟩ xo a b c i tt
              obtain ⟨W5, hW5⟩ : ∃ W5, set7 w3 w.heap.size ⟨#[]⟩ xo a b c i tt = W5 := ⟨_, rfl⟩
              unfold set7 at hW5 hL5 hB5
              rw [hW5] at hS hL5 hB5
              rw [hW5]
              clear hW5 f0 f1 f2 f3 f4 f5 f6 ff
              refine wpAnyH_take (i := 10) (v := .bool false) rfl (by kernel_rfl) (by kernel_rfl) (by kernel_rfl) (fun _ _ _ h => h) (Or.inl ⟨by rfl, fun w2 hS2 => by go_simp⟩) hS ?_
              simp only [Act.put]
              refine wpAnyH_done (by kernel_rfl) ?_ _
              go_simp
              go_wp2
              obtain ⟨g0, g1, g2, g3, g4, g5, g6⟩ := hL5.cells
              refine bodyPost_ret (v := .tuple #[.agg #[.string ⟨#[]⟩, .int .i64 xo, .int .i64 a, .int .i64 b, .int .i64 c, .int .i32 i, .string tt], .bool false]) (by simp [results, Tryz.f14, go_sem, g0, g1, g2, g3, g4, g5, g6]) rfl ?_
              exact ⟨hB5, ⟨⟨#[]⟩, xo, a, b, c, i, tt⟩, false, rfl, fun h => Bool.noConfusion h, fun x0 h1 h2 h3 h4 => by have e := hFx.out x0 (hin.out x0 h1 h2 h3 h4); rw [e] at hgf; exact absurd (hgf.out.symm.trans h1) (by decide)⟩
            | true =>
              have hgt : Hid (goodB ⟨⟨#[]⟩, xo, a, b, c, i, tt⟩ = true) := hg
              clear hg
              have hln := fun W => rline_any ⟨⟨#[]⟩, xo, a, b, c, i, tt⟩ hii.1 hii.2 hgt.out W
              unfold lnV at hln
              dsimp only at hln
              obtain ⟨ls, hls⟩ : ∃ ls, Hid (lineT ⟨⟨#[]⟩, xo, a, b, c, i, tt⟩ = ls) := ⟨_, rfl⟩
              obtain ⟨ok, hok⟩ : ∃ ok, (ls.toList == s.toList) = ok := ⟨_, rfl⟩
              have hA : Hid (ok = true → goodB ⟨⟨#[]⟩, xo, a, b, c, i, tt⟩ = true ∧ lineT ⟨⟨#[]⟩, xo, a, b, c, i, tt⟩ = s ∧ (-2147483648 ≤ i ∧ i < 2147483648)) := fun h => by
                rw [← hok, list_beq, decide_eq_true_iff] at h
                exact ⟨hgt.out, by rw [hls.out]; exact h, hii⟩
              have hC : Hid (∀ x0, goodB x0 = true → -2147483648 ≤ x0.i → x0.i < 2147483648 → lineT x0 = s → ok = true) := fun x0 h1 h2 h3 h4 => by
                rw [← hok, list_beq, decide_eq_true_iff, ← hls.out, hFx.out x0 (hin.out x0 h1 h2 h3 h4)]
                exact h4
              simp only [hls.out] at hln
              clear hFx hls
              refine wpAnyH_take (i := 3) (v := .bool true) rfl (by kernel_rfl) (by kernel_rfl) (by kernel_rfl) (fun _ _ _ h => h) (Or.inl ⟨by rfl, fun w2 hS2 => by go_simp⟩) hS ?_
              simp only [Act.put]
              refine wpAnyH_take (i := 4) (v := .agg #[.string ⟨#[]⟩, .int .i64 xo, .int .i64 a, .int .i64 b, .int .i64 c, .int .i32 i, .string tt]) rfl (by kernel_rfl) (by kernel_rfl) (by kernel_rfl) (fun _ _ _ h => h) (Or.inl ⟨by rfl, fun w2 hS2 => by obtain ⟨q0, q1, q2, q3, q4, q5, q6⟩ := Lb.cells hS2; go_simp⟩) hS ?_
              simp only [Act.put]
              refine wpAnyH_take (i := 6) (v := .string s) rfl (by kernel_rfl) (by kernel_rfl) (by kernel_rfl) (fun _ _ _ h => h) (Or.inl ⟨by rfl, fun w2 hS2 => by go_simp⟩) hS ?_
              simp only [Act.put]
              refine wpAnyH_ready (rs := [5]) (by kernel_rfl) (by simp) ?_
              refine AllReadyH.cons rfl (fun K hK => ?_) AllReadyH.nil
              go_simp
              refine (hln _).mono ?_
              rintro e w4 ⟨rfl, hb4⟩
              have hS : Lb w4 Bx ⟨#[]⟩ xo a b c i tt := Lb.next hS hb4
              have hR4 : Lb w4 w.heap.size ⟨#[]⟩ 0 0 0 0 0 ⟨#[]⟩ := Lb.next hR3 hb4
              have hB4 : Below w.heap.size w w4 := hB3.trans (hb4.mono hB3.size)
              refine hK.out _ _ hS (fun hS => ?_)
              clear hK K hln hb4 hR3 hB3
              refine wpAnyH_take (i := 7) (v := .bool ok) rfl (by kernel_rfl) (by kernel_rfl) (by kernel_rfl) (fun _ _ _ h => h) (Or.inl ⟨by rfl, fun w2 hS2 => by go_simp⟩) hS ?_
              simp only [Act.put]
              refine wpAnyH_take (i := 8) (v := .bool ok) rfl (by kernel_rfl) (by kernel_rfl) (by kernel_rfl) (fun _ _ _ h => h) (Or.inl ⟨by rfl, fun w2 hS2 => by go_simp⟩) hS ?_
              simp only [Act.put]
              obtain ⟨f0, f1, f2, f3, f4, f5, f6⟩ := hR4.cells
              have ff := hR4.frozen
              refine wpAnyH_ready (rs := [9]) (by kernel_rfl) (by simp) ?_
              refine AllReadyH.cons rfl (fun K hK => ?_) AllReadyH.nil
              go_simp
              have hS : Lb (set7 w4 w.heap.size ⟨#[]⟩ xo a b c i tt) Bx ⟨#[]⟩ xo a b c i tt := (set7_heap (Ne.symm hne) _ _ _ _ _ _ _).trans hS
              refine hK.out _ _ hS (fun hS => ?_)
              clear hK K
              have hL5 := hR4.set7 ⟨#[]⟩ xo a b c i tt
              have hB5 := set7_from hB4 (Nat.le_refl _) ⟨#[]⟩ xo a b c i tt
              obtain ⟨W5, hW5⟩ : ∃ W5, set7 w4 w.heap.size ⟨#[]⟩ xo a b c i tt = W5 := ⟨_, rfl⟩
              unfold set7 at hW5 hL5 hB5
              rw [hW5] at hS hL5 hB5
              rw [hW5]
              clear hW5 f0 f1 f2 f3 f4 f5 f6 ff
              refine wpAnyH_take (i := 10) (v := .bool ok) rfl (by kernel_rfl) (by kernel_rfl) (by kernel_rfl) (fun _ _ _ h => h) (Or.inl ⟨by rfl, fun w2 hS2 => by go_simp⟩) hS ?_
              simp only [Act.put]
              refine wpAnyH_done (by kernel_rfl) ?_ _
              go_simp
              go_wp2
              obtain ⟨g0, g1, g2, g3, g4, g5, g6⟩ := hL5.cells
              refine bodyPost_ret (v := .tuple #[.agg #[.string ⟨#[]⟩, .int .i64 xo, .int .i64 a, .int .i64 b, .int .i64 c, .int .i32 i, .string tt], .bool ok]) (by simp [results, Tryz.f14, go_sem, g0, g1, g2, g3, g4, g5, g6]) rfl ?_
              exact ⟨hB5, ⟨⟨#[]⟩, xo, a, b, c, i, tt⟩, ok, rfl, hA, hC⟩
      · have hnn' : ((n : Int) == (sp.size : Int) + 1) = false := by rw [beq_eq_false_iff_ne]; omega
        have hno : Hid (∀ x0, PL s x0 → False) := fun x0 hp => hnn (by rw [← hn.out, pl_len hp, hspl.out, hXo.out x0 hp])
        go_wp2_with (go_at_call 36; refine hsh.mono ?_; rintro e w5 ⟨rfl, rfl⟩)
        have hL5 := hRl.set7 ⟨#[]⟩ xo 0 0 0 0 ⟨#[]⟩
        have hB5 := set7_from hBw (Nat.le_refl _) ⟨#[]⟩ xo 0 0 0 0 ⟨#[]⟩
        obtain ⟨W5, hW5⟩ : ∃ W5, set7 wr w.heap.size ⟨#[]⟩ xo 0 0 0 0 ⟨#[]⟩ = W5 := ⟨_, rfl⟩
        unfold set7 at hW5 hL5 hB5
        rw [hW5] at hL5 hB5
        rw [hW5]
        clear hW5
        obtain ⟨z0, z1, z2, z3, z4, z5, z6⟩ := hL5.cells
        refine bodyPost_ret (v := .tuple #[.agg #[.string ⟨#[]⟩, .int .i64 xo, .int .i64 0, .int .i64 0, .int .i64 0, .int .i32 0, .string ⟨#[]⟩], .bool false]) (by simp [results, Tryz.f14, go_sem, z0, z1, z2, z3, z4, z5, z6]) rfl ?_
        exact ⟨hB5, ⟨⟨#[]⟩, xo, 0, 0, 0, 0, ⟨#[]⟩⟩, false, rfl, fun h => Bool.noConfusion h, fun x0 h1 h2 h3 h4 => (hno.out x0 (hin.out x0 h1 h2 h3 h4)).elim⟩
theorem rread_any (t : ByteArray) (h0 : 0 < t.size) (hs : t.size ≤ 65536) (W : World) : Calls Tryz.prog 14 #[.string t] W fun e w' => Below W.heap.size W w' ∧ RdR t e := by
  obtain ⟨p, hp⟩ : ∃ p, t.size = p + 1 := ⟨t.size - 1, by omega⟩
  by_cases h : (t[p]'(by omega)) = 58
  · exact rread_mark t hs p hp h W
  · exact rread_ins t hs p hp h W
end Go.Proofs.YtnghendglcblkaaGreatDoor
