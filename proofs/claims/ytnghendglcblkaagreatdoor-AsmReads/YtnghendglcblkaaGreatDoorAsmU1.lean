/-
  PROVED HERE: what number, register, words and target of package curtilageref10 return when they are called, and what an instruction's line has for words (contracts over this translation). Texts of at most 65536 bytes.
-/
import Derived.Test.YtnghendglcblkaaGreatDoorAsmQ4
import Derived.Test.YtnghendglcblkaaGreatDoorAsmR3
namespace Go.Proofs.YtnghendglcblkaaGreatDoor
open Go.RowKit Go.Shelf
set_option linter.unusedVariables false
open Asm

set_option maxRecDepth 100000 in
set_option maxHeartbeats 2000000 in
theorem rregister_any (s : ByteArray) (hs : s.size ≤ 65536) (w : World) :
    Calls Tryz.prog 37 #[.string s] w fun e w' => Below w.heap.size w w' ∧ ∃ r : Int, e = .returned (.int .i64 r) ∧ -1 ≤ r ∧ r < 16 ∧ Hid (∀ a : Int, 0 ≤ a → a < 16 → s = ⟨#[114]⟩ ++ itS a → r = a) := by
  go_enter Tryz.func37, Tryz.ntmps37
  go_wp2
  go_loopw [3] (fun vi wr => ∃ k : Nat, k ≤ 16 ∧ vi = .int .i64 k ∧ Hid (∀ a : Int, 0 ≤ a → a < k → s ≠ ⟨#[114]⟩ ++ itS a) ∧ Below w.heap.size w wr) (fun vi _ => 16 - (intOf vi).toNat)
  case atStart => exact ⟨0, by omega, rfl, fun a h0 h1 => by omega, Below.refl _ _⟩
  case round =>
    obtain ⟨k, hk, rfl, hp, hB⟩ := hrel
    by_cases hks : k < 16
    · have hdg := fun W => rdigits_any (k : Int) (by omega) (by omega) W
      have hsz := itS_size (v := (k : Int)) (by omega) (by omega)
      have hlb := list_beq (⟨#[114]⟩ ++ itS (k : Int)) s
      have hstp : Hid (s ≠ ⟨#[114]⟩ ++ itS (k : Int) → ∀ a : Int, 0 ≤ a → a < ((k + 1 : Nat) : Int) → s ≠ ⟨#[114]⟩ ++ itS a) := fun hne a h0 h1 => by
        by_cases ha : a < k
        · exact hp.out a h0 ha
        · obtain rfl : a = (k : Int) := by omega
          exact hne
      have hfin : Hid (s = ⟨#[114]⟩ ++ itS (k : Int) → ∀ a : Int, 0 ≤ a → a < 16 → s = ⟨#[114]⟩ ++ itS a → (k : Int) = a) := fun h1 a h0 h2 h3 => by
        have h4 := congrArg (fun x => x.data.toList) (h1.symm.trans h3)
        simp only [app_list] at h4
        exact itoa_inj (List.append_cancel_left h4)
      obtain ⟨it, hit⟩ : ∃ it, itS (k : Int) = it := ⟨_, rfl⟩
      simp only [hit] at hdg
      rw [hit] at hsz hlb hstp hfin
      clear hit
      have hz1 : (9223372036854775807 < 1 + it.size) = False := by simp; omega
      by_cases hmm : ⟨#[114]⟩ ++ it = s
      · rw [decide_eq_true hmm] at hlb
        have hq : Hid _ := hfin.out hmm.symm
        clear hstp hfin hmm
        go_wp2_with (go_at_call 65; refine (hdg _).mono ?_; rintro e w3 ⟨rfl, hb3⟩)
        go_ret
        exact ⟨hB.trans (hb3.mono hB.size), (k : Int), rfl, by omega, by omega, hq⟩
      · rw [decide_eq_false hmm] at hlb
        have hq : Hid _ := hstp.out (fun e => hmm e.symm)
        clear hstp hfin hmm
        go_wp2_with (go_at_call 65; refine (hdg _).mono ?_; rintro e w3 ⟨rfl, hb3⟩)
        go_roundw
        case rel => exact ⟨k + 1, by omega, by simp, hq, hB.trans (hb3.mono hB.size)⟩
        case measure => simp [intOf]; omega
    · obtain rfl : k = 16 := by omega
      have hq : Hid (∀ a : Int, 0 ≤ a → a < 16 → s = ⟨#[114]⟩ ++ itS a → (-1 : Int) = a) := fun a h0 h1 h2 => absurd h2 (hp.out a h0 h1)
      clear hp
      go_wp2
      go_ret
      exact ⟨hB, -1, rfl, by omega, by omega, hq⟩
/-- Is it a number of 32 bits? -/
def isNum (s : ByteArray) : Prop := ∃ v : Int, -2147483648 ≤ v ∧ v < 2147483648 ∧ s = itS v
/-- The digits ahead of a place. -/
def dgs (s : ByteArray) (k : Nat) : List UInt8 := if (bl s).head? = some 45 then ((bl s).take k).drop 1 else (bl s).take k
theorem valF_snoc (l : List UInt8) (c : UInt8) : valF 0 (l ++ [c]) = valF 0 l * 10 + (c.toNat - 48) := by simp [valF]
theorem valF_lt : ∀ (l : List UInt8) (n : Nat), (∀ c ∈ l, c.toNat ≤ 57) → valF n l < (n + 1) * 10 ^ l.length
  | [], n, _ => by show n < (n + 1) * 1; omega
  | c :: l, n, h => by
    have h1 := valF_lt l (n * 10 + (c.toNat - 48)) (fun d hd => h d (by simp [hd]))
    have h2 := h c (by simp)
    have h3 : (n * 10 + (c.toNat - 48) + 1) * 10 ^ l.length ≤ ((n + 1) * 10) * 10 ^ l.length := Nat.mul_le_mul_right _ (by omega)
    have h4 : ((n + 1) * 10) * 10 ^ l.length = (n + 1) * 10 ^ (c :: l).length := by rw [List.length_cons, Nat.pow_succ, Nat.mul_assoc, Nat.mul_comm 10]
    show valF (n * 10 + (c.toNat - 48)) l < _
    omega
theorem dgs_len (s : ByteArray) (k : Nat) : (dgs s k).length ≤ k := by
  unfold dgs
  split
  · simp; omega
  · simp; omega
theorem dec_len : ∀ (k u : Nat), u < 10 ^ (k + 1) → (Lib.decDigits u).length ≤ k + 1
  | 0, u, h => by rw [Lib.decDigits_one (by simpa using h)]; exact Nat.le_refl _
  | k + 1, u, h => by
    by_cases h1 : u < 10
    · rw [Lib.decDigits_one h1]; simp
    · rw [Lib.decDigits, dif_neg h1, List.length_append]
      have := dec_len k (u / 10) (by rw [Nat.pow_succ] at h; omega)
      simp
      exact this
/-- What a number's text is. -/
theorem num_facts {s : ByteArray} (h : isNum s) : s.size ≤ 11 ∧ (∀ k (hk : k < s.size), (48 ≤ (s[k]'hk).toNat ∧ (s[k]'hk).toNat ≤ 57) ∨ (k = 0 ∧ (s[k]'hk).toNat = 45)) ∧ 0 < s.size ∧
    ∃ v : Int, s = itS v ∧ -2147483648 ≤ v ∧ v < 2147483648 ∧ (((bl s).head? = some 45 ∧ v = -(valF 0 (dgs s s.size) : Int)) ∨ ((bl s).head? ≠ some 45 ∧ v = (valF 0 (dgs s s.size) : Int))) := by
  obtain ⟨v, h0, h1, e⟩ := h
  have eb : bl s = Lib.itoa v := by rw [e]; rfl
  have hsz : s.size = (Lib.itoa v).length := by rw [← bl_len, eb]
  have htk : (bl s).take s.size = bl s := by rw [← bl_len]; exact List.take_length
  have hat : ∀ k (hk : k < s.size), ∃ c, (bl s)[k]? = some c ∧ s[k]'hk = c := fun k hk => ⟨s[k]'hk, by rw [List.getElem?_eq_getElem (by rw [bl_len]; exact hk)]; exact congrArg some (at_list hk), rfl⟩
  rcases itoa_cases v with ⟨u, ev, h2⟩ | ⟨u, hu, ev, h2⟩
  · rw [h2] at eb hsz
    have hl := dec_len 10 u (by omega)
    have hpos : 0 < (Lib.decDigits u).length := List.length_pos_iff.2 (dec_ne u)
    have hh : (bl s).head? ≠ some 45 := fun hc => by
      rw [eb] at hc
      have := (dec_facts u).2 45 (List.mem_of_mem_head? hc)
      exact absurd this (by decide)
    refine ⟨by omega, fun k hk => ?_, by omega, v, e, h0, h1, .inr ⟨hh, ?_⟩⟩
    · obtain ⟨c, hc, ec⟩ := hat k hk
      rw [eb] at hc
      rw [ec]
      exact .inl ⟨(dec_facts u).2 c (List.mem_of_getElem? hc), dec_dig u c (List.mem_of_getElem? hc)⟩
    · unfold dgs
      rw [if_neg hh, htk, eb, ev]
      show _ = ((valD _ : Nat) : Int)
      rw [(dec_facts u).1]
  · rw [h2] at eb hsz
    have hl := dec_len 9 u (by omega)
    have hpos : 0 < (Lib.decDigits u).length := List.length_pos_iff.2 (dec_ne u)
    have hh : (bl s).head? = some 45 := by rw [eb]; rfl
    rw [List.length_cons] at hsz
    refine ⟨by omega, fun k hk => ?_, by omega, v, e, h0, h1, .inl ⟨hh, ?_⟩⟩
    · obtain ⟨c, hc, ec⟩ := hat k hk
      rw [eb] at hc
      rw [ec]
      cases k with
      | zero => simp at hc; exact .inr ⟨rfl, by rw [← hc]; rfl⟩
      | succ k =>
        rw [List.getElem?_cons_succ] at hc
        exact .inl ⟨(dec_facts u).2 c (List.mem_of_getElem? hc), dec_dig u c (List.mem_of_getElem? hc)⟩
    · unfold dgs
      rw [if_pos hh, htk, eb, ev]
      show _ = -((valD _ : Nat) : Int)
      rw [List.drop_one, List.tail_cons, (dec_facts u).1]
theorem dgs_zero (s : ByteArray) : dgs s 0 = [] := by unfold dgs; split <;> simp
theorem head_at {s : ByteArray} (h : 0 < s.size) : (bl s).head? = some (s[0]'h) := by
  rw [List.head?_eq_getElem?, List.getElem?_eq_getElem (by rw [bl_len]; exact h)]
  exact congrArg some (at_list h)
theorem dgs_sign {s : ByteArray} (h : 0 < s.size) (e : s[0]'h = 45) : dgs s 1 = [] := by
  unfold dgs
  rw [if_pos (by rw [head_at h, e])]
  simp
theorem dgs_step {s : ByteArray} {k : Nat} (h : k < s.size) (e : k = 0 → s[k]'h ≠ 45) : dgs s (k + 1) = dgs s k ++ [s[k]'h] := by
  have ht : (bl s).take (k + 1) = (bl s).take k ++ [s[k]'h] := by
    rw [List.take_succ_eq_append_getElem (by rw [bl_len]; exact h)]
    exact congrArg (fun c => _ ++ [c]) (at_list h)
  unfold dgs
  rw [ht]
  split
  · rename_i hh
    have hk : k ≠ 0 := fun h0 => by
      subst h0
      rw [head_at h] at hh
      exact e rfl (Option.some.inj hh)
    rw [List.drop_append_of_le_length (by rw [List.length_take, bl_len]; omega)]
  · rfl
/-- What number leaves. -/
def NumR (s : ByteArray) (e : Ending) : Prop := ∃ (k : Int) (ok : Bool), e = .returned (.tuple #[.int .i32 k, .bool ok]) ∧ Hid (ok = true → -2147483648 ≤ k ∧ k < 2147483648 ∧ s = itS k) ∧ Hid (isNum s → ok = true)
set_option maxRecDepth 100000 in
set_option maxHeartbeats 4000000 in
theorem rnumber_any (s : ByteArray) (hs : s.size ≤ 65536) (w : World) :
    Calls Tryz.prog 39 #[.string s] w fun e w' => Below w.heap.size w w' ∧ NumR s e := by
  go_enter Tryz.func39, Tryz.ntmps39
  go_wp2
  go_loopw [4, 5] (fun vn vi wr => ∃ k n : Nat, k ≤ s.size ∧ k ≤ 11 ∧ vi = .int .i64 k ∧ vn = .int .i64 n ∧ n < 100000000000 ∧ Hid (n = valF 0 (dgs s k) ∧ ∀ c ∈ dgs s k, 48 ≤ c.toNat ∧ c.toNat ≤ 57) ∧ w = wr) (fun _ vi _ => 11 - (intOf vi).toNat)
  case atStart => exact ⟨0, 0, Nat.zero_le _, by omega, rfl, rfl, by omega, by rw [dgs_zero]; exact ⟨rfl, fun c hc => by cases hc⟩, rfl⟩
  case round =>
    obtain ⟨k, n, hk, hk11, rfl, rfl, hn, hp, rfl⟩ := hrel
    by_cases hks : k < s.size
    · have hks' : (k : Int) < (s.size : Int) := by omega
      by_cases hk1 : k < 11
      · have hk1' : (k : Int) < 11 := by omega
        by_cases hsg : k = 0 ∧ (s[k]'hks).toNat = 45
        · obtain ⟨rfl, h45⟩ := hsg
          have h45' : ((s[0]'hks).toNat : Int) = 45 := by omega
          have hq : Hid (n = valF 0 (dgs s (0 + 1)) ∧ ∀ c ∈ dgs s (0 + 1), 48 ≤ c.toNat ∧ c.toNat ≤ 57) := by
            have e1 := dgs_sign hks (UInt8.toNat_inj.1 h45)
            have h2 := hp.out.1
            rw [dgs_zero] at h2
            show _ ∧ _
            rw [Nat.zero_add, e1]
            exact ⟨h2, fun c hc => by cases hc⟩
          clear hp
          go_wp2
          go_roundw
          case rel => exact ⟨0 + 1, n, by omega, by omega, by simp, rfl, hn, hq, trivial⟩
          case measure => simp [intOf]
        · have hs1 : ¬ ((k : Int) = 0 ∧ ((s[k]'hks).toNat : Int) = 45) := by omega
          by_cases hdg : 48 ≤ (s[k]'hks).toNat ∧ (s[k]'hks).toNat ≤ 57
          · obtain ⟨hd0, hd1⟩ := hdg
            have hd0' : 48 ≤ ((s[k]'hks).toNat : Int) := by omega
            have hd1' : ((s[k]'hks).toNat : Int) ≤ 57 := by omega
            have h45 : ¬ ((s[k]'hks).toNat : Int) = 45 := by omega
            have est := dgs_step hks (fun _ h => by rw [h] at hd0; exact absurd hd0 (by decide))
            have hall : ∀ c ∈ dgs s (k + 1), 48 ≤ c.toNat ∧ c.toNat ≤ 57 := by
              rw [est]
              intro c hc
              rcases List.mem_append.1 hc with hc | hc
              · exact hp.out.2 c hc
              · rw [List.mem_singleton.1 hc]; exact ⟨hd0, hd1⟩
            have hval : n * 10 + ((s[k]'hks).toNat - 48) = valF 0 (dgs s (k + 1)) := by rw [est, valF_snoc, ← hp.out.1]
            have hlt : n * 10 + ((s[k]'hks).toNat - 48) < 100000000000 := by
              rw [hval]
              have h1 := valF_lt (dgs s (k + 1)) 0 (fun c hc => (hall c hc).2)
              have h2 : 10 ^ (dgs s (k + 1)).length ≤ 10 ^ 11 := Nat.pow_le_pow_right (by omega) (Nat.le_trans (dgs_len s (k + 1)) (by omega))
              omega
            have hq : Hid (n * 10 + ((s[k]'hks).toNat - 48) = valF 0 (dgs s (k + 1)) ∧ ∀ c ∈ dgs s (k + 1), 48 ≤ c.toNat ∧ c.toNat ≤ 57) := ⟨hval, hall⟩
            clear hp est hall hval hsg hs1
            by_cases hk0 : k = 0
            · subst hk0
              go_wp2
              go_roundw
              case rel => exact ⟨0 + 1, n * 10 + ((s[0]'hks).toNat - 48), by omega, by omega, by simp, by congr 1; omega, hlt, hq, trivial⟩
              case measure => simp [intOf]
            · have hk0' : ¬ (k : Int) = 0 := by omega
              go_wp2
              go_roundw
              case rel => exact ⟨k + 1, n * 10 + ((s[k]'hks).toNat - 48), by omega, by omega, by simp, by congr 1; omega, hlt, hq, trivial⟩
              case measure => simp [intOf]; omega
          · have hno : Hid (isNum s → False) := fun hh => by
              rcases (num_facts hh).2.1 k hks with h1 | h1
              · exact hdg h1
              · exact hsg h1
            have hdg' : ¬ (48 ≤ ((s[k]'hks).toNat : Int) ∧ ((s[k]'hks).toNat : Int) ≤ 57) := by omega
            have hlo : ((s[k]'hks).toNat : Int) < 48 ∨ 57 < ((s[k]'hks).toNat : Int) := by omega
            clear hp hdg hsg
            by_cases hk0 : k = 0
            · subst hk0
              have h45 : ¬ ((s[0]'hks).toNat : Int) = 45 := by omega
              go_wp2
              all_goals first | (exfalso; omega) | (go_ret2; exact ⟨Below.refl _ _, 0, false, rfl, fun h => Bool.noConfusion h, fun h => (hno.out h).elim⟩)
            · have hk0' : ¬ (k : Int) = 0 := by omega
              go_wp2
              all_goals first | (exfalso; omega) | (go_ret2; exact ⟨Below.refl _ _, 0, false, rfl, fun h => Bool.noConfusion h, fun h => (hno.out h).elim⟩)
      · skip
        have hk1' : ¬ (k : Int) < 11 := by omega
        have h0s : 0 < s.size := by omega
        have hem1 : s.toList.isEmpty = false := by rw [em_list]; exact beq_eq_false_iff_ne.2 (by omega)
        obtain ⟨N, hN⟩ : ∃ N : Int, (n : Int) = N := ⟨_, rfl⟩
        have hN0 : 0 ≤ N := by omega
        have hN1 : N < 100000000000 := by omega
        have hpN : Hid (((valF 0 (dgs s k) : Nat) : Int) = N) := by show _ = _; rw [← hp.out.1, hN]
        rw [hN]
        clear hp hN hn
        by_cases h45 : (s[0]'h0s).toNat = 45
        · have h45' : ((s[0]'h0s).toNat : Int) = 45 := by omega
          have hNm : Hid (isNum s → ∃ v : Int, s = itS v ∧ -2147483648 ≤ v ∧ v < 2147483648 ∧ v = -N) := fun hh => absurd (num_facts hh).1 (by omega)
          by_cases hR : -2147483648 ≤ (-N) ∧ (-N) < 2147483648
          · obtain ⟨hR0, hR1⟩ := hR
            have hdg := fun W => rdigits_any (-N) (by omega) (by omega) W
            have hlb := list_beq (itS (-N)) s
            have hY : Hid (itS (-N) = s → -2147483648 ≤ (-N) ∧ (-N) < 2147483648 ∧ s = itS (-N)) := fun h => ⟨hR0, hR1, h.symm⟩
            have hN : Hid (¬ itS (-N) = s → isNum s → False) := fun h hh => by obtain ⟨v, e1, _, _, e2⟩ := hNm.out hh; rw [e2] at e1; exact h e1.symm
            clear hNm hpN h45
            obtain ⟨it, hit⟩ : ∃ it, itS (-N) = it := ⟨_, rfl⟩
            simp only [hit] at hdg
            rw [hit] at hlb hN
            by_cases hmm : it = s
            · rw [decide_eq_true hmm] at hlb
              have hZ : Hid _ := hY.out (hit.trans hmm)
              clear hN hmm hit hY
              go_wp2_with (go_at_call 65; refine (hdg _).mono ?_; rintro e w3 ⟨rfl, hb3⟩)
              go_ret2
              exact ⟨hb3, -N, true, rfl, fun _ => hZ.out, fun _ => rfl⟩
            · rw [decide_eq_false hmm] at hlb
              have hZ : Hid _ := hN.out hmm
              clear hN hmm hit hY
              go_wp2_with (go_at_call 65; refine (hdg _).mono ?_; rintro e w3 ⟨rfl, hb3⟩)
              go_ret2
              exact ⟨hb3, -N, false, rfl, fun h => Bool.noConfusion h, fun h => (hZ.out h).elim⟩
          · have hZ : Hid (isNum s → False) := fun hh => by obtain ⟨v, _, e0, e1, e2⟩ := hNm.out hh; rw [e2] at e0 e1; exact hR ⟨e0, e1⟩
            have hR' : (-N) < -2147483648 ∨ 2147483648 ≤ (-N) := by omega
            clear hNm hpN hR h45
            rcases hR' with hR | hR
            · go_wp2
              all_goals first | (exfalso; omega) | (go_ret2; exact ⟨Below.refl _ _, _, false, rfl, fun h => Bool.noConfusion h, fun h => (hZ.out h).elim⟩)
            · have hR2 : -2147483648 ≤ (-N) := by omega
              go_wp2
              all_goals first | (exfalso; omega) | (go_ret2; exact ⟨Below.refl _ _, _, false, rfl, fun h => Bool.noConfusion h, fun h => (hZ.out h).elim⟩)
        · have h45' : ¬ ((s[0]'h0s).toNat : Int) = 45 := by omega
          have hNm : Hid (isNum s → ∃ v : Int, s = itS v ∧ -2147483648 ≤ v ∧ v < 2147483648 ∧ v = N) := fun hh => absurd (num_facts hh).1 (by omega)
          by_cases hR : -2147483648 ≤ (N) ∧ (N) < 2147483648
          · obtain ⟨hR0, hR1⟩ := hR
            have hdg := fun W => rdigits_any (N) (by omega) (by omega) W
            have hlb := list_beq (itS (N)) s
            have hY : Hid (itS (N) = s → -2147483648 ≤ (N) ∧ (N) < 2147483648 ∧ s = itS (N)) := fun h => ⟨hR0, hR1, h.symm⟩
            have hN : Hid (¬ itS (N) = s → isNum s → False) := fun h hh => by obtain ⟨v, e1, _, _, e2⟩ := hNm.out hh; rw [e2] at e1; exact h e1.symm
            clear hNm hpN h45
            obtain ⟨it, hit⟩ : ∃ it, itS (N) = it := ⟨_, rfl⟩
            simp only [hit] at hdg
            rw [hit] at hlb hN
            by_cases hmm : it = s
            · rw [decide_eq_true hmm] at hlb
              have hZ : Hid _ := hY.out (hit.trans hmm)
              clear hN hmm hit hY
              go_wp2_with (go_at_call 65; refine (hdg _).mono ?_; rintro e w3 ⟨rfl, hb3⟩)
              go_ret2
              exact ⟨hb3, N, true, rfl, fun _ => hZ.out, fun _ => rfl⟩
            · rw [decide_eq_false hmm] at hlb
              have hZ : Hid _ := hN.out hmm
              clear hN hmm hit hY
              go_wp2_with (go_at_call 65; refine (hdg _).mono ?_; rintro e w3 ⟨rfl, hb3⟩)
              go_ret2
              exact ⟨hb3, N, false, rfl, fun h => Bool.noConfusion h, fun h => (hZ.out h).elim⟩
          · have hZ : Hid (isNum s → False) := fun hh => by obtain ⟨v, _, e0, e1, e2⟩ := hNm.out hh; rw [e2] at e0 e1; exact hR ⟨e0, e1⟩
            have hR' : (N) < -2147483648 ∨ 2147483648 ≤ (N) := by omega
            clear hNm hpN hR h45
            rcases hR' with hR | hR
            · go_wp2
              all_goals first | (exfalso; omega) | (go_ret2; exact ⟨Below.refl _ _, _, false, rfl, fun h => Bool.noConfusion h, fun h => (hZ.out h).elim⟩)
            · have hR2 : -2147483648 ≤ (N) := by omega
              go_wp2
              all_goals first | (exfalso; omega) | (go_ret2; exact ⟨Below.refl _ _, _, false, rfl, fun h => Bool.noConfusion h, fun h => (hZ.out h).elim⟩)
    · skip
      obtain rfl : k = s.size := by omega
      by_cases h0s : 0 < s.size
      · have hem1 : s.toList.isEmpty = false := by rw [em_list]; exact beq_eq_false_iff_ne.2 (by omega)
        obtain ⟨N, hN⟩ : ∃ N : Int, (n : Int) = N := ⟨_, rfl⟩
        have hN0 : 0 ≤ N := by omega
        have hN1 : N < 100000000000 := by omega
        have hpN : Hid (((valF 0 (dgs s s.size) : Nat) : Int) = N) := by show _ = _; rw [← hp.out.1, hN]
        rw [hN]
        clear hp hN hn
        by_cases h45 : (s[0]'h0s).toNat = 45
        · have h45' : ((s[0]'h0s).toNat : Int) = 45 := by omega
          have hNm : Hid (isNum s → ∃ v : Int, s = itS v ∧ -2147483648 ≤ v ∧ v < 2147483648 ∧ v = -N) := fun hh => by
            obtain ⟨_, _, _, v, e, v0, v1, hc⟩ := num_facts hh
            rcases hc with ⟨h1, h2⟩ | ⟨h1, h2⟩
            · exact ⟨v, e, v0, v1, by rw [h2, hpN.out]⟩
            · exact absurd (by rw [head_at h0s, show s[0]'h0s = 45 from UInt8.toNat_inj.1 h45]) h1
          by_cases hR : -2147483648 ≤ (-N) ∧ (-N) < 2147483648
          · obtain ⟨hR0, hR1⟩ := hR
            have hdg := fun W => rdigits_any (-N) (by omega) (by omega) W
            have hlb := list_beq (itS (-N)) s
            have hY : Hid (itS (-N) = s → -2147483648 ≤ (-N) ∧ (-N) < 2147483648 ∧ s = itS (-N)) := fun h => ⟨hR0, hR1, h.symm⟩
            have hN : Hid (¬ itS (-N) = s → isNum s → False) := fun h hh => by obtain ⟨v, e1, _, _, e2⟩ := hNm.out hh; rw [e2] at e1; exact h e1.symm
            clear hNm hpN h45
            obtain ⟨it, hit⟩ : ∃ it, itS (-N) = it := ⟨_, rfl⟩
            simp only [hit] at hdg
            rw [hit] at hlb hN
            by_cases hmm : it = s
            · rw [decide_eq_true hmm] at hlb
              have hZ : Hid _ := hY.out (hit.trans hmm)
              clear hN hmm hit hY
              go_wp2_with (go_at_call 65; refine (hdg _).mono ?_; rintro e w3 ⟨rfl, hb3⟩)
              go_ret2
              exact ⟨hb3, -N, true, rfl, fun _ => hZ.out, fun _ => rfl⟩
            · rw [decide_eq_false hmm] at hlb
              have hZ : Hid _ := hN.out hmm
              clear hN hmm hit hY
              go_wp2_with (go_at_call 65; refine (hdg _).mono ?_; rintro e w3 ⟨rfl, hb3⟩)
              go_ret2
              exact ⟨hb3, -N, false, rfl, fun h => Bool.noConfusion h, fun h => (hZ.out h).elim⟩
          · have hZ : Hid (isNum s → False) := fun hh => by obtain ⟨v, _, e0, e1, e2⟩ := hNm.out hh; rw [e2] at e0 e1; exact hR ⟨e0, e1⟩
            have hR' : (-N) < -2147483648 ∨ 2147483648 ≤ (-N) := by omega
            clear hNm hpN hR h45
            rcases hR' with hR | hR
            · go_wp2
              all_goals first | (exfalso; omega) | (go_ret2; exact ⟨Below.refl _ _, _, false, rfl, fun h => Bool.noConfusion h, fun h => (hZ.out h).elim⟩)
            · have hR2 : -2147483648 ≤ (-N) := by omega
              go_wp2
              all_goals first | (exfalso; omega) | (go_ret2; exact ⟨Below.refl _ _, _, false, rfl, fun h => Bool.noConfusion h, fun h => (hZ.out h).elim⟩)
        · have h45' : ¬ ((s[0]'h0s).toNat : Int) = 45 := by omega
          have hNm : Hid (isNum s → ∃ v : Int, s = itS v ∧ -2147483648 ≤ v ∧ v < 2147483648 ∧ v = N) := fun hh => by
            obtain ⟨_, _, _, v, e, v0, v1, hc⟩ := num_facts hh
            rcases hc with ⟨h1, h2⟩ | ⟨h1, h2⟩
            · rw [head_at h0s] at h1; exact absurd (by rw [Option.some.inj h1]; rfl) h45
            · exact ⟨v, e, v0, v1, by rw [h2, hpN.out]⟩
          by_cases hR : -2147483648 ≤ (N) ∧ (N) < 2147483648
          · obtain ⟨hR0, hR1⟩ := hR
            have hdg := fun W => rdigits_any (N) (by omega) (by omega) W
            have hlb := list_beq (itS (N)) s
            have hY : Hid (itS (N) = s → -2147483648 ≤ (N) ∧ (N) < 2147483648 ∧ s = itS (N)) := fun h => ⟨hR0, hR1, h.symm⟩
            have hN : Hid (¬ itS (N) = s → isNum s → False) := fun h hh => by obtain ⟨v, e1, _, _, e2⟩ := hNm.out hh; rw [e2] at e1; exact h e1.symm
            clear hNm hpN h45
            obtain ⟨it, hit⟩ : ∃ it, itS (N) = it := ⟨_, rfl⟩
            simp only [hit] at hdg
            rw [hit] at hlb hN
            by_cases hmm : it = s
            · rw [decide_eq_true hmm] at hlb
              have hZ : Hid _ := hY.out (hit.trans hmm)
              clear hN hmm hit hY
              go_wp2_with (go_at_call 65; refine (hdg _).mono ?_; rintro e w3 ⟨rfl, hb3⟩)
              go_ret2
              exact ⟨hb3, N, true, rfl, fun _ => hZ.out, fun _ => rfl⟩
            · rw [decide_eq_false hmm] at hlb
              have hZ : Hid _ := hN.out hmm
              clear hN hmm hit hY
              go_wp2_with (go_at_call 65; refine (hdg _).mono ?_; rintro e w3 ⟨rfl, hb3⟩)
              go_ret2
              exact ⟨hb3, N, false, rfl, fun h => Bool.noConfusion h, fun h => (hZ.out h).elim⟩
          · have hZ : Hid (isNum s → False) := fun hh => by obtain ⟨v, _, e0, e1, e2⟩ := hNm.out hh; rw [e2] at e0 e1; exact hR ⟨e0, e1⟩
            have hR' : (N) < -2147483648 ∨ 2147483648 ≤ (N) := by omega
            clear hNm hpN hR h45
            rcases hR' with hR | hR
            · go_wp2
              all_goals first | (exfalso; omega) | (go_ret2; exact ⟨Below.refl _ _, _, false, rfl, fun h => Bool.noConfusion h, fun h => (hZ.out h).elim⟩)
            · have hR2 : -2147483648 ≤ (N) := by omega
              go_wp2
              all_goals first | (exfalso; omega) | (go_ret2; exact ⟨Below.refl _ _, _, false, rfl, fun h => Bool.noConfusion h, fun h => (hZ.out h).elim⟩)
      · have hs0 : s.size = 0 := by omega
        have hem1 : s.toList.isEmpty = true := by rw [em_list]; exact beq_iff_eq.2 hs0
        obtain ⟨N, hN⟩ : ∃ N : Int, (n : Int) = N := ⟨_, rfl⟩
        have hN0 : 0 ≤ N := by omega
        have hN1 : N < 100000000000 := by omega
        have hpN : Hid (((valF 0 (dgs s s.size) : Nat) : Int) = N) := by show _ = _; rw [← hp.out.1, hN]
        rw [hN]
        clear hp hN hn
        have h45 := 0
        have hNm : Hid (isNum s → ∃ v : Int, s = itS v ∧ -2147483648 ≤ v ∧ v < 2147483648 ∧ v = N) := fun hh => absurd (num_facts hh).2.2.1 h0s
        by_cases hR : -2147483648 ≤ (N) ∧ (N) < 2147483648
        · obtain ⟨hR0, hR1⟩ := hR
          have hdg := fun W => rdigits_any (N) (by omega) (by omega) W
          have hlb := list_beq (itS (N)) s
          have hY : Hid (itS (N) = s → -2147483648 ≤ (N) ∧ (N) < 2147483648 ∧ s = itS (N)) := fun h => ⟨hR0, hR1, h.symm⟩
          have hN : Hid (¬ itS (N) = s → isNum s → False) := fun h hh => by obtain ⟨v, e1, _, _, e2⟩ := hNm.out hh; rw [e2] at e1; exact h e1.symm
          clear hNm hpN h45
          obtain ⟨it, hit⟩ : ∃ it, itS (N) = it := ⟨_, rfl⟩
          simp only [hit] at hdg
          rw [hit] at hlb hN
          by_cases hmm : it = s
          · rw [decide_eq_true hmm] at hlb
            have hZ : Hid _ := hY.out (hit.trans hmm)
            clear hN hmm hit hY
            go_wp2_with (go_at_call 65; refine (hdg _).mono ?_; rintro e w3 ⟨rfl, hb3⟩)
            go_ret2
            exact ⟨hb3, N, true, rfl, fun _ => hZ.out, fun _ => rfl⟩
          · rw [decide_eq_false hmm] at hlb
            have hZ : Hid _ := hN.out hmm
            clear hN hmm hit hY
            go_wp2_with (go_at_call 65; refine (hdg _).mono ?_; rintro e w3 ⟨rfl, hb3⟩)
            go_ret2
            exact ⟨hb3, N, false, rfl, fun h => Bool.noConfusion h, fun h => (hZ.out h).elim⟩
        · have hZ : Hid (isNum s → False) := fun hh => by obtain ⟨v, _, e0, e1, e2⟩ := hNm.out hh; rw [e2] at e0 e1; exact hR ⟨e0, e1⟩
          have hR' : (N) < -2147483648 ∨ 2147483648 ≤ (N) := by omega
          clear hNm hpN hR h45
          rcases hR' with hR | hR
          · go_wp2
            all_goals first | (exfalso; omega) | (go_ret2; exact ⟨Below.refl _ _, _, false, rfl, fun h => Bool.noConfusion h, fun h => (hZ.out h).elim⟩)
          · have hR2 : -2147483648 ≤ (N) := by omega
            go_wp2
            all_goals first | (exfalso; omega) | (go_ret2; exact ⟨Below.refl _ _, _, false, rfl, fun h => Bool.noConfusion h, fun h => (hZ.out h).elim⟩)
def wStep (st : List (List UInt8) × List UInt8) (c : UInt8) : List (List UInt8) × List UInt8 := if c = 32 then (st.1 ++ [st.2], []) else (st.1, st.2 ++ [c])
def wSt (l : List UInt8) : List (List UInt8) × List UInt8 := l.foldl wStep ([], [])
theorem wSt_snoc (l : List UInt8) (c : UInt8) : wSt (l ++ [c]) = wStep (wSt l) c := by simp [wSt]
/-- A text's words. -/
def wAll (s : ByteArray) : List ByteArray := ((wSt (bl s)).1 ++ [(wSt (bl s)).2]).map sb
theorem wSt_no : ∀ (nm : List UInt8) (D : List (List UInt8)) (c : List UInt8), (∀ x ∈ nm, x ≠ 32) → nm.foldl wStep (D, c) = (D, c ++ nm)
  | [], D, c, _ => by simp
  | x :: nm, D, c, h => by
    rw [List.foldl_cons, show wStep (D, c) x = (D, c ++ [x]) by unfold wStep; rw [if_neg (h x (by simp))], wSt_no nm D _ (fun y hy => h y (by simp [hy]))]
    simp
theorem wSt_join : ∀ (ps : List (List UInt8)) (nm : List UInt8) (D : List (List UInt8)), (∀ c ∈ nm, c ≠ 32) → (∀ p ∈ ps, ∀ c ∈ p, c ≠ 32) → ((nm ++ joinP ps).foldl wStep (D, [])).1 ++ [((nm ++ joinP ps).foldl wStep (D, [])).2] = D ++ nm :: ps
  | [], nm, D, hn, _ => by
    show ((nm ++ []).foldl wStep (D, [])).1 ++ [((nm ++ []).foldl wStep (D, [])).2] = _
    rw [List.append_nil, wSt_no nm D [] hn]
    simp
  | p :: ps, nm, D, hn, hp => by
    have e : nm ++ joinP (p :: ps) = nm ++ 32 :: (p ++ joinP ps) := by simp [joinP]
    have ih := wSt_join ps p (D ++ [nm]) (hp p (by simp)) (fun q hq => hp q (by simp [hq]))
    have e2 : (nm ++ 32 :: (p ++ joinP ps)).foldl wStep (D, []) = (p ++ joinP ps).foldl wStep (D ++ [nm], []) := by
      rw [List.foldl_append, wSt_no nm D [] hn, List.foldl_cons]
      rfl
    rw [e, e2, ih]
    simp
theorem wAll_join {s nm : ByteArray} {ps : List (List UInt8)} (e : bl s = bl nm ++ joinP ps) (hn : ∀ c ∈ bl nm, c ≠ 32) (hp : ∀ p ∈ ps, ∀ c ∈ p, c ≠ 32) : wAll s = nm :: ps.map sb := by
  have h := wSt_join ps (bl nm) [] hn hp
  rw [← e] at h
  unfold wAll
  have h2 : (wSt (bl s)).1 ++ [(wSt (bl s)).2] = bl nm :: ps := h
  rw [h2, List.map_cons, sb_bl]
def strV (D : List ByteArray) : List Value := D.map Value.string
theorem infoStr : (Tryz.prog.info? 9).map (fun i => (i.zero, i.size, i.bytes)) = some (some (.string ⟨#[]⟩), 1, 16) := by kernel_rfl
/-- The words of a row. -/
def Sts (B : Nat) (w : World) (ao : Option Addr) (n cap : Nat) (D : List ByteArray) : Prop :=
  D.length = n ∧ n ≤ cap ∧ (0 < n → ∃ b off, ao = some ⟨b, off, none⟩ ∧ b < B ∧ ∀ i, i < n → w.cell? ⟨b, off + i, none⟩ = some (.string (D.getD i ⟨#[]⟩)))
section
variable {w w' : World} {ao : Option Addr} {n cap B : Nat} {D : List ByteArray}
theorem Sts.next (h : Sts w.heap.size w ao n cap D) (k : Below w.heap.size w w') : Sts w'.heap.size w' ao n cap D := by
  obtain ⟨h1, h2, h4⟩ := h
  refine ⟨h1, h2, fun hn => ?_⟩
  obtain ⟨b, off, e, hb, hc⟩ := h4 hn
  exact ⟨b, off, e, Nat.lt_of_lt_of_le hb k.size, fun i hi => (World.cell?_of_block (w := w) (a := ⟨b, off + i, none⟩) (k.block b hb)).trans (hc i hi)⟩
theorem Sts.at (h : Sts B w ao n cap D) {i : Nat} (hi : i < n) : ∃ (b off : Nat), ao = some ⟨b, off, none⟩ ∧ b < B ∧ w.cell? ⟨b, off + i, none⟩ = some (.string (D.getD i ⟨#[]⟩)) := by
  obtain ⟨h1, h2, h4⟩ := h
  obtain ⟨b, off, e, hb, hc⟩ := h4 (by omega)
  exact ⟨b, off, e, hb, hc i hi⟩
theorem sts_of_row {v : Value} {C : Nat} (h : w.ownsRow C 9 1 v D.length (strV D)) : ∃ ao cap, v = .slice ao D.length cap ∧ Sts w.heap.size w ao D.length cap D := by
  have hl := h
  rcases h.2 with ⟨rfl, h0⟩ | ⟨g, c, cur, rfl, hb, hg, hkc, hcm, hcs, htk⟩
  · exact ⟨none, 0, by rw [h0], rfl, by omega, fun hn => by omega⟩
  · refine ⟨some ⟨g, 0, none⟩, c, rfl, rfl, hkc, fun hn => ⟨g, 0, rfl, (Array.getElem?_eq_some_iff.1 hg).1, fun i hi => ?_⟩⟩
    have := hl.cells (g := g) rfl i (.string (D.getD i ⟨#[]⟩)) (by
      unfold strV
      rw [List.getElem?_map, List.getElem?_eq_getElem hi, List.getD_eq_getElem?_getD, List.getElem?_eq_getElem hi]
      rfl)
    have e : (⟨g, 0, none⟩ : Addr).add i = ⟨g, 0 + i, none⟩ := by simp [Addr.add]; intro h; exact h.symm
    rw [e] at this
    exact this
end
theorem strV_snoc (D : List ByteArray) (t : ByteArray) : strV (D ++ [t]) = strV D ++ [.string t] := by simp [strV]
theorem bl_ext (s : ByteArray) (f k : Nat) : bl (s.extract f k) = ((bl s).take k).drop f := by
  show (s.extract f k).data.toList = _
  rw [Lib.extract_data, ← List.drop_take]
  rfl
set_option maxRecDepth 100000 in
set_option maxHeartbeats 4000000 in
theorem rwords_any (s : ByteArray) (hs : s.size ≤ 65536) (w : World) :
    Calls Tryz.prog 34 #[.string s] w fun e w' => Below w.heap.size w w' ∧ ∃ v, e = .returned v ∧ w'.ownsRow w.heap.size 9 1 v (wAll s).length (strV (wAll s)) := by
  obtain ⟨i0, hi, hz0, hz1, hz2⟩ := info_parts infoStr
  go_enter Tryz.func34, Tryz.ntmps34
  go_wp2
  go_loopw [3, 4, 5] (fun vl vf vi wr => ∃ (k f : Nat) (D : List ByteArray), k ≤ s.size + 1 ∧ f ≤ k ∧ vi = .int .i64 k ∧ vf = .int .i64 f ∧ wr.ownsRow w.heap.size 9 1 vl D.length (strV D) ∧ D.length ≤ k ∧
    Hid ((k ≤ s.size → D.map bl = (wSt ((bl s).take k)).1 ∧ (wSt ((bl s).take k)).2 = ((bl s).take k).drop f) ∧ (k = s.size + 1 → D = wAll s)) ∧ Below w.heap.size w wr) (fun _ _ vi _ => s.size + 1 - (intOf vi).toNat)
  case atStart => exact ⟨0, 0, [], by omega, by omega, rfl, rfl, ⟨rfl, .inl ⟨rfl, rfl⟩⟩, by simp, ⟨fun _ => ⟨rfl, rfl⟩, fun h => by omega⟩, Below.refl _ _⟩
  case round =>
    obtain ⟨k, f, D, hk, hf, rfl, rfl, hrow, hDl, hp, hB⟩ := hrel
    obtain ⟨ar, cr, rfl⟩ := row_slice hrow
    by_cases hks : k ≤ s.size
    · have hks' : (k : Int) ≤ (s.size : Int) := by omega
      have hf' : (f : Int) ≤ (k : Int) := by omega
      by_cases hke : k = s.size
      · subst hke
        have hq : Hid (D ++ [s.extract f s.size] = wAll s) := by
          show _ = _
          obtain ⟨h1, h2⟩ := hp.out.1 hks
          have ht : (bl s).take s.size = bl s := by rw [← bl_len]; exact List.take_length
          have hbe := bl_ext s f s.size
          rw [ht] at h1 h2 hbe
          unfold wAll
          rw [List.map_append, ← h1, h2, ← hbe, List.map_map]
          have h5 : (sb ∘ bl) = id := funext fun t => sb_bl t
          rw [h5, List.map_id]
          simp [sb_bl]
        clear hp
        go_wp2_with (at_builtin; refine wpList_append_own _ rfl _ _ 74 rfl w.heap.size 9 i0 (.string ⟨#[]⟩) 1 16 Tryz.underlying74 hi hz0 hz1 hz2 rfl (by decide) _ _ _ rfl (hrow.alloc _) ⟨wr.heap.size, 0, none⟩ 1 1 [.string (s.extract f s.size)] rfl rfl (cell_one_new _ _ _) (by simp [Value.oneCell']) (by unfold maxLen; omega) (by omega) (Nat.le_trans hB.size (by simp)) ?_; intro v6 w6 hown6 hg6 _)
        have hB6 : Below w.heap.size w w6 := (hB.alloc hB.size _).grown hg6 (Nat.le_trans hB.size (by simp)) (fun k hk => (hrow.lt k hk).1)
        go_roundw
        case rel => exact ⟨s.size + 1, s.size + 1, D ++ [s.extract f s.size], by omega, by omega, by simp, by simp, by rw [List.length_append, strV_snoc]; exact hown6, by rw [List.length_append]; show D.length + 1 ≤ _; omega, ⟨fun h => by omega, fun _ => hq.out⟩, hB6⟩
        case measure => simp [intOf]
      · have hkl : k < s.size := by omega
        have hkl' : (k : Int) < (s.size : Int) := by omega
        have hke' : ¬ (k : Int) = (s.size : Int) := by omega
        have htk : (bl s).take (k + 1) = (bl s).take k ++ [s[k]'hkl] := by
          rw [List.take_succ_eq_append_getElem (by rw [bl_len]; exact hkl)]
          exact congrArg (fun c => _ ++ [c]) (at_list hkl)
        by_cases hc : (s[k]'hkl).toNat = 32
        · have hc' : ((s[k]'hkl).toNat : Int) = 32 := by omega
          have hq : Hid ((k + 1 ≤ s.size → (D ++ [s.extract f k]).map bl = (wSt ((bl s).take (k + 1))).1 ∧ (wSt ((bl s).take (k + 1))).2 = ((bl s).take (k + 1)).drop (k + 1)) ∧ (k + 1 = s.size + 1 → D ++ [s.extract f k] = wAll s)) := by
            obtain ⟨h1, h2⟩ := hp.out.1 hks
            refine ⟨fun _ => ?_, fun h => absurd h (by omega)⟩
            rw [htk, wSt_snoc]
            unfold wStep
            rw [if_pos (show s[k]'hkl = 32 from UInt8.toNat_inj.1 hc)]
            refine ⟨?_, ?_⟩
            · rw [List.map_append, h1, h2]; simp [bl_ext]
            · rw [← htk]; symm; rw [List.drop_eq_nil_iff, List.length_take]; omega
          clear hp hc htk
          go_wp2_with (at_builtin; refine wpList_append_own _ rfl _ _ 74 rfl w.heap.size 9 i0 (.string ⟨#[]⟩) 1 16 Tryz.underlying74 hi hz0 hz1 hz2 rfl (by decide) _ _ _ rfl (hrow.alloc _) ⟨wr.heap.size, 0, none⟩ 1 1 [.string (s.extract f k)] rfl rfl (cell_one_new _ _ _) (by simp [Value.oneCell']) (by unfold maxLen; omega) (by omega) (Nat.le_trans hB.size (by simp)) ?_; intro v6 w6 hown6 hg6 _)
          have hB6 : Below w.heap.size w w6 := (hB.alloc hB.size _).grown hg6 (Nat.le_trans hB.size (by simp)) (fun k hk => (hrow.lt k hk).1)
          go_roundw
          case rel => exact ⟨k + 1, k + 1, D ++ [s.extract f k], by omega, by omega, by simp, by simp, by rw [List.length_append, strV_snoc]; exact hown6, by rw [List.length_append]; show D.length + 1 ≤ _; omega, hq, hB6⟩
          case measure => simp [intOf]; omega
        · have hc' : ¬ ((s[k]'hkl).toNat : Int) = 32 := by omega
          have hcb : (((s[k]'hkl).toNat : Int) == 32) = false := beq_eq_false_iff_ne.2 hc'
          have hkb : ((k : Int) == (s.size : Int)) = false := beq_eq_false_iff_ne.2 hke'
          have hq : Hid ((k + 1 ≤ s.size → D.map bl = (wSt ((bl s).take (k + 1))).1 ∧ (wSt ((bl s).take (k + 1))).2 = ((bl s).take (k + 1)).drop f) ∧ (k + 1 = s.size + 1 → D = wAll s)) := by
            obtain ⟨h1, h2⟩ := hp.out.1 hks
            refine ⟨fun _ => ?_, fun h => absurd h (by omega)⟩
            rw [htk, wSt_snoc]
            unfold wStep
            rw [if_neg (fun h => hc (by rw [h]; rfl))]
            refine ⟨h1, ?_⟩
            rw [h2, List.drop_append_of_le_length (by rw [List.length_take, bl_len]; omega)]
          clear hp hc htk
          go_wp2
          go_roundw
          case rel => exact ⟨k + 1, f, D, by omega, by omega, by simp, rfl, hrow, by omega, hq, hB⟩
          case measure => simp [intOf]; omega
    · obtain rfl : k = s.size + 1 := by omega
      have hr : Hid (D = wAll s) := hp.out.2 rfl
      clear hp
      go_wp2
      go_ret
      exact ⟨hB, _, rfl, by rw [← hr.out]; exact hrow⟩
theorem ba_nil' (s : ByteArray) : s ++ ⟨#[]⟩ = s := ba_ext (by rw [app_list]; simp)
/-- What target leaves. -/
def TgtR (s : ByteArray) (e : Ending) : Prop := ∃ (m : ByteArray) (k : Int) (ok : Bool), e = .returned (.tuple #[.string m, .int .i32 k, .bool ok]) ∧ m.size ≤ s.size ∧ Hid (ok = true → -2147483648 ≤ k ∧ k < 2147483648) ∧
  Hid (∀ (t : ByteArray) (i : Int), nameB t = true → -2147483648 ≤ i → i < 2147483648 → s = t ++ addS i → m = t ∧ k = i ∧ ok = true)
theorem itS_inj {v v' : Int} (h : itS v = itS v') : v = v' := itoa_inj (congrArg bl h)
/-- A text that is a mark's name and what is added, cut at its first plus. -/
theorem tgt_cut {s t : ByteArray} {i : Int} {k : Nat} (hk : k < s.size) (h43 : s[k]'hk = 43) (hno : ∀ c ∈ (bl s).take k, c ≠ 43) (ht : nameB t = true) (e : s = t ++ addS i) : s.extract 0 k = t ∧ s.extract (k + 1) s.size = itS i ∧ i ≠ 0 := by
  have hn : ∀ d ∈ bl t, d ≠ 43 := fun d hd => (ld_not (name_bytes ht d hd)).2.2.2
  have hsp : bl s = (bl s).take k ++ 43 :: (bl s).drop (k + 1) := by
    have h1 : k < (bl s).length := by rw [bl_len]; exact hk
    have h2 : (bl s)[k] = 43 := (at_list hk).trans h43
    rw [← h2, List.getElem_cons_drop, List.take_append_drop]
  by_cases h0 : i = 0
  · exfalso
    have : bl s = bl t := by rw [e, bl_app, h0]; show bl t ++ [] = _; rw [List.append_nil]
    exact hn 43 (by rw [← this, hsp]; simp) rfl
  · have e1 : bl s = bl t ++ 43 :: Lib.itoa i := by rw [e, bl_app]; unfold addS; rw [if_neg h0, bl_app]; rfl
    have h1 := cut_hit (r := Lib.itoa i) hn
    have h2 := cut_hit (r := (bl s).drop (k + 1)) hno
    rw [← hsp, e1] at h2
    have h3 := h1.symm.trans h2
    have h4 : bl t = (bl s).take k := by rw [e1]; exact congrArg (·.1) h3
    have h5 : Lib.itoa i = (bl s).drop (k + 1) := by rw [e1]; exact congrArg (·.2.1) h3
    refine ⟨ba_ext ?_, ba_ext ?_, h0⟩
    · rw [Lib.extract_from_zero]; exact h4.symm
    · have := bl_ext s (k + 1) s.size
      rw [show (bl s).take s.size = bl s by rw [← bl_len]; exact List.take_length] at this
      exact this.trans h5.symm
theorem tgt_all {s t : ByteArray} {i : Int} (hno : ∀ c ∈ bl s, c ≠ 43) (e : s = t ++ addS i) : s = t ∧ i = 0 := by
  by_cases h0 : i = 0
  · refine ⟨?_, h0⟩
    rw [e, h0]
    exact ba_nil' t
  · exfalso
    have e1 : bl s = bl t ++ 43 :: Lib.itoa i := by rw [e, bl_app]; unfold addS; rw [if_neg h0, bl_app]; rfl
    exact hno 43 (by rw [e1]; simp) rfl
set_option maxRecDepth 100000 in
set_option maxHeartbeats 4000000 in
theorem rtarget_any (s : ByteArray) (hs : s.size ≤ 65536) (w : World) :
    Calls Tryz.prog 38 #[.string s] w fun e w' => Below w.heap.size w w' ∧ TgtR s e := by
  go_enter Tryz.func38, Tryz.ntmps38
  go_wp2
  go_loopw [5] (fun vi wr => ∃ k : Nat, k ≤ s.size ∧ vi = .int .i64 k ∧ Hid (∀ c ∈ (bl s).take k, c ≠ 43) ∧ w = wr) (fun vi _ => s.size - (intOf vi).toNat)
  case atStart => exact ⟨0, Nat.zero_le _, rfl, fun c hc => by simp at hc, rfl⟩
  case round =>
    obtain ⟨k, hk, rfl, hp, rfl⟩ := hrel
    by_cases hks : k < s.size
    · have hks' : (k : Int) < (s.size : Int) := by omega
      by_cases hc : (s[k]'hks).toNat = 43
      · have hc' : ((s[k]'hks).toNat : Int) = 43 := by omega
        have hcut : Hid (∀ (t : ByteArray) (i : Int), nameB t = true → s = t ++ addS i → s.extract 0 k = t ∧ s.extract (k + 1) s.size = itS i ∧ i ≠ 0) := fun t i ht e => tgt_cut hks (UInt8.toNat_inj.1 hc) hp.out ht e
        have hnu := fun W => rnumber_any (s.extract (k + 1) s.size) (Nat.le_trans (ext_size _ _ _) hs) W
        have hes := ext_size s 0 k
        have hk1 : (k : Int) + 1 ≤ (s.size : Int) := by omega
        clear hp hc
        obtain ⟨r, hr⟩ : ∃ r, s.extract (k + 1) s.size = r := ⟨_, rfl⟩
        rw [hr] at hcut
        simp only [hr] at hnu
        go_wp2_with (go_at_call 39; first | rw [hr] | skip; refine (hnu _).mono ?_; rintro e w3 ⟨hb3, k3, ok3, rfl, hA, hC⟩)
        go_ret3
        exact ⟨hb3, s.extract 0 k, k3, ok3, rfl, hes, fun h => ⟨(hA.out h).1, (hA.out h).2.1⟩, fun t i ht h0 h1 e => by
          obtain ⟨e1, e2, _⟩ := hcut.out t i ht e
          have hok := hC.out ⟨i, h0, h1, e2⟩
          exact ⟨e1, itS_inj ((hA.out hok).2.2.symm.trans e2), hok⟩⟩
      · have hc' : ¬ ((s[k]'hks).toNat : Int) = 43 := by omega
        have hq : Hid (∀ c ∈ (bl s).take (k + 1), c ≠ 43) := fun c hc2 => by
          rw [List.take_succ_eq_append_getElem (by rw [bl_len]; exact hks)] at hc2
          rcases List.mem_append.1 hc2 with h1 | h1
          · exact hp.out c h1
          · rw [List.mem_singleton.1 h1, show (bl s)[k]'(by rw [bl_len]; exact hks) = s[k]'hks from at_list hks]; intro h; exact hc (by rw [h]; rfl)
        clear hp hc
        go_wp2
        go_roundw
        case rel => exact ⟨k + 1, by omega, by simp, hq, trivial⟩
        case measure => simp [intOf]; omega
    · obtain rfl : k = s.size := by omega
      have hq : Hid (∀ (t : ByteArray) (i : Int), s = t ++ addS i → s = t ∧ i = 0) := fun t i e => tgt_all (by have h3 := hp.out; rw [← bl_len, List.take_length] at h3; exact h3) e
      clear hp
      go_wp2
      go_ret3
      exact ⟨Below.refl _ _, s, 0, true, rfl, Nat.le_refl _, fun _ => ⟨by omega, by omega⟩, fun t i ht h0 h1 e => ⟨(hq.out t i e).1, (hq.out t i e).2.symm, rfl⟩⟩
theorem line_wAll {x : Ln} (h : insB x = true) : wAll (lineT x) = nmS x.op :: ((Ins.shp x.op).map (pOf x)).map sb := by
  obtain ⟨k, hk, e⟩ := ins_op h
  refine wAll_join (line_list h) ?_ ?_
  · rw [e]; exact fun c hc => ((nm_bytes ⟨k, hk⟩).1 c hc).2.2
  · intro p hp c hc
    obtain ⟨l, _, rfl⟩ := List.mem_map.1 hp
    exact (pOf_not h l c hc).2.2
theorem name_wAll {k : Nat} (hk : k < 26) : (wAll (txS (k : Int) 0 0 0 0)).getD 0 ⟨#[]⟩ = nmS (k : Int) ∧ 0 < (wAll (txS (k : Int) 0 0 0 0)).length := by
  have hi : insB ⟨⟨#[]⟩, (k : Int), 0, 0, 0, 0, ⟨#[]⟩⟩ = true := by
    unfold insB
    rw [show Ins.fitB (Ln.mk ⟨#[]⟩ (k : Int) 0 0 0 0 ⟨#[]⟩).op 0 0 0 0 = true from fit_op hk]
    rfl
  have hl : lineT ⟨⟨#[]⟩, (k : Int), 0, 0, 0, 0, ⟨#[]⟩⟩ = txS (k : Int) 0 0 0 0 := by
    unfold lineT
    rw [em_nomark (x := ⟨⟨#[]⟩, (k : Int), 0, 0, 0, 0, ⟨#[]⟩⟩) rfl, hi]
    rfl
  rw [← hl, line_wAll hi]
  exact ⟨rfl, by simp⟩
theorem wAll_pos (s : ByteArray) : 0 < (wAll s).length := by unfold wAll; simp
theorem nm_eq {k j : Nat} (hk : k < 26) (hj : j < 26) (h : nmS (k : Int) = nmS (j : Int)) : k = j := Fin.mk.inj (nm_inj ⟨k, hk⟩ ⟨j, hj⟩ (by show (nmS (k : Int)).data.toList = _; rw [h]))
/-- A line that the text may be. -/
def PL (s : ByteArray) (x0 : Ln) : Prop := insB x0 = true ∧ (-2147483648 ≤ x0.i ∧ x0.i < 2147483648) ∧ lineT x0 = s
/-- What read leaves. -/
def RdR (s : ByteArray) (e : Ending) : Prop := ∃ (x : Ln) (ok : Bool), e = .returned (.tuple #[.agg (lnV x), .bool ok]) ∧ Hid (ok = true → goodB x = true ∧ lineT x = s ∧ (-2147483648 ≤ x.i ∧ x.i < 2147483648)) ∧
  Hid (∀ x0, goodB x0 = true → -2147483648 ≤ x0.i → x0.i < 2147483648 → lineT x0 = s → ok = true)
theorem Lb.setO {W : World} {B : Nat} {m : ByteArray} {op a b c i : Int} {tt : ByteArray} (h : Lb W B m op a b c i tt) (x : Int) : Lb (W.setCell ⟨B, 1, none⟩ (.int .i64 x)) B m x a b c i tt := (heap_setCell_same W B 1 _ 37 (.int .i64 x) h).trans (by simp)
/-- A line's parts as far as they are read. -/
def Far (x0 : Ln) (j : Nat) (a b c i : Int) (tt : ByteArray) : Prop :=
  a = (if ((Ins.shp x0.op).take j).contains 97 then x0.a else 0) ∧ b = (if ((Ins.shp x0.op).take j).contains 98 then x0.b else 0) ∧ c = (if ((Ins.shp x0.op).take j).contains 99 then x0.c else 0) ∧
  i = (if ((Ins.shp x0.op).take j).contains 105 then x0.i else 0) ∧ tt = (if ((Ins.shp x0.op).take j).contains 105 then x0.to else ⟨#[]⟩)
theorem far_zero (x0 : Ln) : Far x0 0 0 0 0 0 ⟨#[]⟩ := by unfold Far; simp
theorem far_all {x0 : Ln} (h : insB x0 = true) {a b c i : Int} {tt : ByteArray} (hf : Far x0 (Ins.shp x0.op).length a b c i tt) : (⟨⟨#[]⟩, x0.op, a, b, c, i, tt⟩ : Ln) = x0 := by
  obtain ⟨h1, h2, h3⟩ := ins_parts h
  obtain ⟨za, zb, zc, zi⟩ := fit_zero h2
  have hto : Ins.us x0.op 105 = false → x0.to = ⟨#[]⟩ := fun hu => by
    rcases h3 with h3 | h3
    · exact (emB_iff _).1 h3
    · unfold Ins.us at hu
      rcases go_shape h3.2 with hs | hs <;> rw [hs] at hu <;> exact absurd hu (by decide)
  unfold Far at hf
  rw [List.take_length] at hf
  obtain ⟨rfl, rfl, rfl, rfl, rfl⟩ := hf
  have hm : x0.mark = ⟨#[]⟩ := (emB_iff _).1 h1
  unfold Ins.us at *
  obtain ⟨m, op, a, b, c, i, tt⟩ := x0
  simp only at *
  subst hm
  simp only [Ln.mk.injEq, true_and]
  refine ⟨?_, ?_, ?_, ?_, ?_⟩
  · split
    · rfl
    · rename_i hh; exact (za (by simpa using hh)).symm
  · split
    · rfl
    · rename_i hh; exact (zb (by simpa using hh)).symm
  · split
    · rfl
    · rename_i hh; exact (zc (by simpa using hh)).symm
  · split
    · rfl
    · rename_i hh; exact (zi (by simpa using hh)).symm
  · split
    · rfl
    · rename_i hh; exact (hto (by simpa using hh)).symm
theorem far_step {x0 : Ln} {j : Nat} {a b c i : Int} {tt : ByteArray} {l : UInt8} (hj : j < (Ins.shp x0.op).length) (hl : (Ins.shp x0.op)[j] = l) (h : Far x0 j a b c i tt) :
    Far x0 (j + 1) (if l = 97 then x0.a else a) (if l = 98 then x0.b else b) (if l = 99 then x0.c else c) (if l = 105 then x0.i else i) (if l = 105 then x0.to else tt) := by
  have ht : (Ins.shp x0.op).take (j + 1) = (Ins.shp x0.op).take j ++ [l] := by rw [List.take_succ_eq_append_getElem hj, hl]
  obtain ⟨h1, h2, h3, h4, h5⟩ := h
  have key : ∀ {α : Type} (q : UInt8) (u v z : α), v = (if ((Ins.shp x0.op).take j).contains q then u else z) → (if l = q then u else v) = if ((Ins.shp x0.op).take (j + 1)).contains q then u else z := by
    intro α q u v z hv
    rw [ht, hv]
    by_cases hq : l = q
    · subst hq; rw [if_pos rfl, if_pos (by simp)]
    · rw [if_neg hq]
      have : (((Ins.shp x0.op).take j ++ [l]).contains q) = ((Ins.shp x0.op).take j).contains q := by
        rw [List.contains_append]
        simp [Ne.symm hq]
      rw [this]
  exact ⟨key 97 _ _ _ h1, key 98 _ _ _ h2, key 99 _ _ _ h3, key 105 _ _ _ h4, key 105 _ _ _ h5⟩
end Go.Proofs.YtnghendglcblkaaGreatDoor
