/-
  PROVED HERE: what Read of the document's layer 4 returns when it is called: the label whose text it is, or the error (a contract over this translation). Texts of at most 800 bytes.
-/
import Derived.Test.YtbmfehkahjeobaaDoorCod33
import Derived.Test.YtbmfehkahjeobaaDoorCod17
import Derived.Deep.Cut
namespace Go.Proofs.YtbmfehkahjeobaaDoor
open Go.RowKit Go.Shelf
set_option linter.unusedVariables false

theorem ext_snoc {s : ByteArray} {f k : Nat} (hf : f ≤ k) (hk : k < s.size) : (s.extract f (k + 1)).data.toList = (s.extract f k).data.toList ++ [s[k]] := by
  have hl : s.data.toList.length = s.size := size_list s
  have hk' : k - f < (s.data.toList.drop f).length := by rw [List.length_drop]; omega
  rw [ext_list, ext_list, show k + 1 - f = (k - f) + 1 by omega, List.take_succ_eq_append_getElem hk', List.getElem_drop]
  congr 2
  rw [← at_list hk]
  congr 1
  omega
theorem ext_mid {s : ByteArray} {f k : Nat} (hf : f ≤ k) (hk : k < s.size) : (s.extract f s.size).data.toList = (s.extract f k).data.toList ++ s[k] :: (s.extract (k + 1) s.size).data.toList := by
  have hl : s.data.toList.length = s.size := size_list s
  have hk' : k < s.data.toList.length := by omega
  rw [ext_list, ext_list, ext_list, List.take_of_length_le (l := s.data.toList.drop f) (by rw [List.length_drop]; omega), List.take_of_length_le (l := s.data.toList.drop (k + 1)) (by rw [List.length_drop]; omega), ← at_list hk, ← List.drop_eq_getElem_cons hk']
  have h := List.take_append_drop (k - f) (s.data.toList.drop f)
  rw [List.drop_drop, show f + (k - f) = k by omega] at h
  exact h.symm
theorem ext_all (s : ByteArray) : s.extract 0 s.size = s := ba_ext (by rw [ext_list, List.drop_zero, Nat.sub_zero, ← size_list, List.take_length])
theorem ext_none (s : ByteArray) (k : Nat) : (s.extract k k).data.toList = [] := by rw [ext_list, Nat.sub_self, List.take_zero]

/-- Where the reader stands: what is behind it, and what lies before it. -/
def Sp (s : ByteArray) (f k : Nat) (pre : List ByteArray) : Prop :=
  (k ≤ s.size ∧ f ≤ k ∧ split s = pre ++ split (s.extract f s.size) ∧ 44 ∉ (s.extract f k).data.toList) ∨ (k = s.size + 1 ∧ split s = pre)
theorem sp_start (s : ByteArray) : Sp s 0 0 [] := .inl ⟨Nat.zero_le _, Nat.le_refl _, by rw [ext_all]; rfl, by rw [ext_none]; simp⟩
theorem sp_le {s : ByteArray} {f k : Nat} {pre : List ByteArray} (h : Sp s f k pre) (hk : k ≤ s.size) : f ≤ k := by
  rcases h with h | h
  · exact h.2.1
  · omega
theorem sp_go {s : ByteArray} {f k : Nat} {pre : List ByteArray} (h : Sp s f k pre) (hk : k < s.size) (hc : ((s[k].toNat : Int) != 44) = true) : Sp s f (k + 1) pre := by
  rcases h with ⟨h1, h2, h3, h4⟩ | h
  · refine .inl ⟨by omega, by omega, h3, ?_⟩
    rw [ext_snoc h2 hk]
    intro hm
    rcases List.mem_append.1 hm with hm | hm
    · exact h4 hm
    · rw [List.mem_singleton] at hm
      rw [← hm] at hc
      simp at hc
  · omega
theorem sp_hit {s : ByteArray} {f k : Nat} {pre : List ByteArray} (h : Sp s f k pre) (hk : k < s.size) (hc : ((s[k].toNat : Int) != 44) = false) : Sp s (k + 1) (k + 1) (pre ++ [s.extract f k]) := by
  have hs44 : s[k] = 44 := by
    have : ((s[k].toNat : Int) == 44) = true := by simpa using hc
    rw [beq_iff_eq] at this
    exact UInt8.toNat_inj.1 (by show s[k].toNat = 44; omega)
  rcases h with ⟨h1, h2, h3, h4⟩ | h
  · refine .inl ⟨by omega, Nat.le_refl _, ?_, by rw [ext_none]; simp⟩
    have e := ext_mid h2 hk
    rw [hs44] at e
    rw [h3, split_hit e h4]
    simp
  · omega
theorem sp_last {s : ByteArray} {f : Nat} {pre : List ByteArray} (h : Sp s f s.size pre) : Sp s (s.size + 1) (s.size + 1) (pre ++ [s.extract f s.size]) := by
  rcases h with ⟨h1, h2, h3, h4⟩ | h
  · exact .inr ⟨rfl, by rw [h3, split_one h4]⟩
  · omega
theorem sp_prefix {s : ByteArray} {f k : Nat} {pre : List ByteArray} (h : Sp s f k pre) : pre <+: split s := by
  rcases h with ⟨_, _, h3, _⟩ | ⟨_, h⟩
  · rw [h3]; exact List.prefix_append _ _
  · rw [h]; exact List.prefix_refl _
theorem sp_len {s : ByteArray} {f k : Nat} {pre : List ByteArray} (h : Sp s f k pre) : pre.length ≤ s.size + 1 := Nat.le_trans (sp_prefix h).length_le (split_len _ _)
theorem sp_end {s : ByteArray} {f k : Nat} {pre : List ByteArray} (h : Sp s f k pre) (hk : s.size < k) : split s = pre := by
  rcases h with ⟨h1, _⟩ | ⟨_, h⟩
  · omega
  · exact h
theorem readT_split {s : ByteArray} (h : (s.toList == [45]) = false) : readT s = prs (split s) := by
  unfold readT partsOf; rw [h]; rfl
theorem prs_put {pre : List ByteArray} {x : ByteArray} {L : List (Int × Int)} {c : Nat} {l : Int} (h : prs pre = some L) (hx : pairOf x = some (c, l)) : prs (pre ++ [x]) = some (L ++ [((c : Int), l)]) := by
  rw [prs_snoc, h]; unfold pairI; rw [hx]; rfl
theorem prs_stop {s : ByteArray} {pre : List ByteArray} {x : ByteArray} {L : List (Int × Int)} (h : prs pre = some L) (hx : pairOf x = none) (hp : pre ++ [x] <+: split s) : prs (split s) = none :=
  prs_prefix hp (by rw [prs_snoc, h]; unfold pairI; rw [hx]; rfl)

def Read4 (w : World) (s : ByteArray) (e : Ending) (w' : World) : Prop := ∃ ao n cap, e = .returned (.tuple #[.slice ao n cap, .int .i64 (readE s)]) ∧ Lab w'.heap.size w' ao n cap ((readO s).getD []) ∧ Below w.heap.size w w'
theorem read4_bad {w w' : World} {s : ByteArray} {k : Int} (hk : k ≠ 0) (hE : readE s = k) (hb : Below w.heap.size w w') : Read4 w s (.returned (.tuple #[.slice none 0 0, .int .i64 k])) w' := by
  have hO : readO s = none := by unfold readO; rw [if_neg (by rw [hE]; exact hk)]
  refine ⟨none, 0, 0, by rw [hE], ?_, hb⟩
  rw [hO]
  exact Lab.nil _ _

set_option maxRecDepth 100000 in
set_option maxHeartbeats 4000000 in
theorem rread4_any (s : ByteArray) (hs : s.size ≤ 800) (w : World) : Calls Tryd.prog 6 #[.string s] w (Read4 w s) := by
  obtain ⟨i0, hi, hz0, hz1, hz2⟩ := info_parts infoPair
  cases hd : (s.toList == [45]) with
  | true =>
    have hs45 : s = ⟨#[45]⟩ := by
      have : s.toList = (⟨#[45]⟩ : ByteArray).toList := by rw [beq_iff_eq] at hd; rw [hd, Go.ByteArray.toList_eq]
      exact Lv.toList_inj this
    have hO : readO s = some [] := by rw [hs45]; exact read_dash
    have hE : readE s = 0 := by rw [hs45]; kernel_rfl
    have hR : Hid (Read4 w s (.returned (.tuple #[.slice none 0 0, .int .i64 0])) w) := ⟨none, 0, 0, by rw [hE], by rw [hO]; exact Lab.nil _ _, Below.refl _ _⟩
    clear hO hE hs45
    go_enter Tryd.func6, Tryd.ntmps6
    go_wp2
    go_ret2
    exact hR.out
  | false =>
    have hT := readT_split hd
    have HT : Hid (readT s = prs (split s)) := hT
    clear hT
    go_enter Tryd.func6, Tryd.ntmps6
    go_wp2
    go_loopw [4, 5, 6] (fun vl vf vi wr => ∃ (k f : Nat) (pre : List ByteArray) (ao1 : Option Addr) (m cap1 : Nat) (Lp : List (Int × Int)), k ≤ s.size + 1 ∧ vi = .int .i64 k ∧ vf = .int .i64 f ∧ vl = .slice ao1 m cap1 ∧ Hid (Sp s f k pre) ∧ Hid (prs pre = some Lp) ∧ OwnL w.heap.size wr ao1 m cap1 Lp ∧ m ≤ 801 ∧ Below w.heap.size w wr) (fun _ _ vi _ => s.size + 1 - (intOf vi).toNat)
    case atStart => exact ⟨0, 0, [], none, 0, 0, [], Nat.zero_le _, rfl, rfl, rfl, sp_start s, rfl, OwnL.nil _ _, by omega, Below.refl _ _⟩
    case round =>
      obtain ⟨k, f, pre, ao1, m, cap1, Lp, hk, rfl, rfl, rfl, hsp, hpr, ⟨hOl, hrow⟩, hm8, hb⟩ := hrel
      have hbs := hb.size
      by_cases hks : k ≤ s.size
      · have hks' : (k : Int) ≤ (s.size : Int) := by omega
        have hfk := sp_le hsp.out hks
        have hfk' : (f : Int) ≤ (k : Int) := by omega
        have hxs : (s.extract f k).size ≤ 65536 := by rw [ByteArray.size_extract]; omega
        by_cases hk1 : k < s.size
        · have hk1' : (k : Int) < (s.size : Int) := by omega
          cases hc : ((s[k].toNat : Int) != 44) with
          | true =>
            have hgo := sp_go hsp.out hk1 hc
            go_wp2
            go_roundw
            case rel => exact ⟨k + 1, f, pre, ao1, m, cap1, Lp, by omega, by go_num, rfl, rfl, hgo, hpr, ⟨hOl, hrow⟩, hm8, hb⟩
            case measure => simp [intOf]; omega
          | false =>
            have hnx : Hid (Sp s (k + 1) (k + 1) (pre ++ [s.extract f k])) := sp_hit hsp.out hk1 hc
            cases hpx : pairOf (s.extract f k) with
            | none =>
              have hE : Hid (readE s = 11) := by show readE s = 11; unfold readE; rw [HT.out, prs_stop hpr.out hpx (sp_prefix hnx.out)]
              have hps : (pairOf (s.extract f k)).isSome = false := by rw [hpx]; rfl
              clear hpx
              go_wp2_with (go_at_call 13; refine (rpair_any _ hxs _).mono ?_; rintro e w1 ⟨c, l, rfl, hcl', hb1⟩; clear hcl'; rw [hps])
              go_ret2
              exact read4_bad (by omega) hE.out ((hb.trans (hb1.mono hbs)).alloc (Nat.le_trans hbs hb1.size) _)
            | some p =>
              obtain ⟨c, l⟩ := p
              have hps : (pairOf (s.extract f k)).isSome = true := by rw [hpx]; rfl
              have HPX : Hid (pairOf (s.extract f k) = some (c, l)) := hpx
              clear hpx
              go_upto_region 12 with (go_at_call 13; refine (rpair_any _ hxs _).mono ?_; rintro e w1 ⟨c', l', rfl, hcl', hb1⟩; obtain ⟨rfl, rfl⟩ := Prod.mk.inj (hcl' _ HPX.out); clear hcl'; rw [hps])
              have hrow1 := (ownsRow_next hrow hb1).alloc (.cells #[.int .u64 (c : Int), .int .i64 l] 35)
              have t1 := Two.new w1 35 (.int .u64 (c : Int)) (.int .i64 l)
              have hbb : Below w.heap.size w (w1.alloc (.cells #[.int .u64 (c : Int), .int .i64 l] 35)) := (hb.trans (hb1.mono hbs)).alloc (Nat.le_trans hbs hb1.size) _
              obtain ⟨W1, hW1⟩ : ∃ W1, Hid (w1.alloc (.cells #[.int .u64 (c : Int), .int .i64 l] 35) = W1) := ⟨_, rfl⟩
              rw [hW1.out] at hrow1 t1 hbb ⊢
              have x0 := t1.cell0
              have x1 := t1.cell1
              have hbs1 := hbb.size
              have hmp : Hid (prs (pre ++ [s.extract f k]) = some (Lp ++ [((c : Int), l)])) := prs_put hpr.out HPX.out
              have hml : Hid (m + 1 ≤ 801) := by
                have h1 := sp_len hnx.out
                have h2 := prs_len hpr.out
                show m + 1 ≤ 801
                rw [List.length_append, List.length_singleton] at h1
                omega
              clear hW1 hb1 hrow
              go_wp2_with (at_builtin; refine wpList_append_own _ rfl _ _ 23 rfl w.heap.size 35 i0 (.agg #[.int .u64 0, .int .i64 0]) 2 16 Tryd.underlying23 hi hz0 hz1 hz2 rfl (by decide) _ _ _ rfl (hrow1.alloc _) ⟨W1.heap.size, 0, none⟩ 1 1 [.int .u64 (c : Int), .int .i64 l] rfl rfl (cell_two_new _ _ _ _) (by simp [Value.oneCell']) (by unfold maxLen; omega) (by omega) (Nat.le_trans hbs1 (by simp)) ?_; intro v1 w2 hown1 hgrow1 _; obtain ⟨g1, cp1, rfl⟩ := ownsRow_two hown1; have hb2 := app_below hbb hrow1 hgrow1 hbs1)
              go_roundw
              case rel => exact ⟨k + 1, k + 1, _, some ⟨g1, 0, none⟩, m + 1, cp1, _, by omega, by go_num, by go_num, rfl, hnx, hmp, ⟨by rw [List.length_append, hOl]; rfl, by rw [cellsOf_append]; exact hown1⟩, hml.out, hb2⟩
              case measure => simp [intOf]; omega
        · have hk1' : ¬ (k : Int) < (s.size : Int) := by omega
          have hnx : Hid (Sp s (k + 1) (k + 1) (pre ++ [s.extract f k])) := by
            have hke : k = s.size := by omega
            show Sp _ _ _ _
            rw [hke]
            have := hsp.out
            rw [hke] at this
            exact sp_last this
          cases hpx : pairOf (s.extract f k) with
          | none =>
            have hE : Hid (readE s = 11) := by show readE s = 11; unfold readE; rw [HT.out, prs_stop hpr.out hpx (sp_prefix hnx.out)]
            have hps : (pairOf (s.extract f k)).isSome = false := by rw [hpx]; rfl
            clear hpx
            go_wp2_with (go_at_call 13; refine (rpair_any _ hxs _).mono ?_; rintro e w1 ⟨c, l, rfl, hcl', hb1⟩; clear hcl'; rw [hps])
            go_ret2
            exact read4_bad (by omega) hE.out ((hb.trans (hb1.mono hbs)).alloc (Nat.le_trans hbs hb1.size) _)
          | some p =>
            obtain ⟨c, l⟩ := p
            have hps : (pairOf (s.extract f k)).isSome = true := by rw [hpx]; rfl
            have HPX : Hid (pairOf (s.extract f k) = some (c, l)) := hpx
            clear hpx
            go_upto_region 12 with (go_at_call 13; refine (rpair_any _ hxs _).mono ?_; rintro e w1 ⟨c', l', rfl, hcl', hb1⟩; obtain ⟨rfl, rfl⟩ := Prod.mk.inj (hcl' _ HPX.out); clear hcl'; rw [hps])
            have hrow1 := (ownsRow_next hrow hb1).alloc (.cells #[.int .u64 (c : Int), .int .i64 l] 35)
            have t1 := Two.new w1 35 (.int .u64 (c : Int)) (.int .i64 l)
            have hbb : Below w.heap.size w (w1.alloc (.cells #[.int .u64 (c : Int), .int .i64 l] 35)) := (hb.trans (hb1.mono hbs)).alloc (Nat.le_trans hbs hb1.size) _
            obtain ⟨W1, hW1⟩ : ∃ W1, Hid (w1.alloc (.cells #[.int .u64 (c : Int), .int .i64 l] 35) = W1) := ⟨_, rfl⟩
            rw [hW1.out] at hrow1 t1 hbb ⊢
            have x0 := t1.cell0
            have x1 := t1.cell1
            have hbs1 := hbb.size
            have hmp : Hid (prs (pre ++ [s.extract f k]) = some (Lp ++ [((c : Int), l)])) := prs_put hpr.out HPX.out
            have hml : Hid (m + 1 ≤ 801) := by
              have h1 := sp_len hnx.out
              have h2 := prs_len hpr.out
              show m + 1 ≤ 801
              rw [List.length_append, List.length_singleton] at h1
              omega
            clear hW1 hb1 hrow
            go_wp2_with (at_builtin; refine wpList_append_own _ rfl _ _ 23 rfl w.heap.size 35 i0 (.agg #[.int .u64 0, .int .i64 0]) 2 16 Tryd.underlying23 hi hz0 hz1 hz2 rfl (by decide) _ _ _ rfl (hrow1.alloc _) ⟨W1.heap.size, 0, none⟩ 1 1 [.int .u64 (c : Int), .int .i64 l] rfl rfl (cell_two_new _ _ _ _) (by simp [Value.oneCell']) (by unfold maxLen; omega) (by omega) (Nat.le_trans hbs1 (by simp)) ?_; intro v1 w2 hown1 hgrow1 _; obtain ⟨g1, cp1, rfl⟩ := ownsRow_two hown1; have hb2 := app_below hbb hrow1 hgrow1 hbs1)
            go_roundw
            case rel => exact ⟨k + 1, k + 1, _, some ⟨g1, 0, none⟩, m + 1, cp1, _, by omega, by go_num, by go_num, rfl, hnx, hmp, ⟨by rw [List.length_append, hOl]; rfl, by rw [cellsOf_append]; exact hown1⟩, hml.out, hb2⟩
            case measure => simp [intOf]; omega
      · have hks' : ¬ (k : Int) ≤ (s.size : Int) := by omega
        have hall : Hid (readT s = some Lp) := by
          show readT s = some Lp
          rw [HT.out, sp_end hsp.out (by omega)]
          exact hpr.out
        have hlab := OwnL.lab (base := w.heap.size) ⟨hOl, hrow⟩
        cases hf : fitB Lp with
        | false =>
          have hE : Hid (readE s = 11) := by show readE s = 11; unfold readE; rw [hall.out]; simp [hf]
          go_wp2_with (go_at_call 14; refine (rlfit_any hlab (Nat.le_refl _)).mono ?_; rintro e w1 ⟨rfl, hb1⟩; rw [hf])
          go_ret2
          exact read4_bad (by omega) hE.out (hb.trans (hb1.mono hbs))
        | true =>
          by_cases h16 : m ≤ 16
          · have hE : Hid (readE s = 0) := by show readE s = 0; unfold readE; rw [hall.out]; simp [hf, hOl, h16]
            have h16' : ¬ (16 : Int) < (m : Int) := by omega
            go_wp2_with (go_at_call 14; refine (rlfit_any hlab (Nat.le_refl _)).mono ?_; rintro e w1 ⟨rfl, hb1⟩; rw [hf])
            go_ret2
            exact ⟨ao1, m, cap1, by rw [hE.out]; rfl, by rw [show readO s = some Lp by unfold readO; rw [if_pos hE.out, hall.out]]; exact hlab.next hb1, hb.trans (hb1.mono hbs)⟩
          · have hE : Hid (readE s = 6) := by show readE s = 6; unfold readE; rw [hall.out]; simp [hf, hOl, h16]
            have h16' : (16 : Int) < (m : Int) := by omega
            go_wp2_with (go_at_call 14; refine (rlfit_any hlab (Nat.le_refl _)).mono ?_; rintro e w1 ⟨rfl, hb1⟩; rw [hf])
            go_ret2
            exact read4_bad (by omega) hE.out (hb.trans (hb1.mono hbs))
end Go.Proofs.YtbmfehkahjeobaaDoor
