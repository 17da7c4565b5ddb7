/-
  PROVED HERE: what Read of package curtilageref10 returns when it is called, if read does what it should (a contract over this translation). Texts of at most 65536 bytes.
-/
import Derived.Test.YtnghendglcblkaaGreatDoorAsmV5
import Derived.Test.YtnghendglcblkaaGreatDoorAsmApp
namespace Go.Proofs.YtnghendglcblkaaGreatDoor
open Go.RowKit Go.Shelf
set_option linter.unusedVariables false
open Asm

/-- A text's line that is empty, or a line's text. -/
def oklB (t : ByteArray) : Prop := emB t = true ∨ lineT (lkl t) = t
/-- The lines of texts that are not empty. -/
def accOf (T : List ByteArray) : List Ln := (T.filter fun t => !emB t).map lkl
theorem accOf_snoc (T : List ByteArray) (t : ByteArray) : accOf (T ++ [t]) = accOf T ++ (if emB t then [] else [lkl t]) := by
  unfold accOf
  rw [List.filter_append, List.map_append]
  cases h : emB t with
  | true => simp [h]
  | false => simp [h]
theorem range_getD (T : List ByteArray) : (List.range T.length).map (fun k => T.getD k ⟨#[]⟩) = T := by
  refine List.ext_getElem (by simp) fun j h1 h2 => ?_
  simp only [List.getElem_map, List.getElem_range]
  rw [List.getD_eq_getElem?_getD, List.getElem?_eq_getElem h2]
  rfl
theorem neK_map (T : List ByteArray) : (neK T T.length).map (fun k => lkl (T.getD k ⟨#[]⟩)) = accOf T := by
  have h : (neK T T.length).map (fun k => T.getD k ⟨#[]⟩) = T.filter fun t => !emB t := by
    have e := List.filter_map (f := fun k => T.getD k ⟨#[]⟩) (l := List.range T.length) (p := fun t => !emB t)
    rw [range_getD] at e
    rw [e]
    rfl
  unfold accOf
  rw [← h, List.map_map]
  rfl
theorem plc_map (T : List ByteArray) : (List.range (neN T)).map (plcT T) = neK T T.length := by
  refine List.ext_getElem (by simp [neN]) fun j h1 h2 => ?_
  simp only [List.getElem_map, List.getElem_range]
  unfold plcT
  rw [List.getD_eq_getElem?_getD, List.getElem?_eq_getElem h2]
  rfl
theorem getD_in {T : List ByteArray} {k : Nat} (h : emB (T.getD k ⟨#[]⟩) = false) : T.getD k ⟨#[]⟩ ∈ T := by
  by_cases hk : k < T.length
  · rw [List.getD_eq_getElem?_getD, List.getElem?_eq_getElem hk]; exact List.getElem_mem hk
  · rw [List.getD_eq_getElem?_getD, List.getElem?_eq_none (by omega)] at h; cases h
theorem rd_end {s : ByteArray} (h : ∀ t ∈ lns s, oklB t) : rdW s = accOf (lns s) ∧ rdK s = 0 ∧ rdE s = 0 := by
  have hok : ∀ j ∈ List.range (neN (lns s)), okT (lns s) j = true := fun j hj => by
    have hne := txt_ne (List.mem_range.1 hj)
    have hm : txtT (lns s) j ∈ lns s := getD_in hne
    rcases h _ hm with h1 | h1
    · rw [hne] at h1; cases h1
    · exact decide_eq_true h1
  obtain ⟨r1, r2, r3⟩ := rd_ok hok
  refine ⟨?_, r2, r3⟩
  rw [r1, ← neK_map, ← plc_map, List.map_map]
  rfl
theorem rd_stop {s : ByteArray} {T more : List ByteArray} {t : ByteArray} (e : lns s = T ++ t :: more) (h : ∀ d ∈ T, oklB d) (ht : emB t = false) (hb : ¬ lineT (lkl t) = t) : rdW s = [] ∧ rdK s = T.length ∧ rdE s = 11 := by
  have hk : T.length < (lns s).length := by rw [e]; simp
  have hg : (lns s).getD T.length ⟨#[]⟩ = t := by rw [e, List.getD_eq_getElem?_getD, List.getElem?_append_right (Nat.le_refl _)]; simp
  have hge : emB ((lns s).getD T.length ⟨#[]⟩) = false := by rw [hg]; exact ht
  have hp := plcT_at hk hge
  have hj : (neK (lns s) T.length).length < neN (lns s) := by
    have h1 := (neK_pre (T := lns s) (j := T.length + 1) (k := (lns s).length) hk).length_le
    rw [neK_hit hge, List.length_append] at h1
    unfold neN
    simp at h1
    omega
  have hr := rd_bad (s := s) hj (fun y hy => ?_) (by
    unfold okT xT txtT
    rw [hp, hg]
    exact decide_eq_false hb)
  · rw [hp] at hr; exact hr
  · have hy := List.mem_range.1 hy
    have hpre := neK_pre (T := lns s) (j := T.length) (k := (lns s).length) (by omega)
    have hyk : plcT (lns s) y = (neK (lns s) T.length)[y] := by
      unfold plcT
      rw [List.getD_eq_getElem?_getD, List.getElem?_eq_getElem (Nat.lt_of_lt_of_le hy hpre.length_le)]
      exact (hpre.getElem hy).symm
    have hm := List.getElem_mem hy
    rw [← hyk] at hm
    unfold neK at hm
    obtain ⟨h1, h2⟩ := List.mem_filter.1 hm
    have h1 := List.mem_range.1 h1
    rw [Bool.not_eq_true'] at h2
    have h3 : (lns s).getD (plcT (lns s) y) ⟨#[]⟩ ∈ T := by
      rw [e, List.getD_eq_getElem?_getD, List.getElem?_append_left (by rw [e] at h1; exact h1), List.getElem?_eq_getElem (by rw [e] at h1; exact h1)]
      exact List.getElem_mem _
    rcases h _ h3 with h4 | h4
    · rw [h2] at h4; cases h4
    · exact decide_eq_true h4
theorem ext_rest (s : ByteArray) (f : Nat) : bl (s.extract f s.size) = (bl s).drop f := by
  rw [bl_ext, show (bl s).take s.size = bl s by rw [← bl_len]; exact List.take_length]
theorem rest_cut {s : ByteArray} {f k g : Nat} (hf : f ≤ k) (hk : k < s.size) (h10 : s[k]'hk = 10) (hno : ∀ c ∈ ((bl s).take k).drop f, c ≠ 10) (hg : (s.extract f s.size).size ≤ g) :
    ∃ g', cutsF g (s.extract f s.size) = s.extract f k :: cutsF g' (s.extract (k + 1) s.size) ∧ (s.extract (k + 1) s.size).size ≤ g' := by
  have hsp : bl (s.extract f s.size) = bl (s.extract f k) ++ 10 :: bl (s.extract (k + 1) s.size) := by
    rw [ext_rest, ext_rest, bl_ext]
    have h1 : k < (bl s).length := by rw [bl_len]; exact hk
    have h2 : (bl s)[k] = 10 := (at_list hk).trans h10
    have h3 : bl s = (bl s).take k ++ 10 :: (bl s).drop (k + 1) := by rw [← h2, List.getElem_cons_drop, List.take_append_drop]
    conv => lhs; rw [h3]
    rw [List.drop_append_of_le_length (by rw [List.length_take]; omega)]
  have hem : emB (s.extract f s.size) = false := bl_ne (by rw [hsp]; simp)
  obtain ⟨g', e1, e2⟩ := cuts_step hem hg
  have hcut := cut_hit (x := bl (s.extract f k)) (c := 10) (r := bl (s.extract (k + 1) s.size)) (by rw [bl_ext]; exact hno)
  have ec1 : c1 (s.extract f s.size) nlB = s.extract f k := by unfold c1; rw [hsp]; exact (congrArg (fun t => sb t.1) hcut).trans (sb_bl _)
  have ec2 : c2 (s.extract f s.size) nlB = s.extract (k + 1) s.size := by unfold c2; rw [hsp]; exact (congrArg (fun t => sb t.2.1) hcut).trans (sb_bl _)
  rw [ec1, ec2] at e1
  rw [ec2] at e2
  exact ⟨g', e1, e2⟩
theorem rest_last {s : ByteArray} {f g : Nat} (hf : f < s.size) (hno : ∀ c ∈ (bl s).drop f, c ≠ 10) (hg : (s.extract f s.size).size ≤ g) : cutsF g (s.extract f s.size) = [s.extract f s.size] := by
  have hb := ext_rest s f
  have hem : emB (s.extract f s.size) = false := bl_ne (by rw [hb]; intro h; have := List.drop_eq_nil_iff.1 h; rw [bl_len] at this; omega)
  obtain ⟨g', e1, e2⟩ := cuts_step hem hg
  have hcut := cut_miss (x := (bl s).drop f) (c := 10) hno
  have ec1 : c1 (s.extract f s.size) nlB = s.extract f s.size := by unfold c1; rw [hb]; exact (congrArg (fun t => sb t.1) hcut).trans (by rw [← hb])
  have ec2 : c2 (s.extract f s.size) nlB = ⟨#[]⟩ := by unfold c2; rw [hb]; exact congrArg (fun t => sb t.2.1) hcut
  rw [ec1, ec2] at e1
  rw [e1, cuts_em (r := ⟨#[]⟩) rfl]
theorem rest_none (s : ByteArray) (g : Nat) : cutsF g (s.extract s.size s.size) = [] := cuts_em (by
  have := ext_rest s s.size
  rw [show (bl s).drop s.size = [] by rw [← bl_len]; exact List.drop_length] at this
  exact (emB_iff _).2 (ba_ext this))
theorem rdr_yes {t : ByteArray} {x : Ln} (h : goodB x = true ∧ lineT x = t ∧ (-2147483648 ≤ x.i ∧ x.i < 2147483648)) : lkl t = x ∧ lineT (lkl t) = t := by
  have e : lkl t = x := by rw [← h.2.1]; exact lkl_line h.1 h.2.2.1 h.2.2.2
  exact ⟨e, by rw [e]; exact h.2.1⟩
theorem rdr_no {t : ByteArray} (ht : emB t = false) (h : ∀ x0, goodB x0 = true → -2147483648 ≤ x0.i → x0.i < 2147483648 → lineT x0 = t → False) : ¬ lineT (lkl t) = t := fun e => by
  have h1 := line_em (lkl t)
  rw [e, ht] at h1
  exact h (lkl t) (by simpa using h1.symm) (lkl_i t).1 (lkl_i t).2 e
theorem accOf_len (T : List ByteArray) : (accOf T).length ≤ T.length := by unfold accOf; rw [List.length_map]; exact List.length_filter_le _ _
theorem cells_new1 (W : World) (x : Value) (o : Obj) (cs : Array Value) (t : TypeId) : ∀ (j : Nat) (u : Value), cs.toList[j]? = some u → ((W.alloc o).alloc (.cells cs t)).cell? ((⟨W.heap.size + 1, 0, none⟩ : Addr).add j) = some u := by
  have h := cells_new (W.alloc o) cs t
  rw [World.size_alloc] at h
  exact h
set_option maxRecDepth 100000 in
set_option maxHeartbeats 8000000 in
theorem rRead_any (hrd : ∀ t : ByteArray, 0 < t.size → t.size ≤ 65536 → ∀ W, Calls Tryz.prog 14 #[.string t] W fun e w' => Below W.heap.size W w' ∧ RdR t e) (s : ByteArray) (hs : s.size ≤ 65536) (w : World) :
    Calls Tryz.prog 6 #[.string s] w fun e w' => Below w.heap.size w w' ∧ ∃ v, e = .returned (.tuple #[v, .int .i64 ((rdK s : Nat) : Int), .int .i64 ((rdE s : Nat) : Int)]) ∧ w'.ownsRow w.heap.size 37 7 v (rdW s).length (lnC (rdW s)) := by
  obtain ⟨i0, hi, hz0, hz1, hz2⟩ := info_parts infoLine
  go_enter Tryz.func6, Tryz.ntmps6
  go_wp2
  go_loopw [5, 6, 7, 8] (fun vl vn vf vi wr => ∃ (k f : Nat) (T : List ByteArray), k ≤ s.size + 1 ∧ f ≤ k ∧ vi = .int .i64 k ∧ vf = .int .i64 f ∧ vn = .int .i64 (T.length : Nat) ∧ wr.ownsRow w.heap.size 37 7 vl (accOf T).length (lnC (accOf T)) ∧ T.length ≤ k ∧
    Hid ((∀ t ∈ T, oklB t) ∧ (k ≤ s.size → (∀ c ∈ ((bl s).take k).drop f, c ≠ 10) ∧ ∃ g, lns s = T ++ cutsF g (s.extract f s.size) ∧ (s.extract f s.size).size ≤ g) ∧ (k = s.size + 1 → lns s = T)) ∧ Below w.heap.size w wr) (fun _ _ _ vi _ => s.size + 1 - (intOf vi).toNat)
  case atStart => exact ⟨0, 0, [], by omega, by omega, rfl, rfl, rfl, ⟨rfl, .inl ⟨rfl, rfl⟩⟩, by simp, ⟨fun t h => (by cases h), fun _ => ⟨fun c hc => (by simp at hc), s.size, by have e : s.extract 0 s.size = s := ba_ext (by rw [show (s.extract 0 s.size).data.toList = bl (s.extract 0 s.size) from rfl, ext_rest]; rfl); rw [e]; exact ⟨rfl, Nat.le_refl _⟩⟩, fun h => (by omega)⟩, Below.refl _ _⟩
  case round =>
    obtain ⟨k, f, T, hk, hf, rfl, rfl, rfl, hrow, hTl, hp, hB⟩ := hrel
    obtain ⟨ar, cr, rfl⟩ := row_slice hrow
    have hal := accOf_len T
    by_cases hks : k ≤ s.size
    · have hks' : (k : Int) ≤ (s.size : Int) := by omega
      have hf' : (f : Int) ≤ (k : Int) := by omega
      obtain ⟨hok, hpp, _⟩ := hp.out
      obtain ⟨hno, g, hln, hg⟩ := hpp hks
      have hOk : Hid (∀ t ∈ T, oklB t) := hok
      have step : ∀ (more : List ByteArray) (t : ByteArray) (k2 : Nat), Hid (lns s = T ++ t :: more ∧ t = s.extract f k) → True := fun _ _ _ _ => trivial
      clear step
      by_cases hskip : (∃ h : k < s.size, s[k]'h ≠ 10) ∨ (k = s.size ∧ f = s.size)
      · have hq : Hid ((∀ t ∈ T, oklB t) ∧ (k + 1 ≤ s.size → (∀ c ∈ ((bl s).take (k + 1)).drop f, c ≠ 10) ∧ ∃ g, lns s = T ++ cutsF g (s.extract f s.size) ∧ (s.extract f s.size).size ≤ g) ∧ (k + 1 = s.size + 1 → lns s = T)) := by
          refine ⟨hok, fun h => ?_, fun h => ?_⟩
          · rcases hskip with ⟨h1, h2⟩ | h1
            · refine ⟨fun c hc => ?_, g, hln, hg⟩
              rw [List.take_succ_eq_append_getElem (by rw [bl_len]; exact h1), List.drop_append_of_le_length (by rw [List.length_take, bl_len]; omega)] at hc
              rcases List.mem_append.1 hc with hc | hc
              · exact hno c hc
              · rw [List.mem_singleton.1 hc, show (bl s)[k]'(by rw [bl_len]; exact h1) = s[k]'h1 from at_list h1]; exact h2
            · omega
          · rcases hskip with ⟨h1, h2⟩ | h1
            · omega
            · rw [hln, h1.2, rest_none, List.append_nil]
        clear hok hpp hno hln hp hOk
        rcases hskip with ⟨h1, h2⟩ | ⟨h1, h2⟩
        · have h1' : (k : Int) < (s.size : Int) := by omega
          have h2' : ¬ ((s[k]'h1).toNat : Int) = 10 := fun e => h2 (UInt8.toNat_inj.1 (by show _ = 10; omega))
          go_wp2
          go_roundw
          case rel => exact ⟨k + 1, f, T, by omega, by omega, by simp, rfl, rfl, hrow, by omega, hq, hB⟩
          case measure => simp [intOf]; omega
        · subst h1
          subst h2
          have h1' : ¬ (s.size : Int) < (s.size : Int) := by omega
          go_wp2
          go_roundw
          case rel => exact ⟨s.size + 1, s.size, T, by omega, by omega, by simp, rfl, rfl, hrow, by omega, hq, hB⟩
          case measure => simp [intOf]
      · by_cases hkl : k < s.size
        · have h10 : s[k]'hkl = 10 := Classical.byContradiction fun h => hskip (.inl ⟨hkl, h⟩)
          obtain ⟨g', e1, e2⟩ := rest_cut hf hkl h10 hno hg
          have hNew : Hid (oklB (s.extract f k) → (∀ t ∈ T ++ [s.extract f k], oklB t) ∧ (k + 1 ≤ s.size → (∀ c ∈ ((bl s).take (k + 1)).drop (k + 1), c ≠ 10) ∧ ∃ g, lns s = (T ++ [s.extract f k]) ++ cutsF g (s.extract (k + 1) s.size) ∧ (s.extract (k + 1) s.size).size ≤ g) ∧ (k + 1 = s.size + 1 → lns s = T ++ [s.extract f k])) := fun hx => ⟨fun t ht => (by rcases List.mem_append.1 ht with h | h; exact hok t h; rw [List.mem_singleton.1 h]; exact hx), fun _ => ⟨fun c hc => (by rw [List.drop_eq_nil_of_le (by rw [List.length_take]; omega)] at hc; cases hc), g', by rw [hln, e1]; simp, e2⟩, fun h => (by omega)⟩
          have hStop : Hid (emB (s.extract f k) = false → ¬ lineT (lkl (s.extract f k)) = s.extract f k → rdW s = [] ∧ rdK s = T.length ∧ rdE s = 11) := fun h1 h2 => rd_stop (by rw [hln, e1]) hok h1 h2
          have h1' : (k : Int) < (s.size : Int) := by omega
          have h2' : ((s[k]'hkl).toNat : Int) = 10 := by rw [h10]; rfl
          have hke : ¬ (k : Int) = (s.size : Int) := by omega
          have hee := em_list (s.extract f k)
          clear hok hpp hno hln hp hOk hskip h10 e1 e2
          cases hte : emB (s.extract f k) with
          | true =>
            rw [hte] at hee
            have hq : Hid _ := hNew.out (.inl hte)
            have hac : Hid (accOf (T ++ [s.extract f k]) = accOf T) := by show _ = _; rw [accOf_snoc, hte, if_pos rfl, List.append_nil]
            clear hNew hStop hte
            go_wp2
            go_roundw
            case rel => exact ⟨k + 1, k + 1, T ++ [s.extract f k], by omega, by omega, by simp, by simp, by simp, by rw [hac.out]; exact hrow, by rw [List.length_append]; show T.length + 1 ≤ _; omega, hq, hB⟩
            case measure => simp [intOf]; omega
          | false =>
            rw [hte] at hee
            have h0t : 0 < (s.extract f k).size := by have h9 := hte; unfold emB at h9; have := beq_eq_false_iff_ne.1 h9; omega
            have hrt := fun W => hrd (s.extract f k) h0t (Nat.le_trans (ext_size _ _ _) hs) W
            by_cases hL : lineT (lkl (s.extract f k)) = s.extract f k
            · have hq : Hid _ := hNew.out (.inr hL)
              have hac : Hid (accOf (T ++ [s.extract f k]) = accOf T ++ [lkl (s.extract f k)]) := by show _ = _; rw [accOf_snoc, hte]; rfl
              have hrt2 : ∀ W, Calls Tryz.prog 14 #[.string (s.extract f k)] W fun e w' => e = .returned (.tuple #[.agg (lnV (lkl (s.extract f k))), .bool true]) ∧ Below W.heap.size W w' := fun W => (hrt W).mono (by
                rintro e w3 ⟨hb3, x, ok, rfl, hA, hC⟩
                have h1 := line_em (lkl (s.extract f k))
                rw [hL, hte] at h1
                have hok := hC.out _ (by simpa using h1.symm) (lkl_i _).1 (lkl_i _).2 hL
                subst hok
                exact ⟨by rw [(rdr_yes (hA.out rfl)).1], hb3⟩)
              obtain ⟨m, op, a, b, c, i, tt, hX⟩ : ∃ m op a b c i tt, lkl (s.extract f k) = ⟨m, op, a, b, c, i, tt⟩ := ⟨_, _, _, _, _, _, _, rfl⟩
              rw [hX] at hac
              simp only [hX, lnV] at hrt2
              clear hNew hStop hte hrt hL hX
              go_wp2_with (first | (go_at_call 14; refine (hrt2 _).mono ?_; rintro e w3 ⟨rfl, hb3⟩; have hB3 : Below wr.heap.size wr (w3.alloc (.cells #[.string m, .int .i64 op, .int .i64 a, .int .i64 b, .int .i64 c, .int .i32 i, .string tt] 37)) := hb3.alloc hb3.size _; have hrow3 := row_next hrow hB3; have hBw3 := hB.trans (hB3.mono hB.size)) | (at_builtin; refine wpList_append_own _ rfl _ _ 23 rfl w.heap.size 37 i0 (.agg #[.string ⟨#[]⟩, .int .i64 0, .int .i64 0, .int .i64 0, .int .i64 0, .int .i32 0, .string ⟨#[]⟩]) 7 72 Tryz.underlying23 hi hz0 hz1 hz2 rfl (by decide) _ _ _ rfl (hrow3.alloc _) ⟨w3.heap.size + 1, 0, none⟩ 1 1 [.string m, .int .i64 op, .int .i64 a, .int .i64 b, .int .i64 c, .int .i32 i, .string tt] rfl rfl (cells_new1 _ (.bool true) _ _ _) (by simp [Value.oneCell']) (by unfold maxLen; omega) (by omega) (Nat.le_trans hBw3.size (by simp)) ?_; intro v6 w6 hown6 hg6 _))
              have hB6 : Below w.heap.size w w6 := (hBw3.alloc hBw3.size _).grown hg6 (Nat.le_trans hBw3.size (by simp)) (fun k hk => (hrow3.lt k hk).1)
              go_roundw
              case rel => exact ⟨k + 1, k + 1, T ++ [s.extract f k], by omega, by omega, by simp, by simp, by simp, by rw [hac.out, List.length_append, lnC_snoc]; exact hown6, by rw [List.length_append]; show T.length + 1 ≤ _; omega, hq, hB6⟩
              case measure => simp [intOf]; omega
            · have hr : Hid (rdW s = [] ∧ rdK s = T.length ∧ rdE s = 11) := hStop.out hte hL
              have hrt2 : ∀ W, Calls Tryz.prog 14 #[.string (s.extract f k)] W fun e w' => (∃ x, e = .returned (.tuple #[.agg (lnV x), .bool false])) ∧ Below W.heap.size W w' := fun W => (hrt W).mono (by
                rintro e w3 ⟨hb3, x, ok, rfl, hA, hC⟩
                cases ok with
                | true => exact absurd (rdr_yes (hA.out rfl)).2 hL
                | false => exact ⟨⟨x, rfl⟩, hb3⟩)
              clear hNew hStop hte hrt hL
              go_wp2_with (go_at_call 14; refine (hrt2 _).mono ?_; rintro e w3 ⟨⟨⟨m, op, a, b, c, i, tt⟩, rfl⟩, hb3⟩; unfold lnV; dsimp only; have hBw3 : Below w.heap.size w (w3.alloc (.cells #[.string m, .int .i64 op, .int .i64 a, .int .i64 b, .int .i64 c, .int .i32 i, .string tt] 37)) := (hB.trans (hb3.mono hB.size)).alloc (Nat.le_trans hB.size hb3.size) _)
              go_ret3
              exact ⟨hBw3, .slice none 0 0, by rw [hr.out.2.1, hr.out.2.2]; rfl, by rw [hr.out.1]; exact ⟨rfl, .inl ⟨rfl, rfl⟩⟩⟩
        · obtain rfl : k = s.size := by omega
          have hfl : f < s.size := by have : ¬ f = s.size := fun h => hskip (.inr ⟨rfl, h⟩); omega
          have hnoA : ∀ c ∈ (bl s).drop f, c ≠ 10 := by rw [show (bl s).take s.size = bl s by rw [← bl_len]; exact List.take_length] at hno; exact hno
          have e1 := rest_last hfl hnoA hg
          have hNew : Hid (oklB (s.extract f s.size) → (∀ t ∈ T ++ [s.extract f s.size], oklB t) ∧ (s.size + 1 ≤ s.size → (∀ c ∈ ((bl s).take (s.size + 1)).drop (s.size + 1), c ≠ 10) ∧ ∃ g, lns s = (T ++ [s.extract f s.size]) ++ cutsF g (s.extract (s.size + 1) s.size) ∧ (s.extract (s.size + 1) s.size).size ≤ g) ∧ (s.size + 1 = s.size + 1 → lns s = T ++ [s.extract f s.size])) := fun hx => ⟨fun t ht => (by rcases List.mem_append.1 ht with h | h; exact hok t h; rw [List.mem_singleton.1 h]; exact hx), fun h => (by omega), fun _ => by rw [hln, e1]⟩
          have hStop : Hid (emB (s.extract f s.size) = false → ¬ lineT (lkl (s.extract f s.size)) = s.extract f s.size → rdW s = [] ∧ rdK s = T.length ∧ rdE s = 11) := fun h1 h2 => rd_stop (more := []) (by rw [hln, e1]) hok h1 h2
          have hte : emB (s.extract f s.size) = false := bl_ne (by rw [ext_rest]; intro h; have := List.drop_eq_nil_iff.1 h; rw [bl_len] at this; omega)
          have h1' : ¬ (s.size : Int) < (s.size : Int) := by omega
          have h2' : ¬ (s.size : Int) = (f : Int) := by omega
          have hee := em_list (s.extract f s.size)
          clear hok hpp hno hln hp hOk hskip hnoA e1
          rw [hte] at hee
          have h0t : 0 < (s.extract f s.size).size := by have h9 := hte; unfold emB at h9; have := beq_eq_false_iff_ne.1 h9; omega
          have hrt := fun W => hrd (s.extract f s.size) h0t (Nat.le_trans (ext_size _ _ _) hs) W
          by_cases hL : lineT (lkl (s.extract f s.size)) = s.extract f s.size
          · have hq : Hid _ := hNew.out (.inr hL)
            have hac : Hid (accOf (T ++ [s.extract f s.size]) = accOf T ++ [lkl (s.extract f s.size)]) := by show _ = _; rw [accOf_snoc, hte]; rfl
            have hrt2 : ∀ W, Calls Tryz.prog 14 #[.string (s.extract f s.size)] W fun e w' => e = .returned (.tuple #[.agg (lnV (lkl (s.extract f s.size))), .bool true]) ∧ Below W.heap.size W w' := fun W => (hrt W).mono (by
              rintro e w3 ⟨hb3, x, ok, rfl, hA, hC⟩
              have h1 := line_em (lkl (s.extract f s.size))
              rw [hL, hte] at h1
              have hok := hC.out _ (by simpa using h1.symm) (lkl_i _).1 (lkl_i _).2 hL
              subst hok
              exact ⟨by rw [(rdr_yes (hA.out rfl)).1], hb3⟩)
            obtain ⟨m, op, a, b, c, i, tt, hX⟩ : ∃ m op a b c i tt, lkl (s.extract f s.size) = ⟨m, op, a, b, c, i, tt⟩ := ⟨_, _, _, _, _, _, _, rfl⟩
            rw [hX] at hac
            simp only [hX, lnV] at hrt2
            clear hNew hStop hte hrt hL hX
            go_wp2_with (first | (go_at_call 14; refine (hrt2 _).mono ?_; rintro e w3 ⟨rfl, hb3⟩; have hB3 : Below wr.heap.size wr (w3.alloc (.cells #[.string m, .int .i64 op, .int .i64 a, .int .i64 b, .int .i64 c, .int .i32 i, .string tt] 37)) := hb3.alloc hb3.size _; have hrow3 := row_next hrow hB3; have hBw3 := hB.trans (hB3.mono hB.size)) | (at_builtin; refine wpList_append_own _ rfl _ _ 23 rfl w.heap.size 37 i0 (.agg #[.string ⟨#[]⟩, .int .i64 0, .int .i64 0, .int .i64 0, .int .i64 0, .int .i32 0, .string ⟨#[]⟩]) 7 72 Tryz.underlying23 hi hz0 hz1 hz2 rfl (by decide) _ _ _ rfl (hrow3.alloc _) ⟨w3.heap.size + 1, 0, none⟩ 1 1 [.string m, .int .i64 op, .int .i64 a, .int .i64 b, .int .i64 c, .int .i32 i, .string tt] rfl rfl (cells_new1 _ (.bool true) _ _ _) (by simp [Value.oneCell']) (by unfold maxLen; omega) (by omega) (Nat.le_trans hBw3.size (by simp)) ?_; intro v6 w6 hown6 hg6 _))
            have hB6 : Below w.heap.size w w6 := (hBw3.alloc hBw3.size _).grown hg6 (Nat.le_trans hBw3.size (by simp)) (fun k hk => (hrow3.lt k hk).1)
            go_roundw
            case rel => exact ⟨s.size + 1, s.size + 1, T ++ [s.extract f s.size], by omega, by omega, by simp, by simp, by simp, by rw [hac.out, List.length_append, lnC_snoc]; exact hown6, by rw [List.length_append]; show T.length + 1 ≤ _; omega, ⟨hq.out.1, hq.out.2.1, fun _ => hq.out.2.2 trivial⟩, hB6⟩
            case measure => simp [intOf]
          · have hr : Hid (rdW s = [] ∧ rdK s = T.length ∧ rdE s = 11) := hStop.out hte hL
            have hrt2 : ∀ W, Calls Tryz.prog 14 #[.string (s.extract f s.size)] W fun e w' => (∃ x, e = .returned (.tuple #[.agg (lnV x), .bool false])) ∧ Below W.heap.size W w' := fun W => (hrt W).mono (by
              rintro e w3 ⟨hb3, x, ok, rfl, hA, hC⟩
              cases ok with
              | true => exact absurd (rdr_yes (hA.out rfl)).2 hL
              | false => exact ⟨⟨x, rfl⟩, hb3⟩)
            clear hNew hStop hte hrt hL
            go_wp2_with (go_at_call 14; refine (hrt2 _).mono ?_; rintro e w3 ⟨⟨⟨m, op, a, b, c, i, tt⟩, rfl⟩, hb3⟩; unfold lnV; dsimp only; have hBw3 : Below w.heap.size w (w3.alloc (.cells #[.string m, .int .i64 op, .int .i64 a, .int .i64 b, .int .i64 c, .int .i32 i, .string tt] 37)) := (hB.trans (hb3.mono hB.size)).alloc (Nat.le_trans hB.size hb3.size) _)
            go_ret3
            exact ⟨hBw3, .slice none 0 0, by rw [hr.out.2.1, hr.out.2.2]; rfl, by rw [hr.out.1]; exact ⟨rfl, .inl ⟨rfl, rfl⟩⟩⟩
    · obtain rfl : k = s.size + 1 := by omega
      have hr : Hid (rdW s = accOf T ∧ rdK s = 0 ∧ rdE s = 0) := by
        have h1 := hp.out.2.2 rfl
        have h2 := hp.out.1
        rw [← h1] at h2 ⊢
        exact rd_end h2
      clear hp
      go_wp2
      go_ret3
      exact ⟨hB, _, by rw [hr.out.2.1, hr.out.2.2]; rfl, by rw [hr.out.1]; exact hrow⟩
end Go.Proofs.YtnghendglcblkaaGreatDoor
