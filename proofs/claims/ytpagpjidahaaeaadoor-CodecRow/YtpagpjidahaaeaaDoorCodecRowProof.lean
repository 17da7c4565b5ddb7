/-
  PROVED HERE: CodecRow (P4.1, P4.3): the words of labels, one behind the other, are read one by one, each as it, at every row of labels. The tied card.
-/
import Derived.Test.YtpagpjidahaaeaaDoorRows
import Derived.Test.YtpagpjidahaaeaaDoorCards
import Derived.Test.YtpagpjidahaaeaaDoorTie
import Derived.SevenTiedAt
import Derived.Test.YtpagpjidahaaeaaDoorCod18
import Derived.Test.YtpagpjidahaaeaaDoorCod23
import Derived.WalkKit
import Derived.ProofKit
import Derived.OpenShut
import Derived.Below
import Derived.ShutString
import Derived.Deep.QuietTactic
namespace Go.Proofs.YtpagpjidahaaeaaDoor
namespace codecRow
open Go.ChangeShapes Go.WideShapes Go.ChangeAt Go.RowKit
open Go.ChangeMaps (open_string shut_string)
set_option linter.unusedVariables false

set_option maxRecDepth 100000 in
set_option maxHeartbeats 8000000 in
theorem walk (ao0 : Option Addr) (n0 cap0 : Nat) (L0 : List Sl) (w : World) (l0 : RowA w ao0 n0 cap0 L0) (hv : Vars w) :
    Calls Tryd.prog 6 #[.slice ao0 n0 cap0] w fun e w' => e = .returned (.bool true) ∧ Below w.heap.size w w' := by
  obtain ⟨i0, hi, hz0, hz1, hz2⟩ := info_parts infoU64
  obtain ⟨hRl, hnc, hcm, hRi⟩ := l0
  have HRI : Hid (∀ i, i < n0 → ∃ b off a k c L, ao0 = some ⟨b, off, none⟩ ∧ b < w.heap.size ∧ L0[i]? = some (a, k, c, L) ∧ w.cell? ⟨b, off + i, none⟩ = some (.slice a k c) ∧ LabU w a k c L) := hRi
  have HV : Hid (Vars w) := hv
  clear hRi hv
  go_enter Tryd.func6, Tryd.ntmps6
  go_wp2
  go_loopw [3, 14] (fun v i wr => ∃ k : Nat, k ≤ n0 ∧ k ≤ 8 ∧ i = .int .i64 k ∧ wr.ownsRow w.heap.size 45 1 v (catW (L0.take k)).length ((catW (L0.take k)).map (Value.int .u64)) ∧ Hid (FewR (L0.take k)) ∧ Below w.heap.size w wr) (fun _ i _ => n0 - (intOf i).toNat)
  case atStart => exact ⟨0, Nat.zero_le _, by omega, rfl, World.ownsRow_nil _ _ _ _, (fun s hs => (by simp at hs)), Below.refl _ _⟩
  case round =>
    obtain ⟨k, hk, hk8, rfl, hrow, hfew, hb⟩ := hrel
    have hbs := hb.size
    by_cases hkn : k < n0
    · obtain ⟨b, off, a, kk, c, L, rfl, hbB, hRk, d0, hLU⟩ := HRI.out k hkn
      have e0 := (hb.cell (p := ⟨b, off + k, none⟩) hbB).trans d0
      have hbw : b < wr.heap.size := by omega
      have hkn' : (k : Int) < n0 := by omega
      obtain ⟨hLab, hU⟩ := hLU
      have hLw := hLab.next hb
      have hLl := hLab.1
      by_cases h8 : k < 8
      · have h8' : (k : Int) < 8 := by omega
        by_cases h16 : kk ≤ 16
        · have h16' : (kk : Int) ≤ 16 := by omega
          cases hf : fitB L with
          | false =>
            clear d0
            go_wp2_with (first | (go_at_call 18; refine (rlfit_any hLw (Nat.le_refl _)).mono ?_; rintro e w1 ⟨rfl, hb1⟩; rw [hf]; have HB1 : Hid (Below w.heap.size w w1) := hb.trans (hb1.mono hbs)) | (go_at_call 7; refine (awake_any _ (HV.out.later HB1.out)).mono ?_; rintro e w9 ⟨rfl, hb9⟩))
            go_ret
            exact ⟨rfl, HB1.out.trans (hb9.mono HB1.out.size)⟩
          | true =>
            have hcs : Hid (catW (L0.take (k + 1)) = catW (L0.take k) ++ wordsOf L) := catW_snoc hRk
            have hcl := cat_len hfew.out
            have hcl2 : (L0.take k).length ≤ 8 := by rw [List.length_take]; omega
            have hfw : Hid (FewR (L0.take (k + 1))) := by
              intro s hs
              rw [List.take_add_one, hRk] at hs
              rcases List.mem_append.1 hs with hs | hs
              · exact hfew.out s hs
              · simp at hs; subst hs; exact ⟨hf, (by show L.length ≤ 16; omega), hU⟩
            have hcl3 : (catW (L0.take k)).length ≤ 300 := by omega
            clear d0 hcl hcl2
            go_wp2_with (first | (go_at_call 18; refine (rlfit_any hLw (Nat.le_refl _)).mono ?_; rintro e w1 ⟨rfl, hb1⟩; rw [hf]; have hb1' : Below w.heap.size w w1 := hb.trans (hb1.mono hbs); have hrow1 := ownsRow_next hrow hb1; have hLw1 := hLw.next hb1) | (go_at_call 11; refine (words_fit hLw1 hf (by omega)).mono ?_; rintro e w2 ⟨ao2, cap2, rfl, hc2, hb2⟩; have hb2' : Below w.heap.size w w2 := hb1'.trans (hb2.mono hb1'.size); have hrow2 := ownsRow_next hrow1 hb2; have q1 : Hid ((wordsOf L).length = 1 + 2 * kk) := hc2.1; obtain ⟨g2, o2, rfl⟩ := cts_spot hc2 (by omega); have hnw : Hid (∀ j u, ((wordsOf L).map (Value.int .u64))[j]? = some u → w2.cell? ((⟨g2, o2, none⟩ : Addr).add j) = some u) := cts_news hc2 (by omega); have HB2 : Hid (Below w.heap.size w w2) := hb2') | (at_builtin; refine wpList_append_own _ rfl _ _ 24 rfl w.heap.size 45 i0 (.int .u64 0) 1 8 Tryd.underlying24 hi hz0 hz1 hz2 rfl (by decide) _ _ _ rfl hrow2 ⟨g2, o2, none⟩ (1 + 2 * kk) cap2 ((wordsOf L).map (Value.int .u64)) rfl (by rw [List.length_map, q1.out, Nat.mul_one]) hnw.out (news_one _) (by unfold maxLen; omega) (by omega) hb2'.size ?_; intro v3 w3 hown3 hgrow3 _; have hb3 : Below w.heap.size w w3 := hb2'.grown hgrow3 hb2'.size (fun j e => (hrow2.lt j e).1)))
            go_roundw
            case rel => exact ⟨k + 1, by omega, by omega, by go_num, by rw [hcs.out, List.length_append, List.map_append, q1.out]; exact hown3, hfw, hb3⟩
            case measure => simp [intOf]; omega
        · have h16' : (16 : Int) < (kk : Int) := by omega
          have HB1 : Hid (Below w.heap.size w wr) := hb
          clear d0
          go_wp2_with (go_at_call 7; refine (awake_any _ (HV.out.later HB1.out)).mono ?_; rintro e w9 ⟨rfl, hb9⟩)
          go_ret
          exact ⟨rfl, HB1.out.trans (hb9.mono HB1.out.size)⟩
      · have h8' : (8 : Int) ≤ (k : Int) := by omega
        have HB1 : Hid (Below w.heap.size w wr) := hb
        clear d0
        go_wp2_with (go_at_call 7; refine (awake_any _ (HV.out.later HB1.out)).mono ?_; rintro e w9 ⟨rfl, hb9⟩)
        go_ret
        exact ⟨rfl, HB1.out.trans (hb9.mono HB1.out.size)⟩
    · obtain rfl : k = n0 := by omega
      have hall : L0.take k = L0 := List.take_of_length_le (by omega)
      rw [hall] at hrow hfew
      obtain ⟨aoL, capL, rfl, hcts⟩ := Cts.of_row hrow
      have hcl := cat_len hfew.out
      have HB0 : Hid (Below w.heap.size w wr) := hb
      clear hrow hall
      generalize hm0 : (catW L0).length = m0 at hcts hcl
      have HCT : Hid (Cts wr.heap.size wr aoL m0 capL (catW L0)) := hcts
      clear hcts hm0 hb
      go_wp2
      go_loopw [3, 47] (fun v i wr2 => ∃ (j m : Nat) (ao' : Option Addr) (cap' : Nat), j ≤ k ∧ i = .int .i64 j ∧ v = .slice ao' m cap' ∧ Hid (Cts wr2.heap.size wr2 ao' m cap' (catW (L0.drop j))) ∧ m ≤ 300 ∧ Below w.heap.size w wr2) (fun _ i _ => k - (intOf i).toNat)
      case atStart => exact ⟨0, m0, aoL, capL, Nat.zero_le _, rfl, rfl, (by rw [List.drop_zero]; exact HCT), by omega, HB0.out⟩
      case round =>
        obtain ⟨j, m, ao', cap', hj, rfl, rfl, HC, hm3, hb⟩ := hrel
        have hbs := hb.size
        have hmc := HC.out.2.1
        have hcc := HC.out.2.2.1
        have hml := HC.out.1
        by_cases hjk : j < k
        · obtain ⟨b, off, a, kk, c, L, rfl, hbB, hRk, d0, hLU⟩ := HRI.out j hjk
          have e0 := (hb.cell (p := ⟨b, off + j, none⟩) hbB).trans d0
          have hbw : b < wr.heap.size := by omega
          have hjk' : (j : Int) < k := by omega
          obtain ⟨hLab, hU⟩ := hLU
          have hLw := hLab.next hb
          have hLl := hLab.1
          obtain ⟨hf, h16, _⟩ : fitB L = true ∧ L.length ≤ 16 ∧ U64p L := hfew.out (a, kk, c, L) (List.mem_of_getElem? hRk)
          have hcd : Hid (catW (L0.drop j) = wordsOf L ++ catW (L0.drop (j + 1))) := catW_drop hRk
          have hpw : parseW (catW (L0.drop j)) = some L := by rw [hcd.out]; exact parseW_words hf h16 _
          have hUc : U64s (catW (L0.drop j)) := u64_cat (fun s hs => hfew.out s (List.mem_of_mem_drop hs))
          have hwl := wordsOf_len hf
          have hle : 1 + 2 * kk ≤ m := by rw [← hml, hcd.out, List.length_append, hwl, hLl]; omega
          have hP := parse_some HC.out hUc hpw h16
          rw [hLl] at hP
          obtain ⟨ao2, ha2, HC2'⟩ := cts_sliced HC.out hle
          have hdr : (catW (L0.drop j)).drop (1 + 2 * kk) = catW (L0.drop (j + 1)) := by
            rw [hcd.out, List.drop_append_of_le_length (by rw [hwl, hLl]; exact Nat.le_refl _), List.drop_eq_nil_of_le (by rw [hwl, hLl]; exact Nat.le_refl _), List.nil_append]
          rw [hdr] at HC2'
          have HC2 : Hid (Cts wr.heap.size wr ao2 (m - (1 + 2 * kk)) (cap' - (1 + 2 * kk)) (catW (L0.drop (j + 1)))) := HC2'
          have hsb : sameB L L = true := sameB_refl _
          have hgt : ¬ ((m : Int) < 1 + 2 * (kk : Int)) := by omega
          have HP : Hid (Calls Tryd.prog 8 #[.slice ao' m cap'] wr fun e w' => ∃ ao1 cap1, e = .returned (.tuple #[.slice ao1 kk cap1, .int .i64 (1 + 2 * (kk : Int)), .int .i64 0]) ∧ Lab w'.heap.size w' ao1 kk cap1 L ∧ Below wr.heap.size wr w') := hP
          have HA2 : Hid ((if cap' = 1 + 2 * kk then ao' else ao'.map (·.add ((1 + 2 * kk) * 1))) = ao2) := ha2
          clear d0 hP ha2 HC2' hdr hUc hpw hml hwl
          go_wp2_with (first | (go_at_call 8; refine HP.out.mono ?_; rintro e w1 ⟨ao1, cap1, rfl, hl1, hb1⟩; have HB1 : Hid (Below w.heap.size w w1) := hb.trans (hb1.mono hbs); have HB1' : Hid (Below wr.heap.size wr w1) := hb1; have hLw1 := hLw.next hb1) | (go_at_call 13; refine (rsame_any hl1 (Nat.le_refl _) hLw1 (Nat.le_refl _)).mono ?_; rintro e w2 ⟨rfl, hb2⟩; rw [hsb]; have HB2 : Hid (Below w.heap.size w w2) := HB1.out.trans (hb2.mono HB1.out.size); have HB2' : Hid (Below wr.heap.size wr w2) := HB1'.out.trans (hb2.mono HB1'.out.size)))
          go_roundw
          case rel => exact ⟨j + 1, m - (1 + 2 * kk), ao2, cap' - (1 + 2 * kk), by omega, by go_num, by rw [← HA2.out, Nat.mul_one], HC2.out.next HB2'.out, by omega, HB2.out⟩
          case measure => simp [intOf]; omega
        · obtain rfl : j = k := by omega
          have hz : m = 0 := by rw [← hml, List.drop_eq_nil_of_le (by omega)]; rfl
          subst hz
          have HB1 : Hid (Below w.heap.size w wr) := hb
          go_wp2_with (go_at_call 7; refine (awake_any _ (HV.out.later HB1.out)).mono ?_; rintro e w9 ⟨rfl, hb9⟩)
          go_ret
          exact ⟨rfl, HB1.out.trans (hb9.mono HB1.out.size)⟩

set_option maxRecDepth 100000 in
theorem lifted (os : Os) (started : os.Started) (H : Type) (enc : TypeId × Value → H) :
    ReturnsInHanded {} Tryd.checked os 6 .any (fun w args => (Rows.codecRowSpec.pre enc Tryd.prog Tryd.f6 [] false w args ∧ laidMetH Tryd.prog laidL w) ∧ sizedMet enc Tryd.prog Tryd.f6 (OpenSpec.ofChange Rows.codecRowSpec) false w args) (Rows.codecRowSpec.post enc Tryd.prog Tryd.f6 false true false false) := by
  refine returns_laid started (by kernel_rfl) Tryd.func6
    (ChangeSpec.witness_shaped (enc := enc) (C := Tryd.checked) (os := os) (X := fun w _ => laidMetH Tryd.prog laidL w) false (World.doorLaid Tryd.prog 2000 os) #[.slice none 0 0] 8 rfl (World.shaped_of_RefB (by kernel_rfl) (by kernel_rfl)) (by kernel_rfl) (by kernel_rfl) (by kernel_rfl) (door_met os _)) ?_
  intro W base args ds gs before hval0 hW hVars
  have hval : ∀ (j : Nat) t v, Tryd.f6.params[j]? = some t → args[j]? = some v → Value.okWide Tryd.prog W .any base t v := hval0
  have hW' := hW
  obtain ⟨p, q, hA0, hV, rfl, hfz, hnd⟩ := hW
  have hA : DataW.TrodAll enc Tryd.prog W 0 (fun _ => true) true Tryd.f6.params.toList args.toList ds p := hA0
  rw [Tryd.params6] at hA hval
  obtain ⟨v0, vs0, d0, ds0, p0, q0, hargs, rfl, rfl, h0, r0⟩ := trodAll_cons hA
  obtain ⟨rfl, rfl, rfl⟩ := trodAll_nil r0
  obtain rfl : args = #[v0] := by cases args; simp_all
  obtain ⟨rfl, rfl⟩ := trodVars_none hV
  obtain ⟨ao0, n0, cap0, rfl⟩ := okWide_slice Tryd.underlying43 (hval 0 43 v0 rfl rfl)
  have k0 := h0
  have lt0 : ∀ x ∈ p0, x.block < W.heap.size := by obtain ⟨m, hm⟩ := k0; exact DataW.trod_lt m _ _ _ hm
  obtain ⟨L0, l0⟩ := rows_of_trod h0
  clear hA0 hval0
  refine (walk ao0 n0 cap0 L0 W l0 hVars).mono fun e W' ⟨he, bel⟩ => ?_
  subst he
  exact ⟨_, rfl, _, _, _, [], _, [], hW', trodAll_mk1 (shut_bool Tryd.underlying4 _), (trodAll_cons_mk (Below.trod laidOut (by kernel_rfl) (of_decide_eq_true (by kernel_rfl)) k0 bel lt0) trodAll_mk0), rfl, bel.frame _, fun h => by cases h⟩

theorem over : Rows.codecRowRow.holds Tryd.pinned (OpenSpec.ofChange Rows.codecRowSpec) :=
  OpenClaim.holds_of_wide 6 Tryd.f6 rfl rfl rfl rfl rfl rfl rfl ⟨rfl, rfl, rfl, rfl, rfl⟩ rfl rfl rfl rfl rfl (by kernel_rfl) Tryd.func6 (by kernel_rfl)
    (of_decide_eq_true (by kernel_rfl)) (by unfold Func.isWrapper; first | (rw [if_pos (by decide +kernel)]; kernel_rfl) | (rw [if_neg (by decide +kernel)]; exact ⟨rfl, rfl⟩))
    (fun os started H enc _ => lifted os started H enc)

end codecRow
/-- The statement: the tied card. -/
theorem codecRow_holds : Rows.CodecRowCardSaid :=
  Claim7.holds_tied_plain_at .later [] [.data, .data, .data, .sentinel, .sentinel] true (true, "8744e54bc1fc022701c93aaea29aa16f8f1d8a459e81c598f98091468f4c21c9") true
    codecRow.over (fun _ h => by cases h) (by kernel_rfl) (fun _ h => by cases h) codecRow_row_tie rfl ⟨rfl, rfl⟩ (by kernel_rfl) rfl
    (fun f fn hf hfn => by
      obtain rfl : f = 6 := Option.some.inj ((show Tryd.prog.funcNamed "curtilage/curtilagelaw04.CodecRow" = some 6 by kernel_rfl).symm.trans hf) |>.symm
      obtain rfl : fn = Tryd.f6 := (Option.some.inj (Tryd.func6.symm.trans hfn)).symm
      exact ⟨by kernel_rfl, fun j t ht => by
        rw [Tryd.params6] at ht
        have hm : t ∈ [43] := by simpa using Array.mem_of_getElem? ht
        have hall : ([43].all fun u => !Tryd.prog.wantsStandIn u) = true := by kernel_rfl
        exact (show Tryd.prog.wantsStandIn t = false by simpa using List.all_eq_true.1 hall t hm)⟩)
    (by kernel_rfl)
#print axioms codecRow_holds
end Go.Proofs.YtpagpjidahaaeaaDoor
