/-
 PROVED HERE: what the law's few of chapter 19 return when they are called (contracts over this translation); in a whole wor. What is asked stands at each.
-/
import Derived.Test.YtdeddhojjolihaaGreatZ12
import Derived.Test.YtdeddhojjolihaaGreatZ17
import Derived.Test.YtdeddhojjolihaaGreatZ18
import Derived.Test.YtdeddhojjolihaaGreatZ26
import Derived.Test.YtdeddhojjolihaaGreatZ27
import Derived.Test.YtdeddhojjolihaaGreatZ30
import Derived.Test.YtdeddhojjolihaaGreatZ34
import Derived.Test.YtdeddhojjolihaaGreatZ37
import Derived.Test.YtdeddhojjolihaaGreatZ39
import Derived.Test.YtdeddhojjolihaaGreatZ42
import Derived.Test.YtdeddhojjolihaaGreatZ43
import Derived.Test.YtdeddhojjolihaaGreatZ47
import Derived.Test.YtdeddhojjolihaaGreatZ48
import Derived.Test.YtdeddhojjolihaaGreatZ51
namespace Go.Proofs.YtdeddhojjolihaaGreat
set_option maxRecDepth 100000
set_option maxHeartbeats 8000000
set_option linter.unusedVariables false
open Go.Proofs.Tryz
section
open Go.RowKit Go.Shelf
attribute [local go_sem] Oper.semAt_some
def few19P (t : Int) (key : Nat) (ro : Int) (l : List Ob) : Prop := (l.length ≤ 24 ∧ ∀ i, i < l.length → fewO (oat l i)) ∧ fitD t key ro l = true
theorem gez {w : World} {t ro : Int} {key : Nat} {ao : Option Addr} {n cap : Nat} {X : List Ob} (h : Obs w ao n cap X) (hw : ∀ x ∈ X, WdO x) : Asks 6 #[.agg #[.int .i64 t, .int .u64 (key : Int), .int .u64 ro, .slice ao n cap]] (few19P t key ro X) w := by
  have hn : Hid (X.length = n) := h.1
  have hnc := h.2.1
  have hcm := h.2.2.1.1
  have hft := fun (W : World) (hk : Below w.heap.size w W) => rtfit_w (t := t) (ro := ro) (key := key) (quz h hk) (fun hf x hx => wPz ((vIz hf).2.1 x hx)) hw
  have hzg : (prog.info? 25).map (·.size) = some (#[.int .i64 t, .int .u64 (key : Int), .int .u64 ro, .slice ao n cap] : Array Value).size := by kernel_rfl
  have c3 : (#[.int .i64 t, .int .u64 (key : Int), .int .u64 ro, .slice ao n cap] : Array Value)[3]? = some (.slice ao n cap) := rfl
  obtain ⟨D, hD⟩ : ∃ D : Array Value, D = #[.int .i64 t, .int .u64 (key : Int), .int .u64 ro, .slice ao n cap] := ⟨_, rfl⟩
  rw [← hD] at hft hzg c3
  rw [← hD]
  clear hD
  obtain ⟨fb, hfb⟩ : ∃ fb, Hid (fitD t key ro X = fb) := ⟨_, rfl⟩
  rw [hfb.out] at hft
  have ga3 := isAgg23
  unfold Asks
  by_cases h20 : n ≤ 24
  · have h20' : ¬ (24 : Int) < n := by omega
    go_enter func6, ntmps6
    go_wp2_with (first
      | (with_reducible refine qdz rfl 25 _ rfl D rfl ?_; intro B W0 hN0 hB kw)
      | (with_reducible refine qaz (by kernel_rfl) _ _ rfl B _ rfl _ _ hB _ c3 ga3 ?_))
    go_loopw [12] (fun i wr => ∃ k : Nat, k ≤ n ∧ i = .int .i64 k ∧ Hid (∀ j, j < k → fewO (oat X j)) ∧ Blk wr B D 25 ∧ Below w.heap.size w wr) (fun i _ => n - (intOf i).toNat)
    case atStart => exact ⟨0, Nat.zero_le _, rfl, fun j hj => absurd hj (by omega), hB, kw⟩
    case round =>
      clear hB kw
      obtain ⟨k, hk, rfl, hal, hB, hb⟩ := hrel
      have hbs := hb.size
      by_cases hkn : k < n
      · obtain ⟨b, off, C, rfl, hbb, hC, hr⟩ := wQz (quz h hb) hkn
        have hkn' : (k : Int) < n := by omega
        have hz := hC.size
        obtain ⟨a2, n2, q2, c2, l2⟩ := hC.label
        obtain ⟨a5, n5, q5, c5, l5⟩ := hC.links
        obtain ⟨a6, n6, q6, c6, l6⟩ := hC.data
        obtain ⟨a7, n7, q7, c7, l7⟩ := hC.maps
        have m2 : Hid ((oat X k).label.length = n2) := l2.1
        have m5 : Hid ((oat X k).links.length = n5) := l5.1
        have m6 : Hid ((oat X k).data.length = n6) := l6.1
        have m7 : Hid ((oat X k).maps.length = n7) := l7.1
        have hone := hC.one
        clear l2 l5 l6 l7 hC hft
        go_wp2_with (first
          | (with_reducible refine qLz (by kernel_rfl) 50 _ rfl b _ rfl C hr _ underlying50 (by kernel_rfl) (qhz hz) ?_)
          | ((with_reducible refine qcz rfl _ rfl zC qsz ?_); intro R W1 hB1 hR1 hk1)
          | ((with_reducible refine qbz rfl _ _ _ rfl R rfl C rfl zC hR1 (qhz hz) (qmz.trans hz.symm) hone ?_); intro W2 hR2 o2; have k2 := o2.below wr.heap.size wr (by have := hB1.out.1; omega) hk1; have k3 := hb.trans (k2.mono hbs); have hB2 := hB.next k2)
          | (with_reducible refine qaz (by kernel_rfl) _ _ rfl R _ rfl _ _ hR2 _ c2 isAgg34 ?_)
          | (with_reducible refine qaz (by kernel_rfl) _ _ rfl R _ rfl _ _ hR2 _ c5 isAgg35 ?_)
          | (with_reducible refine qaz (by kernel_rfl) _ _ rfl R _ rfl _ _ hR2 _ c6 isAgg35 ?_)
          | (with_reducible refine qaz (by kernel_rfl) _ _ rfl R _ rfl _ _ hR2 _ c7 isAgg36 ?_)
          | ((with_reducible refine qiz (by kernel_rfl) .gtr 3 _ _ _ rfl (.int .i64 (n2 : Int)) _ rfl rfl (qNz _ _ _ _ _ _) ?_ ?_) <;> intro e2)
          | ((with_reducible refine qiz (by kernel_rfl) .gtr 3 _ _ _ rfl (.int .i64 (n5 : Int)) _ rfl rfl (qNz _ _ _ _ _ _) ?_ ?_) <;> intro e5)
          | ((with_reducible refine qiz (by kernel_rfl) .gtr 3 _ _ _ rfl (.int .i64 (n6 : Int)) _ rfl rfl (qNz _ _ _ _ _ _) ?_ ?_) <;> intro e6)
          | ((with_reducible refine qiz (by kernel_rfl) .gtr 3 _ _ _ rfl (.int .i64 (n7 : Int)) _ rfl rfl (qNz _ _ _ _ _ _) ?_ ?_) <;> intro e7))
        all_goals first
          | (go_ret
             refine qrz (Y := fewO (oat X k)) ?_ k3 (fun e => e.1.2 k (by rw [hn.out]; exact hkn))
             refine (?_ : ¬ fewO (oat X k))
             rintro ⟨f2, f5, f6, f7⟩
             rw [m2.out] at f2
             rw [m5.out] at f5
             rw [m6.out] at f6
             rw [m7.out] at f7
             simp only [Hid] at *
             omega)
          | (go_roundw
             case rel => exact ⟨k + 1, by omega, by go_num, wUz hal.out (by refine ⟨?_, ?_, ?_, ?_⟩ <;> first | (rw [m2.out]; have := e2.out; omega) | (rw [m5.out]; have := e5.out; omega) | (rw [m6.out]; have := e6.out; omega) | (rw [m7.out]; have := e7.out; omega)), hB2, k3⟩
             case measure => simp [intOf]; omega)
      · obtain rfl : k = n := by omega
        go_wp2_with (first
          | (with_reducible refine qez (by kernel_rfl) 25 _ rfl B rfl D hB _ underlying25 (by kernel_rfl) hzg ?_)
          | (go_at_call 11; (with_reducible refine (hft _ hb).mono ?_); rintro e w2 ⟨rfl, hb2⟩))
        go_ret
        refine ⟨fb, rfl, ⟨fun e => ⟨⟨by rw [hn.out]; exact h20, fun i hi => hal.out i (by rw [hn.out] at hi; exact hi)⟩, by rw [hfb.out]; exact e⟩, fun e => hfb.out.symm.trans e.2⟩, btz hb hb2⟩
  · have h20' : (24 : Int) < n := by omega
    have hq : Hid (¬ n ≤ 24) := h20
    go_enter func6, ntmps6
    go_wp2_with (first
      | (with_reducible refine qdz rfl 25 _ rfl D rfl ?_; intro B W0 hN0 hB kw)
      | (with_reducible refine qaz (by kernel_rfl) _ _ rfl B _ rfl _ _ hB _ c3 ga3 ?_))
    go_ret
    exact qrz hq kw (fun e => by have := e.1.1; rw [hn.out] at this; exact this)
end
section
open Go.RowKit Go.Shelf
structure Wk (X : List Ob) (i : Int) : Prop where
 len : X.length ≤ 24
 lab : ∀ x ∈ X, LbF x.label
 sho : ∀ x ∈ X, x.label.length < 1048576
 wd : ruB X i = true → WdT (fO X i).th
 pcw : ruB X i = true → 0 ≤ ldV X (fO X i) (fO X i).th.pc ∧ ldV X (fO X i) (fO X i).th.pc < 18446744073709551616
theorem y4z {X : List Ob} {x : Ob} (hs : Srt X) : (tuR X x).X.length = X.length := by
 rcases tu_X X x with e | ⟨a, v, _, e, _⟩
 ·rw [e]
 ·rw [e]; exact st_len hs
section
variable {w : World} {t ro : Int} {key : Nat} {ao : Option Addr} {n cap : Nat} {X : List Ob} {i : Int}
theorem step_all (h : Obs w ao n cap X) (hf : fitD t key ro X = true) (hW : Wk X i) : Calls prog 8 #[.agg #[.int .i64 t, .int .u64 (key : Int), .int .u64 ro, .slice ao n cap], .int .u64 i] w fun e w' => ∃ ao2 n2 cap2, e = .returned (.tuple #[.agg #[.int .i64 t, .int .u64 (key : Int), .int .u64 ro, .slice ao2 n2 cap2], .int .i64 (stpN X i)]) ∧ Obs w' ao2 n2 cap2 (stpX X i) ∧ Below w.heap.size w w' := by
 have hT := xbz hf
 have hn : X.length = n := h.1
 have hl := hW.len
 have hsm : wfz X := fun x hx => wPz (hT.snd x hx)
 have hid : ∀ y ∈ X, y.id ≠ 0 := fun y hy => by have := id_pos (hT.snd y hy); omega
 cases hr : ruB X i with
 | false =>
  have e1 : stpX X i = X := by unfold stpX; rw [if_neg (by rw [hr]; decide)]
  have e2 : stpN X i = -1 := by unfold stpN; rw [if_neg (by rw [hr]; decide)]
  rw [e1, e2]
  exact (ubz h hT.srt (by omega) hsm hid hr).mono fun e w' ⟨a, b, c, q1, q2, q3⟩ => ⟨a, b, c, q1, q2.wide (fun b hb => by first | exact hb | exact hb.elim (fun q => Nat.lt_of_lt_of_le q q3.size) fun q => q.2) (fun b hb => by first | exact hb | exact hb.elim (fun q => Nat.lt_of_lt_of_le q q3.size) fun q => q.2), q3⟩
 | true =>
  have e1 : stpX X i = puR (tuR X (fO X i)).X { fO X i with th := (tuR X (fO X i)).t } := by unfold stpX; rw [if_pos hr]
  have e2 : stpN X i = (tuR X (fO X i)).n := by unfold stpN; rw [if_pos hr]
  rw [e1, e2]
  obtain ⟨hm, hmi, hk, h0⟩ := vZz hr
  have hT1 := xbz (y5z (x := fO X i) hf)
  exact (step_yes h hT.srt (by omega) hsm hT.snd hid hr ⟨hT.srt, by omega, hsm, hT.snd, hid, hW.sho _ hm, hsm _ hm⟩ (hW.wd hr) (hW.pcw hr) hT1.srt (fun x hx => wPz (hT1.snd x hx)) (by rw [y4z hT.srt]; omega) (tk_small (hsm _ hm) (tk_tu X _))).mono fun e w' ⟨a, b, c, q1, q2, q3⟩ => ⟨a, b, c, q1, q2.wide (fun b hb => by first | exact hb | exact hb.elim (fun q => Nat.lt_of_lt_of_le q q3.size) fun q => q.2) (fun b hb => by first | exact hb | exact hb.elim (fun q => Nat.lt_of_lt_of_le q q3.size) fun q => q.2), q3⟩
end
end
section
open Go.RowKit Go.Shelf
structure Gd (t : Int) (key : Nat) (ro : Int) (m : Nat) (X : List Ob) : Prop where
 fit : fitD t key ro X = true
 wd : ∀ x ∈ X, WdO x ∧ WdC x
 len : X.length = m
section
variable {t ro : Int} {key m : Nat} {X : List Ob} {i : Int}
theorem stp_len (hf : fitD t key ro X = true) : (stpX X i).length = X.length := by
 unfold stpX
 split
 ·rename_i h
  obtain ⟨hm, hmi, k, s⟩ := vZz h
  have hT := xbz hf
  have hT1 := xbz (y5z (x := fO X i) hf)
  obtain ⟨z, hz, kz⟩ := tu_kin (x := fO X i) hT.srt hm
  have hi : (fnd (tuR X (fO X i)).X ({ fO X i with th := (tuR X (fO X i)).t } : Ob).id).isSome = true := by
   rw [(fnd_some hT1.srt).2 ⟨hz, kz.id⟩]; rfl
  rw [vyz hT1.srt hi, List.length_map, y4z hT.srt]
 ·rfl
theorem Gd.wk (h : Gd t key ro m X) (hm : m ≤ 24) (i : Int) : Wk X i :=
 ⟨by rw [h.len]; exact hm, fun x hx => krz ((xbz h.fit).snd x hx), fun x hx => (krz ((xbz h.fit).snd x hx)).2,
  fun _ => (fO_wd (fun x hx => (h.wd x hx).2) i).th.tw, fun _ => ld_wd (fun x hx => (h.wd x hx).2) _ _⟩
end
end
end Go.Proofs.YtdeddhojjolihaaGreat
