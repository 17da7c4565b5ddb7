/-
 PROVED HERE: worlds and objects that are handed in lie in memory as records, and their words are words (over this translati. What is asked stands at each.
-/
import Derived.Test.YtnhjfjhbmekamaaGreatZ20
import Derived.Test.YtnhjfjhbmekamaaGreatZ27
import Derived.Test.YtnhjfjhbmekamaaGreatZ31
import Derived.Test.YtnhjfjhbmekamaaGreatZ35
import Derived.Test.YtnhjfjhbmekamaaGreatZ36
import Derived.Test.YtnhjfjhbmekamaaGreatZ40
namespace Go.Proofs.YtnhjfjhbmekamaaGreat
set_option maxRecDepth 100000
set_option maxHeartbeats 8000000
open Go.ChangeShapes Go.WideShapes Go.ChangeAt Go.RowKit
set_option linter.unusedVariables false

section
variable {H : Type} {enc : TypeId × Value → H} {w : World} {m : Nat} {y : DataW H × List MemPlace}
theorem f_intw {cs : List Value} {o : Nat} {t : TypeId} {k : IntKind} (ho : o < cs.length) (hc : Tryz.prog.cellsOf t = 1) (hu : Tryz.prog.underlying t = some (.int k)) (h : DataW.trod enc Tryz.prog w 0 (fun _ => true) true m t ((cs.drop o).take (Tryz.prog.cellsOf t)) = some y) : ∃ n, cs[o]? = some (.int k n) ∧ (Lit.int k n).wf = true := by
 rw [hc, one_cell ho] at h
 obtain ⟨n, e, _, hw⟩ := DataW.trod_int hu h
 simp at e
 exact ⟨n, by rw [List.getElem?_eq_getElem ho, e], hw⟩
theorem u64_wf {a : Int} (h : (Lit.int .u64 a).wf = true) : 0 ≤ a ∧ a < 18446744073709551616 := by
 simp [Lit.wf, IntKind.min, IntKind.max, IntKind.bits, IntKind.signed] at h
 omega
theorem span_wf {cs : List Value} (h : DataW.trod enc Tryz.prog w 0 (fun _ => true) true m 36 cs = some y) : ∃ a b, cs[0]? = some (.int .u64 a) ∧ cs[1]? = some (.int .u64 b) ∧ (0 ≤ a ∧ a < 18446744073709551616) ∧ (0 ≤ b ∧ b < 18446744073709551616) := by
 obtain ⟨xs, m', _, _, hl, hx, hg⟩ := DataW.trod_struct Tryz.underlying36 h
 rw [show Tryz.prog.cellsOf 36 = 2 from by kernel_rfl] at hl
 obtain ⟨y0, y1, rfl⟩ : ∃ y0 y1, xs = [y0, y1] := by
  match xs, hx with
  | [y0, y1], _ => exact ⟨y0, y1, rfl⟩
 have t0 : DataW.trod enc Tryz.prog w 0 (fun _ => true) true m' 22 ((cs.drop 0).take (Tryz.prog.cellsOf 22)) = some y0 := hg 0 _ rfl
 have t1 : DataW.trod enc Tryz.prog w 0 (fun _ => true) true m' 22 ((cs.drop 1).take (Tryz.prog.cellsOf 22)) = some y1 := hg 1 _ rfl
 obtain ⟨a, ea, wa⟩ := f_intw (o := 0) (by rw [hl]; omega) (by kernel_rfl) Tryz.underlying22 t0
 obtain ⟨b, eb, wb⟩ := f_intw (o := 1) (by rw [hl]; omega) (by kernel_rfl) Tryz.underlying22 t1
 exact ⟨a, b, ea, eb, u64_wf wa, u64_wf wb⟩
theorem wd_of_cells {cs : List Value} {x : Ob} {D : Nat → Prop} (h : DataW.trod enc Tryz.prog w 0 (fun _ => true) true m 43 cs = some y) (hx : ObD D w cs.toArray x) : WdO x := by
 obtain ⟨xs, m', _, _, hl, hxs, hg⟩ := DataW.trod_struct Tryz.underlying43 h
 rw [show Tryz.prog.cellsOf 43 = 51 from by kernel_rfl] at hl
 obtain ⟨y0, y1, y2, y3, y4, y5, y6, y7, y8, y9, y10, y11, rfl⟩ : ∃ y0 y1 y2 y3 y4 y5 y6 y7 y8 y9 y10 y11, xs = [y0, y1, y2, y3, y4, y5, y6, y7, y8, y9, y10, y11] := by
  match xs, hxs with
  | [y0, y1, y2, y3, y4, y5, y6, y7, y8, y9, y10, y11], _ => exact ⟨y0, y1, y2, y3, y4, y5, y6, y7, y8, y9, y10, y11, rfl⟩
 have t0 : DataW.trod enc Tryz.prog w 0 (fun _ => true) true m' 22 ((cs.drop 0).take (Tryz.prog.cellsOf 22)) = some y0 := hg 0 _ rfl
 obtain ⟨id, eid, wid⟩ := f_intw (o := 0) (by rw [hl]; omega) (by kernel_rfl) Tryz.underlying22 t0
 have t8 : DataW.trod enc Tryz.prog w 0 (fun _ => true) true m' 39 ((cs.drop 8).take (Tryz.prog.cellsOf 39)) = some y8 := hg 8 _ rfl
 rw [show Tryz.prog.cellsOf 39 = 35 from by kernel_rfl] at t8
 obtain ⟨zs, m2, _, _, hl2, hzs, hg2⟩ := DataW.trod_struct Tryz.underlying39 t8
 obtain ⟨z0, z1, z2, z3, z4, z5, z6, z7, z8, z9, z10, rfl⟩ : ∃ z0 z1 z2 z3 z4 z5 z6 z7 z8 z9 z10, zs = [z0, z1, z2, z3, z4, z5, z6, z7, z8, z9, z10] := by
  match zs, hzs with
  | [z0, z1, z2, z3, z4, z5, z6, z7, z8, z9, z10], _ => exact ⟨z0, z1, z2, z3, z4, z5, z6, z7, z8, z9, z10, rfl⟩
 have t9 : DataW.trod enc Tryz.prog w 0 (fun _ => true) true m2 36 ((((cs.drop 8).take 35).drop 29).take (Tryz.prog.cellsOf 36)) = some z9 := hg2 9 _ rfl
 rw [show Tryz.prog.cellsOf 36 = 2 from by kernel_rfl] at t9
 obtain ⟨a, b, ea, eb, wa, wb⟩ := span_wf t9
 have c0 : (((((cs.drop 8).take 35).drop 29).take 2)[0]?) = cs[37]? := by simp [List.getElem?_drop]
 have c1 : (((((cs.drop 8).take 35).drop 29).take 2)[1]?) = cs[38]? := by simp [List.getElem?_drop]
 rw [c0] at ea
 rw [c1] at eb
 have i1 : cs[0]? = some (.int .u64 x.id) := by simpa using hx.id
 have i2 : cs[37]? = some (.int .u64 x.th.lo) := by simpa using hx.th.lo
 have i3 : cs[38]? = some (.int .u64 x.th.hi) := by simpa using hx.th.hi
 rw [i1] at eid
 rw [i2] at ea
 rw [i3] at eb
 cases eid
 cases ea
 cases eb
 exact ⟨u64_wf wid, wa, wb⟩
theorem obsW_of_trod {ao : Option Addr} {n cap : Nat} {d : DataW H} {ps : List MemPlace} (h : DataW.Trod enc Tryz.prog w 0 (fun _ => true) true 23 (.slice ao n cap) d ps) : ∃ l, Obs w ao n cap l ∧ ∀ x ∈ l, WdO x := by
 obtain ⟨fuel, hf⟩ := h
 have c51 : Tryz.prog.cellsOf 43 = 51 := by kernel_rfl
 rcases Go.Deep.open_slice Tryz.underlying23 hf with ⟨e, _⟩ | ⟨a, len, cap', m, n', D, Pl, e, hb, hl, hm, hmm, hdd, hx⟩
 ·simp [Value.cells] at e
  obtain ⟨rfl, rfl, rfl⟩ := e
  exact ⟨[], ObsD.nil _ _ _, fun x hx => absurd hx (by simp)⟩
 ·simp [Value.cells] at e
  obtain ⟨rfl, rfl, rfl⟩ := e
  have hmc : m = cap := by rw [hmm]; rfl
  have key : ∀ i, ∃ (x : Ob) (C : Array Value), i < n → (ObD (LtN w) w C x ∧ WdO x) ∧ ∀ j v, C[j]? = some v → w.cell? ((a.add (i * 51)).add j) = some v := by
   intro i
   by_cases hi : i < n
   ·obtain ⟨cs, h1, h2⟩ := hx i (by omega)
    rw [c51] at h1
    obtain ⟨_, hlen, hcell⟩ := World.cells?_some h1
    obtain ⟨x, hxx⟩ := ob_of_cells h2
    refine ⟨x, cs.toArray, fun _ => ⟨⟨hxx, wd_of_cells h2 hxx⟩, fun j v hv => ?_⟩⟩
    have hv' : cs[j]? = some v := by simpa using hv
    have hj : j < 51 := by rw [← hlen]; exact (List.getElem?_eq_some_iff.1 hv').1
    rw [hcell j hj, hv']
   ·exact ⟨zOb, #[], fun h => absurd h hi⟩
  have hkey : ∀ i, i < n → ∃ C, (ObD (LtN w) w C (Classical.choose (key i)) ∧ WdO (Classical.choose (key i))) ∧ ∀ j v, C[j]? = some v → w.cell? ((a.add (i * 51)).add j) = some v := fun i hi => by
   obtain ⟨C, hC⟩ := Classical.choose_spec (key i)
   exact ⟨C, hC hi⟩
  refine ⟨(List.range n).map fun i => Classical.choose (key i), ⟨by simp, hl, ⟨by unfold maxLen at hm; omega, fun e => by cases e⟩, fun hn => ?_⟩, fun x hx => ?_⟩
  ·obtain ⟨v0, z⟩ : ∃ v0, w.cell? ((a.add (0 * 51)).add 0) = some v0 := by
    obtain ⟨C, hC, hr⟩ := hkey 0 hn
    exact ⟨_, hr 0 _ hC.1.id⟩
   have ha0 : (a.add (0 * 51)).add 0 = a := by simp [Addr.add]
   rw [ha0] at z
   obtain ⟨hea, hadd⟩ := PgM.spotK z
   refine ⟨a.block, a.off, by rw [← hea], World.block_lt_of_cell? w _ z, fun i hi => ?_⟩
   have hg : oat ((List.range n).map fun i => Classical.choose (key i)) i = Classical.choose (key i) := by
    unfold oat; rw [List.getD_eq_getElem?_getD, List.getElem?_eq_getElem (by simpa using hi)]; simp
   obtain ⟨C, hC, hr⟩ := hkey i hi
   refine ⟨C, by rw [hg]; exact hC.1, fun j v hv => ?_⟩
   have q := hr j v (by simpa using hv)
   rw [hadd, Addr.add_mid] at q
   exact q
  ·obtain ⟨i, hi, rfl⟩ := List.mem_map.1 hx
   obtain ⟨C, hC, _⟩ := hkey i (List.mem_range.1 hi)
   exact hC.2
theorem worldW_of_trod {base : Nat} {v : Value} {d : DataW H} {ps : List MemPlace} (hv : Value.okWide Tryz.prog w .any base 25 v)
  (h : DataW.Trod enc Tryz.prog w 0 (fun _ => true) true 25 v d ps) : ∃ (t : Int) (ke : Nat) (ro : Int) (ao : Option Addr) (n cap : Nat) (X : List Ob), v = .agg #[.int .i64 t, .int .u64 (ke : Int), .int .u64 ro, .slice ao n cap] ∧ (Obs w ao n cap X ∧ ∀ x ∈ X, WdO x) := by
 unfold Value.okWide at hv
 rw [Tryz.underlying25] at hv
 obtain ⟨cs, rfl, hs, _⟩ := hv
 rw [show Tryz.prog.cellsOf 25 = 4 from by kernel_rfl] at hs
 obtain ⟨fuel, hf⟩ := h
 obtain ⟨x0, x1, x2, x3, rfl⟩ : ∃ x0 x1 x2 x3, cs = #[x0, x1, x2, x3] := by
  match cs, hs with
  | ⟨[x0, x1, x2, x3]⟩, _ => exact ⟨x0, x1, x2, x3, rfl⟩
 have hf' : DataW.trod enc Tryz.prog w 0 (fun _ => true) true fuel 25 [x0, x1, x2, x3] = some (d, ps) := hf
 obtain ⟨xs, m', _, _, hl, hx, hg⟩ := DataW.trod_struct Tryz.underlying25 hf'
 obtain ⟨y0, y1, y2, y3, rfl⟩ : ∃ y0 y1 y2 y3, xs = [y0, y1, y2, y3] := by
  match xs, hx with
  | [y0, y1, y2, y3], _ => exact ⟨y0, y1, y2, y3, rfl⟩
 obtain ⟨t, et⟩ := f_int (t := 3) (o := 0) (y := y0) (by simp) (by kernel_rfl) Tryz.underlying3 (hg 0 _ rfl)
 obtain ⟨ke, eke, wke⟩ := f_intw (t := 22) (o := 1) (y := y1) (by simp) (by kernel_rfl) Tryz.underlying22 (hg 1 _ rfl)
 obtain ⟨ro, ero⟩ := f_int (t := 22) (o := 2) (y := y2) (by simp) (by kernel_rfl) Tryz.underlying22 (hg 2 _ rfl)
 obtain ⟨ao, n, cap, ea, hT⟩ := f_slice (t := 23) (o := 3) (y := y3) (by simp) (by kernel_rfl) Tryz.underlying23 (hg 3 _ rfl)
 obtain ⟨X, hX, hW⟩ := obsW_of_trod hT
 have hk := u64_wf wke
 obtain ⟨kn, rfl⟩ : ∃ kn : Nat, ke = kn := ⟨ke.toNat, by omega⟩
 simp at et eke ero ea
 subst et eke ero ea
 exact ⟨t, kn, ro, ao, n, cap, X, rfl, hX, hW⟩
end
end Go.Proofs.YtnhjfjhbmekamaaGreat
namespace Go.Proofs.YtnhjfjhbmekamaaGreat
set_option maxRecDepth 100000
set_option maxHeartbeats 8000000

theorem sumO_bd (l : List Ob) (f : Ob → Int) (h : ∀ x ∈ l, 0 ≤ f x ∧ f x ≤ 4096) : 0 ≤ sumO l f ∧ sumO l f ≤ 4096 * l.length := by
 induction l with
 | nil => exact ⟨Int.le_refl _, Int.le_refl _⟩
 | cons x r ih =>
  have h1 := h x (List.mem_cons_self ..)
  have h2 := ih fun y hy => h y (List.mem_cons_of_mem _ hy)
  rw [sumO_cons, List.length_cons]
  omega
end Go.Proofs.YtnhjfjhbmekamaaGreat
namespace Go.Proofs.YtnhjfjhbmekamaaGreat
set_option maxRecDepth 100000
set_option maxHeartbeats 8000000
open Go.RowKit Go.Shelf
set_option linter.unusedVariables false
attribute [local go_sem] Oper.semAt_some

theorem rsameW_yes {w : World} {a a' : Option Addr} {n cap n' cap' : Nat} {L : List Int} (h : CtD (LtN w) w a n cap L) (h' : CtD (LtN w) w a' n' cap' L) : Calls Tryz.prog 18 #[.slice a n cap, .slice a' n' cap'] w fun e w' => e = .returned (.bool true) ∧ Below w.heap.size w w' := by
 have hmx : Tryz.prog.follows .mixedOrders = true := by kernel_rfl
 obtain rfl : n = n' := h.1.symm.trans h'.1
 have hnc := h.2.1
 have hcm := h.2.2.1.1
 go_enter Tryz.func18, Tryz.ntmps18
 go_wp2
 go_loopw [5] (fun j wr => ∃ k : Nat, k ≤ n ∧ j = .int .i64 k ∧ Below w.heap.size w wr) (fun j _ => n - (intOf j).toNat)
 case atStart => exact ⟨0, Nat.zero_le _, rfl, Below.refl _ _⟩
 case round =>
  obtain ⟨k, hk, rfl, hb⟩ := hrel
  by_cases hkn : k < n
  ·obtain ⟨b, off, rfl, hbb, hc⟩ := ct_at h hkn
   obtain ⟨b', off', rfl, hbb', hc'⟩ := ct_at h' hkn
   have hkn' : (k : Int) < n := by omega
   generalize L.getD k 0 = z at hc hc'
   go_wp2
   have hkd := (Below.refl wr.heap.size wr).drew
   refine PgM.region_out (S := AtW wr.drew) hmx rfl (fun hS => ?_)
   replace hb := hb.trans (hkd.mono hb.size)
   replace hc := (World.cell?_of_block (w := w) (a := ⟨b, off + k, none⟩) (hb.block b hbb)).trans hc
   replace hc' := (World.cell?_of_block (w := w) (a := ⟨b', off' + k, none⟩) (hb.block b' hbb')).trans hc'
   have qz : Hid (¬ ¬ z = z) := fun q => q rfl
   generalize wr.drew = W5 at hS hb hc hc' ⊢
   clear hkd
   refine wpAnyH_sym (by kernel_rfl) (fun _ _ _ _ _ h => h) hS [(0, none), (1, none), (2, some (.pointer (some ⟨b, off + k, none⟩))), (3, some (.int .u64 z)), (4, none), (5, none), (6, some (.pointer (some ⟨b', off' + k, none⟩))), (7, some (.int .u64 z)), (8, some (.bool false))] (l' := #[true, true, true, true, true, true, true, true, true]) (a' := { tmps := #[.slice (some ⟨b, off, none⟩) n cap, .slice (some ⟨b', off', none⟩) n cap', undef, undef, u4, .int .i64 k, .slice (some ⟨b, off, none⟩) n cap, .int .i64 n, .slice (some ⟨b', off', none⟩) n cap', .int .i64 n, .bool false, .int .i64 k, .slice (some ⟨b, off, none⟩) n cap, .int .i64 n, .bool true, u15, u16, .slice (some ⟨b, off, none⟩) n cap, .int .i64 k, .pointer (some ⟨b, off + k, none⟩), .int .u64 z, .slice (some ⟨b', off', none⟩) n cap', .int .i64 k, .pointer (some ⟨b', off' + k, none⟩), .int .u64 z, .bool false], defers := [] }) (obs := [.ia 28 (.slice (some ⟨b, off, none⟩) n cap) (.int .i64 k) (.pointer (some ⟨b, off + k, none⟩)), .load 22 b (off + k) (.int .u64 z), .ia 28 (.slice (some ⟨b', off', none⟩) n cap') (.int .i64 k) (.pointer (some ⟨b', off' + k, none⟩)), .load 22 b' (off' + k) (.int .u64 z), .test .neq 22 (.tmp 20) (.tmp 24) (.int .u64 z) (.int .u64 z) (.bool false)]) (n := 0) (by kernel_rfl) (by kernel_rfl) ⟨iaw_at hkn, ob_word (fun _ e => AtW.cel e hc) Tryz.isAgg22, iaw_at hkn, ob_word (fun _ e => AtW.cel e hc') Tryz.isAgg22, ob_no (fun _ => neg_int _ _ _ _ _ _) qz, trivial⟩ ?_
   refine wpAnyH_done (by kernel_rfl) ?_ _
   go_wp2
   go_roundw
   case rel => exact ⟨k + 1, by omega, by go_num, hb⟩
   case measure => simp [intOf]; omega
  ·obtain rfl : k = n := by omega
   go_wp2
   go_ret
   exact ⟨rfl, hb⟩
theorem ct_up {W W' : World} {a : Option Addr} {n cap : Nat} {L : List Int} (h : CtD (LtN W) W a n cap L) (k : Below W.heap.size W W') : CtD (LtN W') W' a n cap L :=
 (h.laterK fun b hb => k.block b hb).wide fun b hb => Nat.lt_of_lt_of_le hb k.size
theorem alo_maps {x : Ob} (h : aloO x = x) (hk : ¬ x.kind = 3) : x.maps = [] := by
 have e : (aloO x).maps = [] := by
  unfold aloO
  by_cases h1 : x.kind = 1
  ·rw [if_pos h1]
  rw [if_neg h1]
  by_cases h2 : x.kind = 2
  ·rw [if_pos h2]
  rw [if_neg h2, if_neg hk]
  by_cases h4 : x.kind = 4
  ·rw [if_pos h4]
  rw [if_neg h4]
  by_cases h5 : x.kind = 5
  ·rw [if_pos h5]
  rw [if_neg h5]
  by_cases h6 : x.kind = 6
  ·rw [if_pos h6]
  rw [if_neg h6]; rfl
 rw [h] at e; exact e
theorem sound_small0 {x : Ob} (hs : soundB x = true) : Small x := by
 obtain ⟨hc, ho, hw⟩ := sound_iff.1 hs
 have ha := (alone_iff x).1 hw
 have hq := (com_iff.1 hc).2.2.1
 refine sound_small hs ⟨?_, ?_, ?_⟩
 ·by_cases k2 : x.kind = 2
  ·unfold ownB at ho
   rw [if_neg (by rw [k2]; decide), if_pos k2] at ho
   simp only [Bool.and_eq_true, decide_eq_true_eq] at ho
   omega
  ·rw [links_nil hs k2]; decide
 ·by_cases k1 : x.kind = 1
  ·unfold ownB at ho
   rw [if_pos k1] at ho
   simp only [decide_eq_true_eq] at ho
   omega
  ·rw [alo_data ha k1]; decide
 ·by_cases k3 : x.kind = 3
  ·unfold ownB at ho
   rw [if_neg (by rw [k3]; decide), if_neg (by rw [k3]; decide), if_pos k3] at ho
   unfold PgM.Pg.fitB at ho
   simp only [Bool.and_eq_true, decide_eq_true_eq] at ho
   omega
  ·rw [alo_maps ha k3]; decide
theorem up_abv {X : List Ob} {ro : Int} (h : Tre X ro) (i : Int) : upsF (hldF X) X.length (hldF X i) = rabv X i := by
 have hl : ∀ d ∈ X, d.links.Nodup := fun d hd => links_nodup (h.snd d hd)
 cases hf : fnd X i with
 | some o =>
  have ho := fnd_id hf
  have := up_way h ho.2
  rw [ho.1] at this
  rw [this]
  unfold rabv
  have hle := way_le h ho.2
  rw [ho.1] at hle
  rw [if_pos (Nat.le_of_lt hle)]
 | none =>
  have hn : holL X i = [] := by
   cases hh : holL X i with
   | nil => rfl
   | cons a t =>
    obtain ⟨d, hd, _, hi⟩ := holL_mem (show a ∈ holL X i by rw [hh]; exact List.mem_cons_self ..)
    have := (h.lnk d hd i hi).1
    rw [hf] at this
    cases this
  rw [hld_at h.srt hl, hf]
  have e1 : rabv X i = [] := by unfold rabv; rw [abv_stop hn]; rfl
  rw [e1]
  cases X with
  | nil => rfl
  | cons x r => rfl
end Go.Proofs.YtnhjfjhbmekamaaGreat
