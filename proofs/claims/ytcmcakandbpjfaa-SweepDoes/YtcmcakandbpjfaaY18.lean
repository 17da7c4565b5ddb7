/-
 PROVED HERE: plain facts on sound objects (no Go text): what is sound is small; what the document's Same of numbers returns. What is asked stands at each.
-/
import Derived.WalkMore
import Derived.Test.YtcmcakandbpjfaaY8
import Derived.Test.YtcmcakandbpjfaaY15
import Derived.Test.YtcmcakandbpjfaaY17
namespace Go.Proofs.Ytcmcakandbpjfaa
set_option maxRecDepth 100000
set_option maxHeartbeats 8000000
open Go.RowKit Go.Shelf
set_option linter.unusedVariables false

theorem alo_maps {x : Ob} (h : aloO x = x) (hk : ¬ x.kind = 3) : x.maps = [] := by
 have e : (aloO x).maps = [] := by
  unfold aloO
  by_cases h1 : x.kind = 1
  ·rw [if_pos h1]
  rw [if_neg h1]
  by_cases h2 : x.kind = 2
  ·rw [if_pos h2]
  rw [if_neg h2, if_neg hk]
  by_cases h4 : x.kind = 4
  ·rw [if_pos h4]
  rw [if_neg h4]
  by_cases h5 : x.kind = 5
  ·rw [if_pos h5]
  rw [if_neg h5]
  by_cases h6 : x.kind = 6
  ·rw [if_pos h6]
  rw [if_neg h6]; rfl
 rw [h] at e; exact e
theorem sound_small0 {x : Ob} (hs : soundB x = true) : Small x := by
 obtain ⟨hc, ho, hw⟩ := sound_iff.1 hs
 have ha := (alone_iff x).1 hw
 have hq := (com_iff.1 hc).2.2.1
 refine sound_small hs ⟨?_, ?_, ?_⟩
 ·by_cases k2 : x.kind = 2
  ·unfold ownB at ho
   rw [if_neg (by rw [k2]; decide), if_pos k2] at ho
   simp only [Bool.and_eq_true, decide_eq_true_eq] at ho
   omega
  ·rw [links_nil hs k2]; decide
 ·by_cases k1 : x.kind = 1
  ·unfold ownB at ho
   rw [if_pos k1] at ho
   simp only [decide_eq_true_eq] at ho
   omega
  ·rw [alo_data ha k1]; decide
 ·by_cases k3 : x.kind = 3
  ·unfold ownB at ho
   rw [if_neg (by rw [k3]; decide), if_neg (by rw [k3]; decide), if_pos k3] at ho
   unfold PgM.Pg.fitB at ho
   simp only [Bool.and_eq_true, decide_eq_true_eq] at ho
   omega
  ·rw [alo_maps ha k3]; decide
end Go.Proofs.Ytcmcakandbpjfaa
namespace Go.Proofs.Ytcmcakandbpjfaa
set_option maxRecDepth 100000
set_option maxHeartbeats 8000000
open Go.RowKit Go.Shelf
set_option linter.unusedVariables false
attribute [local go_sem] Oper.semAt_some

theorem rsameW_yes {w : World} {a a' : Option Addr} {n cap n' cap' : Nat} {L : List Int} (h : CtD (LtN w) w a n cap L) (h' : CtD (LtN w) w a' n' cap' L) : Calls Try.prog 12 #[.slice a n cap, .slice a' n' cap'] w fun e w' => e = .returned (.bool true) ∧ Below w.heap.size w w' := by
 have hmx : Try.prog.follows .mixedOrders = true := by kernel_rfl
 obtain rfl : n = n' := h.1.symm.trans h'.1
 have hnc := h.2.1
 have hcm := h.2.2.1.1
 go_enter Try.func12, Try.ntmps12
 go_wp2
 go_loopw [5] (fun j wr => ∃ k : Nat, k ≤ n ∧ j = .int .i64 k ∧ Below w.heap.size w wr) (fun j _ => n - (intOf j).toNat)
 case atStart => exact ⟨0, Nat.zero_le _, rfl, Below.refl _ _⟩
 case round =>
  obtain ⟨k, hk, rfl, hb⟩ := hrel
  by_cases hkn : k < n
  ·obtain ⟨b, off, rfl, hbb, hc⟩ := ct_at h hkn
   obtain ⟨b', off', rfl, hbb', hc'⟩ := ct_at h' hkn
   have hkn' : (k : Int) < n := by omega
   generalize L.getD k 0 = z at hc hc'
   go_wp2
   have hkd := (Below.refl wr.heap.size wr).drew
   refine PgM.region_out (S := AtW wr.drew) hmx rfl (fun hS => ?_)
   replace hb := hb.trans (hkd.mono hb.size)
   replace hc := (World.cell?_of_block (w := w) (a := ⟨b, off + k, none⟩) (hb.block b hbb)).trans hc
   replace hc' := (World.cell?_of_block (w := w) (a := ⟨b', off' + k, none⟩) (hb.block b' hbb')).trans hc'
   have qz : Hid (¬ ¬ z = z) := fun q => q rfl
   generalize wr.drew = W5 at hS hb hc hc' ⊢
   clear hkd
   refine wpAnyH_sym (by kernel_rfl) (fun _ _ _ _ _ h => h) hS [(0, none), (1, none), (2, some (.pointer (some ⟨b, off + k, none⟩))), (3, some (.int .u64 z)), (4, none), (5, none), (6, some (.pointer (some ⟨b', off' + k, none⟩))), (7, some (.int .u64 z)), (8, some (.bool false))] (l' := #[true, true, true, true, true, true, true, true, true]) (a' := { tmps := #[.slice (some ⟨b, off, none⟩) n cap, .slice (some ⟨b', off', none⟩) n cap', undef, undef, u4, .int .i64 k, .slice (some ⟨b, off, none⟩) n cap, .int .i64 n, .slice (some ⟨b', off', none⟩) n cap', .int .i64 n, .bool false, .int .i64 k, .slice (some ⟨b, off, none⟩) n cap, .int .i64 n, .bool true, u15, u16, .slice (some ⟨b, off, none⟩) n cap, .int .i64 k, .pointer (some ⟨b, off + k, none⟩), .int .u64 z, .slice (some ⟨b', off', none⟩) n cap', .int .i64 k, .pointer (some ⟨b', off' + k, none⟩), .int .u64 z, .bool false], defers := [] }) (obs := [.ia 28 (.slice (some ⟨b, off, none⟩) n cap) (.int .i64 k) (.pointer (some ⟨b, off + k, none⟩)), .load 22 b (off + k) (.int .u64 z), .ia 28 (.slice (some ⟨b', off', none⟩) n cap') (.int .i64 k) (.pointer (some ⟨b', off' + k, none⟩)), .load 22 b' (off' + k) (.int .u64 z), .test .neq 22 (.tmp 20) (.tmp 24) (.int .u64 z) (.int .u64 z) (.bool false)]) (n := 0) (by kernel_rfl) (by kernel_rfl) ⟨iaw_at hkn, ob_word (fun _ e => AtW.cel e hc) Try.isAgg22, iaw_at hkn, ob_word (fun _ e => AtW.cel e hc') Try.isAgg22, ob_no (fun _ => neg_int _ _ _ _ _ _) qz, trivial⟩ ?_
   refine wpAnyH_done (by kernel_rfl) ?_ _
   go_wp2
   go_roundw
   case rel => exact ⟨k + 1, by omega, by go_num, hb⟩
   case measure => simp [intOf]; omega
  ·obtain rfl : k = n := by omega
   go_wp2
   go_ret
   exact ⟨rfl, hb⟩
theorem ct_up {W W' : World} {a : Option Addr} {n cap : Nat} {L : List Int} (h : CtD (LtN W) W a n cap L) (k : Below W.heap.size W W') : CtD (LtN W') W' a n cap L :=
 (h.laterK fun b hb => k.block b hb).wide fun b hb => Nat.lt_of_lt_of_le hb k.size
end Go.Proofs.Ytcmcakandbpjfaa
namespace Go.Proofs.Ytcmcakandbpjfaa
set_option maxRecDepth 100000
set_option maxHeartbeats 8000000

theorem fO_some {X : List Ob} {i : Int} {x : Ob} (h : fnd X i = some x) : fO X i = x := by unfold fO; rw [h]; rfl
theorem ins_mem {L : List Int} {i j : Int} : j ∈ insW L i ↔ j = i ∨ j ∈ L := by
 unfold insW
 rw [List.mem_append, List.mem_cons]
 conv => rhs; rw [← List.take_append_drop (ahW L i) L, List.mem_append]
 constructor
 ·rintro (h | h | h)
  ·exact .inr (.inl h)
  ·exact .inl h
  ·exact .inr (.inr h)
 ·rintro (h | h | h)
  ·exact .inr (.inl h)
  ·exact .inl h
  ·exact .inr (.inr h)
theorem ins_len (L : List Int) (i : Int) : (insW L i).length = L.length + 1 := by
 unfold insW
 rw [List.length_append, List.length_cons]
 conv => rhs; rw [← List.take_append_drop (ahW L i) L, List.length_append]
 omega
theorem hol_uniq {X : List Ob} {i : Int} (h : (holL X i).length ≤ 1) {c d : Ob} (hc : c ∈ X) (hd : d ∈ X) (ic : i ∈ c.links) (jd : i ∈ d.links) : c = d := by
 unfold holL at h
 rw [List.length_map] at h
 have m1 : c ∈ X.filter (fun d => decide (i ∈ d.links)) := List.mem_filter.2 ⟨hc, by simpa using ic⟩
 have m2 : d ∈ X.filter (fun d => decide (i ∈ d.links)) := List.mem_filter.2 ⟨hd, by simpa using jd⟩
 generalize X.filter (fun d => decide (i ∈ d.links)) = l at h m1 m2
 cases l with
 | nil => cases m1
 | cons a r =>
  have hr : r = [] := List.eq_nil_of_length_eq_zero (by rw [List.length_cons] at h; omega)
  subst hr
  rw [List.mem_singleton.1 m1, List.mem_singleton.1 m2]
end Go.Proofs.Ytcmcakandbpjfaa
namespace Go.Proofs.Ytcmcakandbpjfaa
set_option maxRecDepth 100000
set_option maxHeartbeats 8000000

theorem tre_lays {X : List Ob} {ro : Int} (h : Tre X ro) : Lays X := by
 have hc := fun (x : Ob) (hx : x ∈ X) => com_iff.1 (sound_iff.1 (h.snd x hx)).1
 refine ⟨h.srt, fun x hx => sound_small0 (h.snd x hx), ?_, fun x hx => ⟨by have := (hc x hx).2.1; omega, (hc x hx).2.2.1⟩, fun x hx => ?_, fun x hx => ?_⟩
 ·rw [fnd_none]
  intro x hx e
  have h1 := (hc x hx).1
  rw [e] at h1
  exact absurd h1 (by decide)
 ·have := (kept_iff.1 (hc x hx).2.2.2.1).1
  omega
 ·by_cases k2 : x.kind = 2
  ·have ho := (sound_iff.1 (h.snd x hx)).2.1
   unfold ownB at ho
   rw [if_neg (by rw [k2]; decide), if_pos k2] at ho
   simp only [Bool.and_eq_true, decide_eq_true_eq] at ho
   refine ⟨?_, by omega⟩
   have h3 := ho.2.2
   unfold risB at h3
   exact of_decide_eq_true h3
  ·rw [links_nil (h.snd x hx) k2]; exact ⟨List.Pairwise.nil, by decide⟩
end Go.Proofs.Ytcmcakandbpjfaa
namespace Go.Proofs.Ytcmcakandbpjfaa
set_option maxRecDepth 100000
set_option maxHeartbeats 8000000
set_option linter.unusedVariables false

theorem fitD_el {t ro : Int} {key : Nat} {Y : List Ob} (h : fitD t key ro Y = true) : fitW ⟨t, key, ro, Y⟩ = true ∧ (fnd Y ro).isSome = true ∧ (∀ o ∈ Y, lnkB Y o = true) ∧ (∀ o ∈ Y, plaB Y ro o = true) ∧ spaB key Y = true := by
 unfold fitD at h
 simp only [Bool.and_eq_true] at h
 have hh := (all_oat (p := fun o => lnkB Y o && plaB Y ro o)).1 h.2.1
 refine ⟨h.1.1, h.1.2, fun o ho => ?_, fun o ho => ?_, h.2.2⟩
 ·have := hh o ho; rw [Bool.and_eq_true] at this; exact this.1
 ·have := hh o ho; rw [Bool.and_eq_true] at this; exact this.2
structure Kid (x y : Ob) : Prop where
 id : y.id = x.id
 kind : y.kind = x.kind
 label : y.label = x.label
 lo : y.th.lo = x.th.lo
 hi : y.th.hi = x.th.hi
theorem Kid.refl (x : Ob) : Kid x x := ⟨rfl, rfl, rfl, rfl, rfl⟩
end Go.Proofs.Ytcmcakandbpjfaa
namespace Go.Proofs.Ytcmcakandbpjfaa
set_option maxRecDepth 100000
set_option maxHeartbeats 8000000
set_option linter.unusedVariables false

theorem hol_mem {X : List Ob} {i k : Int} : i ∈ holL X k ↔ ∃ d ∈ X, d.id = i ∧ k ∈ d.links := by
 unfold holL
 rw [List.mem_map]
 constructor
 ·rintro ⟨d, hd, e⟩
  obtain ⟨h1, h2⟩ := List.mem_filter.1 hd
  exact ⟨d, h1, e, of_decide_eq_true h2⟩
 ·rintro ⟨d, h1, e, h2⟩
  exact ⟨d, List.mem_filter.2 ⟨h1, decide_eq_true h2⟩, e⟩
theorem hol_sng {t ro : Int} {key : Nat} {X : List Ob} (hf : fitD t key ro X = true) {x : Ob} (hx : x ∈ X) (hs : sngO x = true) : (holL X x.id).length ≤ 1 := by
 have := (fitD_el hf).2.2.2.1 x hx
 unfold plaB at this
 by_cases e : x.id = ro
 ·rw [if_pos e] at this
  simp only [Bool.and_eq_true, decide_eq_true_eq] at this
  omega
 ·rw [if_neg e, hs] at this
  simp only [Bool.and_eq_true, Bool.or_true, Bool.and_true, Bool.not_eq_true', decide_eq_false_iff_not] at this
  omega
end Go.Proofs.Ytcmcakandbpjfaa
namespace Go.Proofs.Ytcmcakandbpjfaa
set_option maxRecDepth 100000
set_option maxHeartbeats 8000000
set_option linter.unusedVariables false

theorem ins_cons {a i : Int} {r : List Int} (h : a < i) : insW (a :: r) i = a :: insW r i := by
 unfold insW ahW
 rw [List.filter_cons_of_pos (by simpa using h)]
 rfl
theorem ins_head {L : List Int} {i : Int} (h : ∀ a ∈ L, i ≤ a) : insW L i = i :: L := by
 have : ahW L i = 0 := by
  unfold ahW
  rw [List.length_eq_zero_iff, List.filter_eq_nil_iff]
  intro a ha
  have := h a ha
  simp
  omega
 unfold insW
 rw [this]
 rfl
theorem ins_rise {i : Int} : ∀ {L : List Int}, L.Pairwise (· < ·) → ¬ i ∈ L → (insW L i).Pairwise (· < ·)
 | [], _, _ => by unfold insW ahW; simp
 | a :: r, h, hn => by
  obtain ⟨h1, h2⟩ := List.pairwise_cons.1 h
  rw [List.mem_cons, not_or] at hn
  by_cases c : a < i
  ·rw [ins_cons c, List.pairwise_cons]
   refine ⟨fun b hb => ?_, ins_rise h2 hn.2⟩
   rcases ins_mem.1 hb with rfl | hb
   ·exact c
   ·exact h1 b hb
  ·have hia : i < a := by omega
   rw [ins_head fun b hb => by
    rcases List.mem_cons.1 hb with rfl | hb
    ·omega
    ·have := h1 b hb; omega]
   exact List.pairwise_cons.2 ⟨fun b hb => by
    rcases List.mem_cons.1 hb with rfl | hb
    ·exact hia
    ·have := h1 b hb; omega, h⟩
end Go.Proofs.Ytcmcakandbpjfaa
namespace Go.Proofs.Ytcmcakandbpjfaa
set_option maxRecDepth 100000
set_option maxHeartbeats 8000000
set_option linter.unusedVariables false

def lnkX (P : Int → Int → Bool) (c : Ob) : Ob := { c with links := c.links.filter fun j => !P c.id j }
def swpX (X : List Ob) (P : Int → Int → Bool) (G : List Int) : List Ob := (X.map (lnkX P)).filter fun x => decide (¬ x.id ∈ G)
def oneP (d i : Int) : Int → Int → Bool := fun c j => decide (c = d) && decide (j = i)
structure Gone (X : List Ob) (ro : Int) (P : Int → Int → Bool) (G : List Int) : Prop where
 rise : G.Pairwise (· < ·)
 mem : ∀ g ∈ G, (fnd X g).isSome = true
 root : ¬ ro ∈ G
 iff : ∀ x ∈ X, x.id ≠ ro → (x.id ∈ G ↔ ∀ c ∈ X, x.id ∈ c.links → P c.id x.id = true ∨ c.id ∈ G)
theorem rise_nil {l : List Int} (h : ∀ x, x ∈ l ↔ False) : l = [] := by
 cases l with
 | nil => rfl
 | cons a r => exact absurd (List.mem_cons_self ..) (fun q => (h a).1 q)
theorem rise_ext : ∀ {l m : List Int}, l.Pairwise (· < ·) → m.Pairwise (· < ·) → (∀ x, x ∈ l ↔ x ∈ m) → l = m
 | [], m, _, _, e => (rise_nil fun x => by rw [← e]; simp).symm
 | a :: l, [], _, _, e => absurd ((e a).1 (List.mem_cons_self ..)) (by simp)
 | a :: l, b :: m, hl, hm, e => by
  obtain ⟨h1, h2⟩ := List.pairwise_cons.1 hl
  obtain ⟨k1, k2⟩ := List.pairwise_cons.1 hm
  have hab : a = b := by
   rcases List.mem_cons.1 ((e a).1 (List.mem_cons_self ..)) with q | q
   ·exact q
   ·rcases List.mem_cons.1 ((e b).2 (List.mem_cons_self ..)) with r | r
    ·exact r.symm
    ·have := h1 b r; have := k1 a q; omega
  subst hab
  congr 1
  refine rise_ext h2 k2 fun x => ⟨fun q => ?_, fun q => ?_⟩
  ·rcases List.mem_cons.1 ((e x).1 (List.mem_cons_of_mem _ q)) with r | r
   ·have := h1 x q; omega
   ·exact r
  ·rcases List.mem_cons.1 ((e x).2 (List.mem_cons_of_mem _ q)) with r | r
   ·have := k1 x q; omega
   ·exact r
section
variable {t ro : Int} {key : Nat} {X : List Ob} {P : Int → Int → Bool} {G H : List Int}
theorem cont_way (hf : fitD t key ro X = true) {x c : Ob} (hx : x ∈ X) (k2 : x.kind = 2) (hc : c ∈ X) (hi : x.id ∈ c.links) : x.id ≠ ro ∧ wayL X x.id = c.id :: wayL X c.id := by
 have hT := tre_of hf
 have hne : x.id ≠ ro := fun e => by
  have : c.id ∈ holL X x.id := hol_mem.2 ⟨c, hc, rfl, hi⟩
  rw [e, hT.hro] at this; cases this
 obtain ⟨d, hd, _, hdi, _, hw⟩ := way_step hT hx hne
 have h1 := hol_sng hf hx (by unfold sngO; rw [k2]; rfl)
 have : c = d := hol_uniq h1 hc hd hi hdi
 rw [this]; exact ⟨hne, hw⟩
theorem gone_c (hf : fitD t key ro X = true) (h : Gone X ro P G) (k : Gone X ro P H) : ∀ (n : Nat) (x : Ob), x ∈ X → x.kind = 2 → (wayL X x.id).length ≤ n → x.id ∈ G → x.id ∈ H
 | n, x, hx, k2, hn, hg => by
  have hne : x.id ≠ ro := fun e => h.root (e ▸ hg)
  refine (k.iff x hx hne).2 fun c hc hi => ?_
  rcases (h.iff x hx hne).1 hg c hc hi with q | q
  ·exact .inl q
  ·have hw := (cont_way hf hx k2 hc hi).2
   rw [hw, List.length_cons] at hn
   cases n with
   | zero => omega
   | succ n => exact .inr (gone_c hf h k n c hc (links_cont (tre_of hf) hc hi) (by omega) q)
theorem gone_sub (hf : fitD t key ro X = true) (h : Gone X ro P G) (k : Gone X ro P H) (g : Int) (hg : g ∈ G) : g ∈ H := by
 obtain ⟨x, hx⟩ := Option.isSome_iff_exists.1 (h.mem g hg)
 obtain ⟨e, hm⟩ := fnd_id hx
 subst e
 have hne : x.id ≠ ro := fun e => h.root (e ▸ hg)
 refine (k.iff x hm hne).2 fun c hc hi => ?_
 rcases (h.iff x hm hne).1 hg c hc hi with q | q
 ·exact .inl q
 ·exact .inr (gone_c hf h k _ c hc (links_cont (tre_of hf) hc hi) (Nat.le_refl _) q)
theorem gone_uniq (hf : fitD t key ro X = true) (h : Gone X ro P G) (k : Gone X ro P H) : G = H := rise_ext h.rise k.rise fun x => ⟨gone_sub hf h k x, gone_sub hf k h x⟩
end
def cntL (X : List Ob) (k : Int) : Nat := (holL X k).length
structure CutI (X : List Ob) (i : Int) (at_ : Nat) (row C : List Int) : Prop where
 nod : C.Nodup
 rowe : row = i :: C.flatMap fun c => (fO X c).links
 le : at_ ≤ row.length
 mem : ∀ k, k ∈ C ↔ 1 ≤ cntL X k ∧ cntL X k ≤ (row.take at_).count k
 way : ∀ k ∈ C, (fO X k).kind = 2 → (wayL X i).length ≤ (wayL X k).length
section
variable {t ro : Int} {key : Nat} {X : List Ob} {i : Int} {row C : List Int} {n : Nat}
theorem cut_zero (X : List Ob) (i : Int) : CutI X i 0 [i] [] := ⟨List.nodup_nil, rfl, Nat.zero_le _, fun k => ⟨fun h => (by cases h), fun h => by simp at h; omega⟩, fun k h => by cases h⟩
theorem count_step (hn : n < row.length) (k : Int) : (row.take (n + 1)).count k = (row.take n).count k + if row.getD n 0 = k then 1 else 0 := by
 rw [List.take_add_one, List.count_append, List.getElem?_eq_getElem hn, List.getD_eq_getElem?_getD, List.getElem?_eq_getElem hn]
 simp only [Option.toList_some, Option.getD_some]
 rw [List.count_singleton]
 by_cases e : row[n] = k <;> simp [e]
theorem cut_no (h : CutI X i n row C) (hn : n < row.length) (hx : cntL X (row.getD n 0) ≠ (row.take n).count (row.getD n 0) + 1) : CutI X i (n + 1) row C := by
 refine ⟨h.nod, h.rowe, hn, fun k => ?_, h.way⟩
 rw [h.mem, count_step hn]
 by_cases e : row.getD n 0 = k
 ·rw [if_pos e]; rw [e] at hx; omega
 ·rw [if_neg e]; omega
theorem fO_links {X : List Ob} {c j : Int} (h : j ∈ (fO X c).links) : ∃ o, fnd X c = some o ∧ fO X c = o ∧ o ∈ X ∧ o.id = c := by
 cases e : fnd X c with
 | none => unfold fO at h; rw [e] at h; simp [zOb] at h
 | some o => exact ⟨o, rfl, fO_some e, (fnd_id e).2, (fnd_id e).1⟩
theorem cut_yes (hf : fitD t key ro X = true) (h : CutI X i n row C) (hn : n < row.length) (hx : cntL X (row.getD n 0) = (row.take n).count (row.getD n 0) + 1) : CutI X i (n + 1) (row ++ (fO X (row.getD n 0)).links) (C ++ [row.getD n 0]) := by
 have hnew : ¬ row.getD n 0 ∈ C := fun q => by have := (h.mem _).1 q; omega
 refine ⟨?_, ?_, by rw [List.length_append]; omega, fun k => ?_, fun k hk k2 => ?_⟩
 ·rw [List.nodup_append]
  exact ⟨h.nod, List.pairwise_singleton _ _, fun a ha b hb e => by rw [List.mem_singleton] at hb; rw [e, hb] at ha; exact hnew ha⟩
 ·have e := h.rowe
  rw [List.flatMap_append, List.flatMap_singleton]
  generalize (fO X (row.getD n 0)).links = L
  rw [e]; rfl
 ·rw [List.mem_append, h.mem, List.mem_singleton, List.take_append_of_le_length (by omega), count_step hn]
  by_cases e : row.getD n 0 = k
  ·rw [if_pos e]; rw [e] at hx; omega
  ·rw [if_neg e]
   constructor
   ·rintro (q | q)
    ·omega
    ·exact absurd q.symm e
   ·intro q; exact .inl (by omega)
 ·rcases List.mem_append.1 hk with q | q
  ·exact h.way k q k2
  ·rw [List.mem_singleton] at q
   have hm : k ∈ row := by
    rw [q, List.getD_eq_getElem?_getD, List.getElem?_eq_getElem hn]; exact List.getElem_mem hn
   rw [h.rowe] at hm
   rcases List.mem_cons.1 hm with r | r
   ·rw [r]; exact Nat.le_refl _
   ·obtain ⟨c, hc, hl⟩ := List.mem_flatMap.1 r
    obtain ⟨o, ho, eo, hox, hid⟩ := fO_links hl
    rw [eo] at hl
    have hT := tre_of hf
    obtain ⟨x, hxe⟩ := Option.isSome_iff_exists.1 (hT.lnk o hox k hl).1
    have hxk : fO X k = x := fO_some hxe
    rw [hxk] at k2
    have hw := (cont_way hf (fnd_id hxe).2 k2 hox (by rw [(fnd_id hxe).1]; exact hl)).2
    rw [(fnd_id hxe).1] at hw
    have h2 := h.way c hc (by rw [eo]; exact links_cont hT hox hl)
    rw [hw, List.length_cons, hid]
    omega
theorem cut_len (hf : fitD t key ro X = true) (h : CutI X i n row C) : row.length ≤ 1 + 64 * X.length := by
 have hT := tre_of hf
 have h1 : C.length ≤ X.length := by
  have := nodup_le C (X.map Ob.id) h.nod fun k hk => by
   have h1 := ((h.mem k).1 hk).1
   unfold cntL at h1
   obtain ⟨c, hc⟩ := List.exists_mem_of_length_pos (by omega : 0 < (holL X k).length)
   obtain ⟨d, hd, _, hi⟩ := holL_mem hc
   obtain ⟨x, hx⟩ := Option.isSome_iff_exists.1 (hT.lnk d hd k hi).1
   exact List.mem_map.2 ⟨x, (fnd_id hx).2, (fnd_id hx).1⟩
  rwa [List.length_map] at this
 have h2 : ∀ L : List Int, (L.flatMap fun c => (fO X c).links).length ≤ 64 * L.length := by
  intro L
  induction L with
  | nil => simp
  | cons a r ih =>
   rw [List.flatMap_cons, List.length_append, List.length_cons]
   have : (fO X a).links.length ≤ 64 := by
    cases hl : (fO X a).links with
    | nil => simp
    | cons b m =>
     obtain ⟨o, _, eo, hox, _⟩ := fO_links (X := X) (c := a) (j := b) (by rw [hl]; exact List.mem_cons_self ..)
     rw [← hl, eo]
     have hb : b ∈ o.links := by rw [← eo, hl]; exact List.mem_cons_self ..
     exact ((own2 (links_cont hT hox hb)).1 (sound_iff.1 (hT.snd o hox)).2.1).1
   omega
 rw [h.rowe, List.length_cons]
 have := h2 C
 omega
theorem count_one {k : Int} : ∀ {l : List Int}, l.Nodup → k ∈ l → l.count k = 1
 | [], _, h => by cases h
 | a :: r, hn, h => by
  obtain ⟨h1, h2⟩ := List.nodup_cons.1 hn
  rw [List.count_cons]
  by_cases e : a = k
  ·subst e
   rw [List.count_eq_zero_of_not_mem h1]; simp
  ·rcases List.mem_cons.1 h with q | q
   ·exact absurd q.symm e
   ·rw [count_one h2 q]; simp [e]
theorem flat_count {X : List Ob} (hn : ∀ o ∈ X, o.links.Nodup) (k : Int) : ∀ C : List Int, (C.flatMap fun c => (fO X c).links).count k = (C.filter fun c => decide (k ∈ (fO X c).links)).length
 | [] => rfl
 | a :: r => by
  rw [List.flatMap_cons, List.count_append, flat_count hn k r, List.filter_cons]
  have : (fO X a).links.Nodup := by
   cases e : fnd X a with
   | none => unfold fO; rw [e]; exact List.nodup_nil
   | some o => rw [fO_some e]; exact hn o (fnd_id e).2
  by_cases q : k ∈ (fO X a).links
  ·rw [if_pos (decide_eq_true q), List.length_cons, count_one this q]; omega
  ·rw [if_neg (by simpa using q), List.count_eq_zero_of_not_mem q]; omega
theorem sub_of_len {L M : List Int} (hM : M.Nodup) (hs : ∀ x ∈ M, x ∈ L) (hl : L.length ≤ M.length) : ∀ x ∈ L, x ∈ M := fun x hx => Classical.byContradiction fun q => by
 have := nodup_le (x :: M) L (List.nodup_cons.2 ⟨q, hM⟩) fun y hy => by
  rcases List.mem_cons.1 hy with r | r
  ·rw [r]; exact hx
  ·exact hs y r
 rw [List.length_cons] at this
 omega
theorem hol_nodup {X : List Ob} (hs : Srt X) (k : Int) : (holL X k).Nodup := by
 unfold holL
 have : ((X.filter fun d => decide (k ∈ d.links)).map Ob.id).Pairwise (· < ·) := List.pairwise_map.2 (List.Pairwise.filter _ hs)
 exact this.imp fun h => by omega
theorem cut_gone (hf : fitD t key ro X = true) {d : Int} (hd : i ∈ (fO X d).links) (h : CutI X i row.length row C) : Gone X ro (oneP d i) ((X.map Ob.id).filter fun k => decide (k ∈ C)) := by
 have hT := tre_of hf
 have hro : ¬ ro ∈ C := fun q => by have := ((h.mem ro).1 q).1; unfold cntL at this; rw [hT.hro] at this; simp at this
 obtain ⟨D, hD, eD, hDX, hDi⟩ := fO_links hd
 rw [eD] at hd
 have hdC : ¬ d ∈ C := fun q => by
  obtain ⟨x, hx⟩ := Option.isSome_iff_exists.1 (hT.lnk D hDX i hd).1
  have h2 : D.kind = 2 := links_cont hT hDX hd
  by_cases k2 : x.kind = 2
  ·have hw := (cont_way hf (fnd_id hx).2 k2 hDX (by rw [(fnd_id hx).1]; exact hd)).2
   have := h.way d q (by rw [eD]; exact h2)
   rw [(fnd_id hx).1] at hw
   rw [hw, List.length_cons, hDi] at this
   omega
  ·have hl : (fO X i).links = [] := by rw [fO_some hx]; exact links_nil (hT.snd x (fnd_id hx).2) k2
   have hC : ∀ k ∈ C, k = i := fun k hk => by
    have h1 := ((h.mem k).1 hk)
    have h3 : 0 < (row.take row.length).count k := by omega
    rw [List.take_length] at h3
    have h4 := List.count_pos_iff.1 h3
    rw [h.rowe] at h4
    rcases List.mem_cons.1 h4 with r | r
    ·exact r
    ·obtain ⟨c, hc, hlc⟩ := List.mem_flatMap.1 r
     obtain ⟨o, _, eo, hox, hid⟩ := fO_links hlc
     rw [eo] at hlc
     -- a first one: c is i, or lies below one; all of C lies below i alone
     exact Classical.byContradiction fun hne => by
      have : ∀ (m : Nat) (c : Int), c ∈ C → (fO X c).kind = 2 → (wayL X c).length ≤ m → False := fun m => by
       induction m with
       | zero =>
        intro c hc k2' hm
        have h1 := ((h.mem c).1 hc)
        have h3 : 0 < (row.take row.length).count c := by omega
        rw [List.take_length] at h3
        have h4 := List.count_pos_iff.1 h3
        rw [h.rowe] at h4
        rcases List.mem_cons.1 h4 with r | r
        ·rw [r, fO_some hx] at k2'; exact k2 k2'
        ·obtain ⟨e, he, hle⟩ := List.mem_flatMap.1 r
         obtain ⟨p, _, ep, hpx, hpid⟩ := fO_links hle
         rw [ep] at hle
         obtain ⟨y, hy⟩ := Option.isSome_iff_exists.1 (hT.lnk p hpx c hle).1
         rw [fO_some hy] at k2'
         have hw := (cont_way hf (fnd_id hy).2 k2' hpx (by rw [(fnd_id hy).1]; exact hle)).2
         rw [(fnd_id hy).1] at hw
         rw [hw] at hm
         simp at hm
       | succ m ih =>
        intro c hc k2' hm
        have h1 := ((h.mem c).1 hc)
        have h3 : 0 < (row.take row.length).count c := by omega
        rw [List.take_length] at h3
        have h4 := List.count_pos_iff.1 h3
        rw [h.rowe] at h4
        rcases List.mem_cons.1 h4 with r | r
        ·rw [r, fO_some hx] at k2'; exact k2 k2'
        ·obtain ⟨e, he, hle⟩ := List.mem_flatMap.1 r
         obtain ⟨p, _, ep, hpx, hpid⟩ := fO_links hle
         rw [ep] at hle
         obtain ⟨y, hy⟩ := Option.isSome_iff_exists.1 (hT.lnk p hpx c hle).1
         rw [fO_some hy] at k2'
         have hw := (cont_way hf (fnd_id hy).2 k2' hpx (by rw [(fnd_id hy).1]; exact hle)).2
         rw [(fnd_id hy).1] at hw
         rw [hw, List.length_cons] at hm
         exact ih e he (by rw [ep]; exact links_cont hT hpx hle) (by rw [← hpid]; omega)
      exact this _ c hc (by rw [eo]; exact links_cont hT hox hlc) (Nat.le_refl _)
   have := hC d q
   rw [this, fO_some hx] at eD
   rw [eD] at k2
   exact k2 h2
 have hmem : ∀ g, g ∈ (X.map Ob.id).filter (fun k => decide (k ∈ C)) ↔ (∃ x ∈ X, x.id = g) ∧ g ∈ C := fun g => by
  rw [List.mem_filter, List.mem_map, decide_eq_true_eq]
 refine ⟨?_, fun g hg => ?_, fun q => hro ((hmem ro).1 q).2, fun x hx hne => ?_⟩
 ·exact List.Pairwise.filter _ (List.pairwise_map.2 hT.srt)
 ·obtain ⟨⟨x, hx, e⟩, _⟩ := (hmem g).1 hg
  rw [← e]; exact fnd_mem hx
 ·have hcnt : (row.take row.length).count x.id = (if i = x.id then 1 else 0) + (C.filter fun c => decide (x.id ∈ (fO X c).links)).length := by
   rw [List.take_length]
   conv => lhs; rw [h.rowe]
   rw [List.count_cons, flat_count (fun o ho => links_nodup (hT.snd o ho))]
   by_cases e : i = x.id <;> simp [e] <;> omega
  have h1 : 1 ≤ cntL X x.id := List.length_pos_iff.2 (hT.hol x hx hne)
  rw [hmem, h.mem, hcnt]
  generalize hM : (C.filter fun c => decide (x.id ∈ (fO X c).links)) = M
  have hMn : M.Nodup := by rw [← hM]; exact List.Pairwise.filter _ h.nod
  have hMm : ∀ c, c ∈ M ↔ c ∈ C ∧ c ∈ holL X x.id := fun c => by
   rw [← hM, List.mem_filter, decide_eq_true_eq, hol_mem]
   constructor
   ·rintro ⟨a, b⟩
    obtain ⟨o, _, eo, hox, hid⟩ := fO_links b
    exact ⟨a, o, hox, hid, by rw [eo] at b; exact b⟩
   ·rintro ⟨a, o, ho, e, hl⟩
    refine ⟨a, ?_⟩
    rw [fO_some ((fnd_some hT.srt).2 ⟨ho, e⟩)]; exact hl
  have hL := hol_nodup hT.srt x.id
  constructor
  ·rintro ⟨_, _, hle⟩ c hc hi
   have hcL : c.id ∈ holL X x.id := hol_mem.2 ⟨c, hc, rfl, hi⟩
   unfold cntL at hle
   by_cases e : i = x.id
   ·rw [if_pos e] at hle
    by_cases ed : c.id = d
    ·exact .inl (by unfold oneP; rw [ed, ← e]; simp)
    ·right
     rw [hmem]
     refine ⟨⟨c, hc, rfl⟩, ?_⟩
     have hdL : d ∈ holL X x.id := hol_mem.2 ⟨D, hDX, hDi, by rw [← e]; exact hd⟩
     have hdM : ¬ d ∈ M := fun q => hdC ((hMm d).1 q).1
     have := sub_of_len (L := holL X x.id) (M := d :: M) (List.nodup_cons.2 ⟨hdM, hMn⟩) (fun y hy => by
      rcases List.mem_cons.1 hy with r | r
      ·rw [r]; exact hdL
      ·exact ((hMm y).1 r).2) (by rw [List.length_cons]; omega) c.id hcL
     rcases List.mem_cons.1 this with r | r
     ·exact absurd r ed
     ·exact ((hMm _).1 r).1
   ·rw [if_neg e] at hle
    right
    rw [hmem]
    refine ⟨⟨c, hc, rfl⟩, ?_⟩
    have := sub_of_len (L := holL X x.id) (M := M) hMn (fun y hy => ((hMm y).1 hy).2) (by omega) c.id hcL
    exact ((hMm _).1 this).1
  ·intro hall
   refine ⟨⟨x, hx, rfl⟩, h1, ?_⟩
   unfold cntL
   have hsub : ∀ c ∈ holL X x.id, (c = d ∧ x.id = i) ∨ c ∈ M := fun c hc => by
    obtain ⟨o, ho, eo, hl⟩ := hol_mem.1 hc
    rcases hall o ho hl with q | q
    ·unfold oneP at q
     simp only [Bool.and_eq_true, decide_eq_true_eq] at q
     exact .inl ⟨eo ▸ q.1, q.2⟩
    ·right
     rw [hmem] at q
     exact (hMm c).2 ⟨eo ▸ q.2, hc⟩
   by_cases e : i = x.id
   ·rw [if_pos e]
    have := nodup_le _ (d :: M) hL fun c hc => by
     rcases hsub c hc with q | q
     ·rw [q.1]; exact List.mem_cons_self ..
     ·exact List.mem_cons_of_mem _ q
    rw [List.length_cons] at this
    omega
   ·rw [if_neg e]
    have := nodup_le _ M hL fun c hc => by
     rcases hsub c hc with q | q
     ·exact absurd q.2.symm e
     ·exact q
    omega
end
end Go.Proofs.Ytcmcakandbpjfaa
namespace Go.Proofs.Ytcmcakandbpjfaa
set_option maxRecDepth 100000
set_option maxHeartbeats 8000000
open Go.RowKit Go.Shelf
set_option linter.unusedVariables false
attribute [local go_sem] Oper.semAt_some

def cntF (X : List Ob) (L : List Int) : Int → Option Int := fun k => if cntL X k + L.count k = 0 then none else some ((cntL X k + L.count k : Nat) : Int)
theorem cntF_word {X : List Ob} {L : List Int} {j : Nat} (hj : j < L.length) : (fun m => if m = L.getD j 0 then some ((cntF X (L.take j) (L.getD j 0)).getD 0 + 1) else cntF X (L.take j) m) = cntF X (L.take (j + 1)) := by
 funext m
 have hs := count_step hj m
 by_cases e : m = L.getD j 0
 ·rw [if_pos e]
  rw [if_pos e.symm] at hs
  subst e
  unfold cntF
  rw [hs]
  generalize cntL X (L.getD j 0) = a
  generalize (L.take j).count (L.getD j 0) = c
  by_cases z : a + c = 0
  ·have h1 : a = 0 := by omega
   have h2 : c = 0 := by omega
   subst h1; subst h2; rfl
  ·rw [if_neg z, if_neg (by omega)]
   show some (((a + c : Nat) : Int) + 1) = _
   congr 1
 ·rw [if_neg e]
  rw [if_neg (fun q => e q.symm)] at hs
  have hs' := hs.trans (Nat.add_zero _)
  unfold cntF
  rw [hs']
theorem cntF_ob {X : List Ob} {k : Nat} (hk : k < X.length) (hn : (oat X k).links.Nodup) : cntF (X.take k) (oat X k).links = cntF (X.take (k + 1)) [] := by
 funext m
 have h1 : cntL (X.take (k + 1)) m = cntL (X.take k) m + (oat X k).links.count m := by
  unfold cntL
  rw [holL_succ hk, List.length_append]
  by_cases q : m ∈ (oat X k).links
  ·rw [if_pos q, count_one hn q]; rfl
  ·rw [if_neg q, List.count_eq_zero_of_not_mem q]; rfl
 unfold cntF
 rw [h1]
 simp
theorem cntF_le {X : List Ob} {L : List Int} (m : Int) : 0 ≤ (cntF X L m).getD 0 ∧ (cntF X L m).getD 0 ≤ ((X.length + L.length : Nat) : Int) := by
 have h1 : cntL X m ≤ X.length := by unfold cntL holL; rw [List.length_map]; exact List.length_filter_le ..
 have h2 : L.count m ≤ L.length := List.count_le_length
 unfold cntF
 split
 ·exact ⟨Int.le_refl _, by show (0 : Int) ≤ _; omega⟩
 ·show 0 ≤ ((cntL X m + L.count m : Nat) : Int) ∧ ((cntL X m + L.count m : Nat) : Int) ≤ _
  omega
theorem tied_v {w : World} {t ke ro : Int} {ao : Option Addr} {n cap : Nat} {X : List Ob} (h : Obs w ao n cap X) (hn16 : n ≤ 4096) (hsm : Smalls X) (hnd : ∀ x ∈ X, x.links.Nodup) : Calls Try.prog 32 #[.agg #[.int .i64 t, .int .u64 ke, .int .u64 ro, .slice ao n cap]] w fun e w' => ∃ M, e = .returned (.map (some M)) ∧ w.heap.size ≤ M ∧ MapT w' M (cntF X []) ∧ Below w.heap.size w w' := by
 have hn : Hid (X.length = n) := h.1
 have hnc := h.2.1
 have hcm := h.2.2.1.1
 have ga1 := Try.isAgg22
 have ga3 := Try.isAgg23
 have ga4 := Try.isAgg28
 have c3 : (#[.int .i64 t, .int .u64 ke, .int .u64 ro, .slice ao n cap] : Array Value)[3]? = some (.slice ao n cap) := rfl
 have hsmH : Hid (Smalls X) := hsm
 have hndH : Hid (∀ x ∈ X, x.links.Nodup) := hnd
 obtain ⟨G, hG⟩ : ∃ G : Array Value, G = #[.int .i64 t, .int .u64 ke, .int .u64 ro, .slice ao n cap] := ⟨_, rfl⟩
 rw [← hG] at c3
 rw [← hG]
 clear hG hsm hnd
 go_enter Try.func32, Try.ntmps32
 go_wp2_with (first
  | (with_reducible refine wpList_box rfl 25 _ rfl G rfl ?_; intro B W2 hN2 hB hk)
  | ((with_reducible refine wpList_makeT rfl rfl ?_); intro M W3 hN3 hM hk3; replace hB := hB.next hk3; replace hk := hk.trans (hk3.mono hk.size); have hBM : Hid (B < M ∧ w.heap.size ≤ M) := ⟨by have := hN2.out; have := hN3.out; omega, by have := hN2.out; have := hN3.out; omega⟩)
  | (with_reducible refine wpList_load1 (by kernel_rfl) _ _ rfl B _ rfl _ _ hB _ c3 ga3 ?_))
 have hM0 : MapT W3 M (cntF (X.take 0) []) := hM
 clear hN2 hN3 hM
 go_loopw [12] (fun j wr => ∃ k : Nat, k ≤ n ∧ j = .int .i64 k ∧ MapT wr M (cntF (X.take k) []) ∧ Below w.heap.size w wr) (fun j _ => n - (intOf j).toNat)
 case atStart => exact ⟨0, Nat.zero_le _, rfl, hM0, hk⟩
 case round =>
  clear hB hk hM0 hk3
  obtain ⟨k, hkn1, rfl, hM, hk⟩ := hrel
  by_cases hkn : k < n
  ·obtain ⟨b, off, C, rfl, hbb, hC, hr⟩ := obs_at (obs_next h hk) hkn
   have hkn' : (k : Int) < n := by omega
   have hz := hC.size
   have h1c := hC.one
   obtain ⟨al, nl, cl, c5, hL⟩ := hC.links
   have hln : Hid ((oat X k).links.length = nl) := hL.1
   have hlc := hL.2.1
   have hlm := hL.2.2.1.1
   have hkX : k < X.length := by rw [hn.out]; exact hkn
   have hl32 : nl < 4294967296 := by rw [← hln.out]; exact (hsmH.out _ (oat_mem hkX)).c5
   have hnx := cntF_ob hkX (hndH.out _ (oat_mem hkX))
   obtain ⟨L, hLe⟩ : ∃ L, Hid ((oat X k).links = L) := ⟨_, rfl⟩
   rw [hLe.out] at hln hL hnx
   have hXk : Hid ((X.take k).length = k) := by show (X.take k).length = k; rw [List.length_take]; omega
   obtain ⟨Y, hY⟩ : ∃ Y, Hid (X.take k = Y) := ⟨_, rfl⟩
   rw [hY.out] at hnx hM hXk
   have hnxH : Hid (cntF Y L = cntF (X.take (k + 1)) []) := hnx
   clear hnx hLe hkX
   have hMr := hM
   go_wp2_with (first
    | (with_reducible refine wpList_loadm (by kernel_rfl) 54 _ rfl b _ rfl C hr _ Try.underlying54 (by kernel_rfl) (size40C hz) ?_)
    | ((with_reducible refine wpList_alloc rfl _ rfl zC zero40 ?_); intro R W4 hB4 hR4 hk4)
    | ((with_reducible refine wpList_store_blk rfl _ _ _ rfl R rfl C rfl zC hR4 (size40C hz) (zC_size.trans hz.symm) h1c ?_); intro W5 hR5 o5; have k5 := o5.below wr.heap.size wr (by have := hB4.out.1; omega) hk4; have hL5 := (hL.laterK fun b hb => k5.block b hb).wide (fun b (hb : b < wr.heap.size) => Nat.lt_of_lt_of_le hb k5.size); replace hM := hM.next k5; replace hk := hk.trans (k5.mono hk.size))
    | (with_reducible refine wpList_load1 (by kernel_rfl) _ _ rfl R _ rfl _ _ hR5 _ c5 ga4 ?_))
   have hM1 : MapT W5 M (cntF Y (L.take 0)) := hM
   have hcs : ∀ j, j < nl → ∃ b2 off2, al = some ⟨b2, off2, none⟩ ∧ b2 ≠ M ∧ W5.cell? ⟨b2, off2 + j, none⟩ = some (.int .u64 (L.getD j 0)) := fun j hj => by
    obtain ⟨b2, off2, e, hbb2, hc2⟩ := ct_at hL hj
    exact ⟨b2, off2, e, hMr.off hc2, (World.cell?_of_block (w := wr) (a := ⟨b2, off2 + j, none⟩) (k5.block b2 hbb2)).trans hc2⟩
   go_loopw [19] (fun i wr2 => ∃ j : Nat, j ≤ nl ∧ i = .int .i64 j ∧ MapT wr2 M (cntF Y (L.take j)) ∧ Oth M W5 wr2) (fun i _ => nl - (intOf i).toNat)
   case atStart => exact ⟨0, Nat.zero_le _, rfl, hM1, Oth.refl _ _⟩
   case round =>
    clear hM hM1
    obtain ⟨j, hjn1, rfl, hM, oM⟩ := hrel
    by_cases hjn : j < nl
    ·obtain ⟨b2, off2, rfl, hbM, hc2⟩ := hcs j hjn
     have hjn' : (j : Int) < nl := by omega
     have hcj := (World.cell?_of_block (w := W5) (a := ⟨b2, off2 + j, none⟩) (oM.block b2 hbM)).trans hc2
     obtain ⟨y, hy⟩ : ∃ y, Hid (L.getD j 0 = y) := ⟨_, rfl⟩
     rw [hy.out] at hcj
     have hst := cntF_word (X := Y) (L := L) (j := j) (by rw [hln.out]; exact hjn)
     have hle := cntF_le (X := Y) (L := L.take j) y
     rw [hy.out] at hst
     obtain ⟨v, hv⟩ : ∃ v, Hid ((cntF Y (L.take j) y).getD 0 = v) := ⟨_, rfl⟩
     rw [hv.out] at hst hle
     have hlo := hle.1
     have hhi : v ≤ 4294971392 := by have := hle.2; rw [hXk.out, List.length_take] at this; omega
     have hw : IntKind.i64.wrap (v + 1) = v + 1 := by rw [IntKind.wrap_i64]; omega
     have hstH : Hid ((fun m => if m = y then some (v + 1) else cntF Y (L.take j) m) = cntF Y (L.take (j + 1))) := hst
     clear hst hle
     go_wp2_with (first
      | (with_reducible refine wpList_loadc (by kernel_rfl) _ _ rfl b2 _ rfl _ hcj ga1 ?_)
      | (((with_reducible refine wpList_getT (by kernel_rfl) _ _ rfl M rfl y rfl _ hM ?_); rw [hv.out]); skip)
      | ((with_reducible refine wpList_putT rfl _ _ _ rfl M rfl y rfl (v + 1) ?hval _ hM ?_); (case hval => simp [Act.eval]); rw [hstH.out]; intro W6 hM6 o6))
     go_roundw
     case rel => exact ⟨j + 1, by omega, by go_num, hM6, oM.trans o6⟩
     case measure => simp [intOf]; omega
    ·obtain rfl : j = nl := by omega
     have hfull : L.take j = L := by rw [← hln.out]; exact List.take_length
     rw [hfull, hnxH.out] at hM
     go_wp2
     go_roundw
     case rel => exact ⟨k + 1, by omega, by go_num, hM, oM.below _ _ hBM.out.2 hk⟩
     case measure => simp [intOf]; omega
  ·obtain rfl : k = n := by omega
   have ht : X.take k = X := by rw [← hn.out]; exact List.take_length
   rw [ht] at hM
   go_wp2
   go_ret
   exact ⟨M, rfl, hBM.out.2, hM, hk⟩
end Go.Proofs.Ytcmcakandbpjfaa
namespace Go.Proofs.Ytcmcakandbpjfaa
set_option maxRecDepth 100000
set_option maxHeartbeats 8000000
open Go.RowKit Go.Shelf
set_option linter.unusedVariables false
attribute [local go_sem] Oper.semAt_some

section
variable {N : Nat} {w W W1 W2 : World} {B : Nat} {C : Array Value} {x : Ob} {Dn : Nat → Prop}
def Al (N : Nat) (W : World) (B M : Nat) (C : Array Value) (x : Ob) : Prop :=
 LbV (fun b => (N ≤ b ∧ b < M) ∧ b ≠ B) W C[2]? x.label ∧ (∃ ao n cap, C[5]? = some (.slice ao n cap) ∧ W.ownsRow M 22 1 (.slice ao n cap) n (wordsC x.links)) ∧ N ≤ M ∧ M ≤ W.heap.size ∧ B < M
theorem Al.of (h : Cp N w W B C x Dn) (hd : Dn 2) (k : Below W.heap.size W W1) {a : Option Addr} {n c : Nat} (l : W1.ownsRow W.heap.size 22 1 (.slice a n c) n (wordsC x.links)) (o : Oth B W1 W2) : Al N W2 B W.heap.size (C.setIfInBounds 5 (.slice a n c)) x := by
 have hz := h.bx.ob.size
 have hB : B < W.heap.size := h.bx.blk.lt
 refine ⟨?_, ⟨a, n, c, by rw [set_at (by omega), if_pos rfl], owns_later l fun b hb _ => o.block b (by omega)⟩, h.nl, by rw [o.size]; exact k.size, hB⟩
 have h2 : LbV (fun b => (N ≤ b ∧ b < W.heap.size) ∧ b ≠ B) W C[2]? x.label := h.dn 2 hd
 rw [set_at (by omega), if_neg (by omega)]
 exact LbV.laterK h2 fun b hb => (o.block b hb.2).trans (k.block b hb.1.2)
theorem Al.st {M : Nat} (h : Al N W B M C x) (k : Below W.heap.size W W1) (o : Oth B W1 W2) (hz : C.size = 51) {j : Nat} {v : Value} (hj : j < 51 ∧ j ≠ 2 ∧ j ≠ 5) : Al N W2 B M (C.setIfInBounds j v) x := by
 obtain ⟨h1, ⟨a, n, c, h2, h6⟩, h3, h4, h5⟩ := h
 refine ⟨?_, ⟨a, n, c, ?_, ?_⟩, h3, Nat.le_trans h4 (by rw [o.size]; exact k.size), h5⟩
 ·rw [set_at (by omega), if_neg (by omega)]
  exact LbV.laterK h1 fun b hb => (o.block b hb.2).trans (k.block b (Nat.lt_of_lt_of_le hb.1.2 h4))
 ·rw [set_at (by omega), if_neg (by omega)]
  exact h2
 ·exact owns_later h6 fun b hb hl => (o.block b (by omega)).trans (k.block b hl)
end
theorem copiedOne_lk {w : World} {C : Array Value} {x : Ob} (h : ObD (LtN w) w C x) (hs : Small x) :
  Calls Try.prog 62 #[.agg C] w fun e w' => ∃ C', e = .returned (.agg C') ∧ ObD (New w w') w' C' x ∧ Below w.heap.size w w' ∧ ∃ M, LbV (fun b => New w w' b ∧ b < M) w' C'[2]? x.label ∧ (∃ ao n cap, C'[5]? = some (.slice ao n cap) ∧ w'.ownsRow M 22 1 (.slice ao n cap) n (wordsC x.links)) ∧ w.heap.size ≤ M := by
 have ga0 := Try.isAgg39
 have ga1 := Try.isAgg22
 have ga2 := Try.isAgg3
 have ga3 := Try.isAgg4
 have ga4 := Try.isAgg28
 have ga5 := Try.isAgg40
 go_enter Try.func62, Try.ntmps62
 go_wp2_with (first
  | go_skip
  | (with_reducible refine wpList_box rfl _ _ rfl C rfl ?_; intro B W hB hb hk)
  | ((with_reducible refine wpList_alloc rfl _ rfl zC zero40 ?_); intro R W' hB' hR0 hk'; have hne : B ≠ R := (by have := hB'.out.1; have := hb.lt; omega); have hC0 : Cp W'.heap.size w W' B C x (fun _ => False) := ⟨(Bx.of h hB hb hk).next hk', fun j hj => False.elim hj, hk.trans (hk'.mono hk.size), (by have := hB.out.1; omega), Nat.le_refl _, (hk.trans (hk'.mono hk.size)).size⟩; obtain ⟨a2, n2, k2, c2, l2⟩ := hC0.bx.ob.label; (have e2 : n2 < 8796093022208 := (by have := hs.c2; have := l2.1; omega)))
  | (with_reducible refine wpList_load1 (by kernel_rfl) _ _ rfl B 2 rfl _ _ hC0.bx.blk _ c2 ga0 ?_)
  | (go_at_call 79; (with_reducible refine (copyLw (LabD.wide l2 fun _ hb => hb.1) (Below.refl _ _) e2).mono ?_); rintro e w2 ⟨b2, m2, rfl, z2, kb2⟩; have bl2 := hC0.bx.blk.next kb2)
  | ((with_reducible refine wpList_store_cell rfl _ _ _ rfl B 2 rfl (.slice b2 n2 m2) rfl rfl _ _ bl2 size24 (by rw [hC0.bx.ob.size]; omega) rfl ?_); intro W2' bb2 oo2; have hC1 := hC0.st2 kb2 z2 oo2 bb2; have hR1 := (hR0.next kb2).other oo2 hne.symm; obtain ⟨a5, n5, k5, c5, l5⟩ := hC1.bx.ob.links; (have e5 : n5 < 4294967296 := (by have := hs.c5; have := l5.1; omega)))
  | (with_reducible refine wpList_load1 (by kernel_rfl) _ _ rfl B 5 rfl _ _ hC1.bx.blk _ c5 ga4 ?_)
  | (go_at_call 80; (with_reducible refine (copyU_own (CtD.wide l5 fun _ hb => hb.1) (Below.refl _ _) e5).mono ?_); rintro e w5 ⟨b5, m5, rfl, z5, kb5⟩; have bl5 := hC1.bx.blk.next kb5)
  | ((with_reducible refine wpList_store_cell rfl _ _ _ rfl B 5 rfl (.slice b5 n5 m5) rfl rfl _ _ bl5 size25 (by rw [hC1.bx.ob.size]; omega) rfl ?_); intro W5' bb5 oo5; have hC2 := hC1.st5 kb5 (ct_owns z5) oo5 bb5; have hA2 := Al.of hC1 (by simp) kb5 z5 oo5; have hR2 := (hR1.next kb5).other oo5 hne.symm; obtain ⟨a6, n6, k6, c6, l6⟩ := hC2.bx.ob.data; (have e6 : n6 < 4294967296 := (by have := hs.c6; have := l6.1; omega)))
  | (with_reducible refine wpList_load1 (by kernel_rfl) _ _ rfl B 6 rfl _ _ hC2.bx.blk _ c6 ga4 ?_)
  | (go_at_call 80; (with_reducible refine (copyU (CtD.wide l6 fun _ hb => hb.1) (Below.refl _ _) e6).mono ?_); rintro e w6 ⟨b6, m6, rfl, z6, kb6⟩; have bl6 := hC2.bx.blk.next kb6)
  | ((with_reducible refine wpList_store_cell rfl _ _ _ rfl B 6 rfl (.slice b6 n6 m6) rfl rfl _ _ bl6 size25 (by rw [hC2.bx.ob.size]; omega) rfl ?_); intro W6' bb6 oo6; have hC3 := hC2.st6 kb6 z6 oo6 bb6; have hA3 := hA2.st kb6 oo6 hC2.bx.ob.size (j := 6) (v := .slice b6 n6 m6) (by omega); have hR3 := (hR2.next kb6).other oo6 hne.symm; obtain ⟨a7, n7, k7, c7, l7⟩ := hC3.bx.ob.maps; (have e7 : n7 < 4294967296 := (by have := hs.c7; have := l7.1; omega)))
  | (with_reducible refine wpList_load1 (by kernel_rfl) _ _ rfl B 7 rfl _ _ hC3.bx.blk _ c7 ga5 ?_)
  | (go_at_call 81; (with_reducible refine (copyM (PgM.MpsD.wide l7 fun _ hb => hb.1) (Below.refl _ _) e7).mono ?_); rintro e w7 ⟨b7, m7, rfl, z7, kb7⟩; have bl7 := hC3.bx.blk.next kb7)
  | ((with_reducible refine wpList_store_cell rfl _ _ _ rfl B 7 rfl (.slice b7 n7 m7) rfl rfl _ _ bl7 size26 (by rw [hC3.bx.ob.size]; omega) rfl ?_); intro W7' bb7 oo7; have hC4 := hC3.st7 kb7 z7 oo7 bb7; have hA4 := hA3.st kb7 oo7 hC3.bx.ob.size (j := 7) (v := .slice b7 n7 m7) (by omega); have hR4 := (hR3.next kb7).other oo7 hne.symm; obtain ⟨a25, n25, k25, c25, l25⟩ := hC4.bx.ob.th.clear; (have e25 : n25 < 8796093022208 := (by have := hs.c25; have := l25.1; omega)))
  | (with_reducible refine wpList_load1 (by kernel_rfl) _ _ rfl B 25 rfl _ _ hC4.bx.blk _ c25 ga0 ?_)
  | (go_at_call 79; (with_reducible refine (copyLw (LabD.wide l25 fun _ hb => hb.1) (Below.refl _ _) e25).mono ?_); rintro e w25 ⟨b25, m25, rfl, z25, kb25⟩; have bl25 := hC4.bx.blk.next kb25)
  | ((with_reducible refine wpList_store_cell rfl _ _ _ rfl B 25 rfl (.slice b25 n25 m25) rfl rfl _ _ bl25 size24 (by rw [hC4.bx.ob.size]; omega) rfl ?_); intro W25' bb25 oo25; have hC5 := hC4.st25 kb25 z25 oo25 bb25; have hA5 := hA4.st kb25 oo25 hC4.bx.ob.size (j := 25) (v := .slice b25 n25 m25) (by omega); have hR5 := (hR4.next kb25).other oo25 hne.symm; obtain ⟨a36, n36, k36, c36, l36⟩ := hC5.bx.ob.th.alerts; (have e36 : n36 < 4294967296 := (by have := hs.c36; have := l36.1; omega)))
  | (with_reducible refine wpList_load1 (by kernel_rfl) _ _ rfl B 36 rfl _ _ hC5.bx.blk _ c36 ga4 ?_)
  | (go_at_call 80; (with_reducible refine (copyU (CtD.wide l36 fun _ hb => hb.1) (Below.refl _ _) e36).mono ?_); rintro e w36 ⟨b36, m36, rfl, z36, kb36⟩; have bl36 := hC5.bx.blk.next kb36)
  | ((with_reducible refine wpList_store_cell rfl _ _ _ rfl B 36 rfl (.slice b36 n36 m36) rfl rfl _ _ bl36 size25 (by rw [hC5.bx.ob.size]; omega) rfl ?_); intro W36' bb36 oo36; have hC6 := hC5.st36 kb36 z36 oo36 bb36; have hA6 := hA5.st kb36 oo36 hC5.bx.ob.size (j := 36) (v := .slice b36 n36 m36) (by omega); have hR6 := (hR5.next kb36).other oo36 hne.symm; obtain ⟨a39, n39, k39, c39, l39⟩ := hC6.bx.ob.th.l0; (have e39 : n39 < 8796093022208 := (by have := hs.c39; have := l39.1; omega)); obtain ⟨a40, n40, k40, c40, l40⟩ := hC6.bx.ob.th.l1; (have e40 : n40 < 8796093022208 := (by have := hs.c40; have := l40.1; omega)); obtain ⟨a41, n41, k41, c41, l41⟩ := hC6.bx.ob.th.l2; (have e41 : n41 < 8796093022208 := (by have := hs.c41; have := l41.1; omega)); obtain ⟨a42, n42, k42, c42, l42⟩ := hC6.bx.ob.th.l3; (have e42 : n42 < 8796093022208 := (by have := hs.c42; have := l42.1; omega)))
  | (with_reducible refine wpList_loadp (by kernel_rfl) 48 _ rfl B 39 rfl 4 _ _ hC6.bx.blk _ (ext4 c39 c40 c41 c42) (by rw [hC6.bx.ob.size]; omega) _ Try.underlying48 (by kernel_rfl) size34 ?_))
 have kb0 : W36'.heap.size ≤ W36'.heap.size ∧ ∀ b, Ex B W36' b → W36'.heap[b]? = W36'.heap[b]? := ⟨Nat.le_refl _, fun _ _ => rfl⟩
 go_loopw [36] (fun i wr => ∃ (k : Nat) (C' : Array Value), k ≤ 4 ∧ i = .int .i64 k ∧ Hid (Cp W'.heap.size w wr B C' x (fun j => j ∈ [2, 5, 6, 7, 25, 36] ∨ (39 ≤ j ∧ j < 39 + k))) ∧ Hid (∃ M, Al W'.heap.size wr B M C' x) ∧ Blk wr R zC 54 ∧ (W36'.heap.size ≤ wr.heap.size ∧ ∀ b, Ex B W36' b → wr.heap[b]? = W36'.heap[b]?)) (fun i _ => 4 - (intOf i).toNat)
 case atStart =>
  refine ⟨0, _, Nat.zero_le _, rfl, (⟨hC6.bx, fun j hj => ?_, hC6.be, hC6.le, hC6.nl, hC6.nw⟩ : Cp W'.heap.size w W36' B _ x _), ⟨_, hA6⟩, hR6, kb0⟩
  rcases hj with hj | hj
  ·exact hC6.dn j (by simp at hj; rcases hj with rfl | rfl | rfl | rfl | rfl | rfl <;> simp)
  ·omega
 case round =>
  obtain ⟨k, C', hk4, rfl, hCk, hAk, hRk, hkb⟩ := hrel
  obtain ⟨M, hA0⟩ := hAk.out
  have hC0 := hCk.out
  by_cases hkn : k < 4
  ·obtain hcs | hcs | hcs | hcs : k = 0 ∨ k = 1 ∨ k = 2 ∨ k = 3 := by omega
   ·subst hcs
    have ixk := ix_0 (.slice a39 n39 k39) (.slice a40 n40 k40) (.slice a41 n41 k41) (.slice a42 n42 k42)
    have lk : LabD (LtN wr) wr a39 n39 k39 x.th.l0 := (l39.laterK fun b hb => hkb.2 b hb).wide fun b hb => Nat.lt_of_lt_of_le hb.1 hkb.1
    simp only [show (((0 : Nat) : Int)) = 0 from rfl]
    go_wp2_with (first
     | (go_at_call 79; (with_reducible refine (copyLw lk (Below.refl _ _) e39).mono ?_); rintro e w39 ⟨b39, m39, rfl, z39, kb39⟩; have bl39 := hC0.bx.blk.next kb39)
     | ((with_reducible refine wpList_store_cell rfl _ _ _ rfl B 39 rfl (.slice b39 n39 m39) rfl rfl _ _ bl39 size24 (by rw [hC0.bx.ob.size]; omega) rfl ?_); intro W39' bb39 oo39; have hC1 := hC0.st39 kb39 z39 oo39 bb39; have hA1 := hA0.st kb39 oo39 hC0.bx.ob.size (j := 39) (v := .slice b39 n39 m39) (by omega); have hR1 := (hRk.next kb39).other oo39 hne.symm))
    go_roundw
    case rel =>
     refine ⟨1, _, by omega, by go_num, (⟨hC1.bx, fun j hj => hC1.dn j ?_, hC1.be, hC1.le, hC1.nl, hC1.nw⟩ : Cp W'.heap.size w W39' B _ x _), ⟨_, hA1⟩, hR1, Nat.le_trans hkb.1 (by rw [oo39.size]; exact kb39.size), fun b hb => ((oo39.block b hb.2).trans (kb39.block b (Nat.lt_of_lt_of_le hb.1 hkb.1))).trans (hkb.2 b hb)⟩
     rcases hj with hj | hj
     ·exact .inl (.inl hj)
     ·rcases Nat.lt_or_ge j 39 with h' | h'
      ·exact .inl (.inr (by omega))
      ·exact .inr (by omega)
    case measure => simp [intOf]
   ·subst hcs
    have ixk := ix_1 (.slice a39 n39 k39) (.slice a40 n40 k40) (.slice a41 n41 k41) (.slice a42 n42 k42)
    have lk : LabD (LtN wr) wr a40 n40 k40 x.th.l1 := (l40.laterK fun b hb => hkb.2 b hb).wide fun b hb => Nat.lt_of_lt_of_le hb.1 hkb.1
    simp only [show (((1 : Nat) : Int)) = 1 from rfl]
    go_wp2_with (first
     | (go_at_call 79; (with_reducible refine (copyLw lk (Below.refl _ _) e40).mono ?_); rintro e w40 ⟨b40, m40, rfl, z40, kb40⟩; have bl40 := hC0.bx.blk.next kb40)
     | ((with_reducible refine wpList_store_cell rfl _ _ _ rfl B 40 rfl (.slice b40 n40 m40) rfl rfl _ _ bl40 size24 (by rw [hC0.bx.ob.size]; omega) rfl ?_); intro W40' bb40 oo40; have hC1 := hC0.st40 kb40 z40 oo40 bb40; have hA1 := hA0.st kb40 oo40 hC0.bx.ob.size (j := 40) (v := .slice b40 n40 m40) (by omega); have hR1 := (hRk.next kb40).other oo40 hne.symm))
    go_roundw
    case rel =>
     refine ⟨2, _, by omega, by go_num, (⟨hC1.bx, fun j hj => hC1.dn j ?_, hC1.be, hC1.le, hC1.nl, hC1.nw⟩ : Cp W'.heap.size w W40' B _ x _), ⟨_, hA1⟩, hR1, Nat.le_trans hkb.1 (by rw [oo40.size]; exact kb40.size), fun b hb => ((oo40.block b hb.2).trans (kb40.block b (Nat.lt_of_lt_of_le hb.1 hkb.1))).trans (hkb.2 b hb)⟩
     rcases hj with hj | hj
     ·exact .inl (.inl hj)
     ·rcases Nat.lt_or_ge j 40 with h' | h'
      ·exact .inl (.inr (by omega))
      ·exact .inr (by omega)
    case measure => simp [intOf]
   ·subst hcs
    have ixk := ix_2 (.slice a39 n39 k39) (.slice a40 n40 k40) (.slice a41 n41 k41) (.slice a42 n42 k42)
    have lk : LabD (LtN wr) wr a41 n41 k41 x.th.l2 := (l41.laterK fun b hb => hkb.2 b hb).wide fun b hb => Nat.lt_of_lt_of_le hb.1 hkb.1
    simp only [show (((2 : Nat) : Int)) = 2 from rfl]
    go_wp2_with (first
     | (go_at_call 79; (with_reducible refine (copyLw lk (Below.refl _ _) e41).mono ?_); rintro e w41 ⟨b41, m41, rfl, z41, kb41⟩; have bl41 := hC0.bx.blk.next kb41)
     | ((with_reducible refine wpList_store_cell rfl _ _ _ rfl B 41 rfl (.slice b41 n41 m41) rfl rfl _ _ bl41 size24 (by rw [hC0.bx.ob.size]; omega) rfl ?_); intro W41' bb41 oo41; have hC1 := hC0.st41 kb41 z41 oo41 bb41; have hA1 := hA0.st kb41 oo41 hC0.bx.ob.size (j := 41) (v := .slice b41 n41 m41) (by omega); have hR1 := (hRk.next kb41).other oo41 hne.symm))
    go_roundw
    case rel =>
     refine ⟨3, _, by omega, by go_num, (⟨hC1.bx, fun j hj => hC1.dn j ?_, hC1.be, hC1.le, hC1.nl, hC1.nw⟩ : Cp W'.heap.size w W41' B _ x _), ⟨_, hA1⟩, hR1, Nat.le_trans hkb.1 (by rw [oo41.size]; exact kb41.size), fun b hb => ((oo41.block b hb.2).trans (kb41.block b (Nat.lt_of_lt_of_le hb.1 hkb.1))).trans (hkb.2 b hb)⟩
     rcases hj with hj | hj
     ·exact .inl (.inl hj)
     ·rcases Nat.lt_or_ge j 41 with h' | h'
      ·exact .inl (.inr (by omega))
      ·exact .inr (by omega)
    case measure => simp [intOf]
   ·subst hcs
    have ixk := ix_3 (.slice a39 n39 k39) (.slice a40 n40 k40) (.slice a41 n41 k41) (.slice a42 n42 k42)
    have lk : LabD (LtN wr) wr a42 n42 k42 x.th.l3 := (l42.laterK fun b hb => hkb.2 b hb).wide fun b hb => Nat.lt_of_lt_of_le hb.1 hkb.1
    simp only [show (((3 : Nat) : Int)) = 3 from rfl]
    go_wp2_with (first
     | (go_at_call 79; (with_reducible refine (copyLw lk (Below.refl _ _) e42).mono ?_); rintro e w42 ⟨b42, m42, rfl, z42, kb42⟩; have bl42 := hC0.bx.blk.next kb42)
     | ((with_reducible refine wpList_store_cell rfl _ _ _ rfl B 42 rfl (.slice b42 n42 m42) rfl rfl _ _ bl42 size24 (by rw [hC0.bx.ob.size]; omega) rfl ?_); intro W42' bb42 oo42; have hC1 := hC0.st42 kb42 z42 oo42 bb42; have hA1 := hA0.st kb42 oo42 hC0.bx.ob.size (j := 42) (v := .slice b42 n42 m42) (by omega); have hR1 := (hRk.next kb42).other oo42 hne.symm))
    go_roundw
    case rel =>
     refine ⟨4, _, by omega, by go_num, (⟨hC1.bx, fun j hj => hC1.dn j ?_, hC1.be, hC1.le, hC1.nl, hC1.nw⟩ : Cp W'.heap.size w W42' B _ x _), ⟨_, hA1⟩, hR1, Nat.le_trans hkb.1 (by rw [oo42.size]; exact kb42.size), fun b hb => ((oo42.block b hb.2).trans (kb42.block b (Nat.lt_of_lt_of_le hb.1 hkb.1))).trans (hkb.2 b hb)⟩
     rcases hj with hj | hj
     ·exact .inl (.inl hj)
     ·rcases Nat.lt_or_ge j 42 with h' | h'
      ·exact .inl (.inr (by omega))
      ·exact .inr (by omega)
    case measure => simp [intOf]
  ·obtain rfl : k = 4 := by omega
   simp only [show (((4 : Nat) : Int)) = 4 from rfl]
   have hR0 := hRk
   clear c39 l39 e39 c40 l40 e40 c41 l41 e41 c42 l42 e42
   obtain ⟨a43, n43, k43, c43, l43⟩ := hC0.bx.ob.gt.grant; (have e43 : n43 < 8796093022208 := (by have := hs.c43; have := l43.1; omega))
   go_wp2_with (first
    | go_skip
    | (with_reducible refine wpList_load1 (by kernel_rfl) _ _ rfl B 43 rfl _ _ hC0.bx.blk _ c43 ga0 ?_)
    | (go_at_call 79; (with_reducible refine (copyLw (LabD.wide l43 fun _ hb => hb.1) (Below.refl _ _) e43).mono ?_); rintro e w43 ⟨b43, m43, rfl, z43, kb43⟩; have bl43 := hC0.bx.blk.next kb43)
    | ((with_reducible refine wpList_store_cell rfl _ _ _ rfl B 43 rfl (.slice b43 n43 m43) rfl rfl _ _ bl43 size24 (by rw [hC0.bx.ob.size]; omega) rfl ?_); intro W43' bb43 oo43; have hC1 := hC0.st43 kb43 z43 oo43 bb43; have hA1 := hA0.st kb43 oo43 hC0.bx.ob.size (j := 43) (v := .slice b43 n43 m43) (by omega); have hR1 := (hR0.next kb43).other oo43 hne.symm; obtain ⟨a44, n44, k44, c44, l44⟩ := hC1.bx.ob.gt.clear; (have e44 : n44 < 8796093022208 := (by have := hs.c44; have := l44.1; omega)))
    | (with_reducible refine wpList_load1 (by kernel_rfl) _ _ rfl B 44 rfl _ _ hC1.bx.blk _ c44 ga0 ?_)
    | (go_at_call 79; (with_reducible refine (copyLw (LabD.wide l44 fun _ hb => hb.1) (Below.refl _ _) e44).mono ?_); rintro e w44 ⟨b44, m44, rfl, z44, kb44⟩; have bl44 := hC1.bx.blk.next kb44)
    | ((with_reducible refine wpList_store_cell rfl _ _ _ rfl B 44 rfl (.slice b44 n44 m44) rfl rfl _ _ bl44 size24 (by rw [hC1.bx.ob.size]; omega) rfl ?_); intro W44' bb44 oo44; have hC2 := hC1.st44 kb44 z44 oo44 bb44; have hA2 := hA1.st kb44 oo44 hC1.bx.ob.size (j := 44) (v := .slice b44 n44 m44) (by omega); have hR2 := (hR1.next kb44).other oo44 hne.symm; obtain ⟨a49, n49, k49, c49, l49⟩ := hC2.bx.ob.inn; (have e49 : n49 < 4294967296 := (by have := hs.c49; have := l49.1; omega)))
    | (with_reducible refine wpList_load1 (by kernel_rfl) _ _ rfl B 49 rfl _ _ hC2.bx.blk _ c49 ga4 ?_)
    | (go_at_call 80; (with_reducible refine (copyU (CtD.wide l49 fun _ hb => hb.1) (Below.refl _ _) e49).mono ?_); rintro e w49 ⟨b49, m49, rfl, z49, kb49⟩; have bl49 := hC2.bx.blk.next kb49)
    | ((with_reducible refine wpList_store_cell rfl _ _ _ rfl B 49 rfl (.slice b49 n49 m49) rfl rfl _ _ bl49 size25 (by rw [hC2.bx.ob.size]; omega) rfl ?_); intro W49' bb49 oo49; have hC3 := hC2.st49 kb49 z49 oo49 bb49; have hA3 := hA2.st kb49 oo49 hC2.bx.ob.size (j := 49) (v := .slice b49 n49 m49) (by omega); have hR3 := (hR2.next kb49).other oo49 hne.symm; obtain ⟨a50, n50, k50, c50, l50⟩ := hC3.bx.ob.out; (have e50 : n50 < 4294967296 := (by have := hs.c50; have := l50.1; omega)))
    | (with_reducible refine wpList_load1 (by kernel_rfl) _ _ rfl B 50 rfl _ _ hC3.bx.blk _ c50 ga4 ?_)
    | (go_at_call 80; (with_reducible refine (copyU (CtD.wide l50 fun _ hb => hb.1) (Below.refl _ _) e50).mono ?_); rintro e w50 ⟨b50, m50, rfl, z50, kb50⟩; have bl50 := hC3.bx.blk.next kb50)
    | ((with_reducible refine wpList_store_cell rfl _ _ _ rfl B 50 rfl (.slice b50 n50 m50) rfl rfl _ _ bl50 size25 (by rw [hC3.bx.ob.size]; omega) rfl ?_); intro W50' bb50 oo50; have hC4 := hC3.st50 kb50 z50 oo50 bb50; have hA4 := hA3.st kb50 oo50 hC3.bx.ob.size (j := 50) (v := .slice b50 n50 m50) (by omega); have hR4 := (hR3.next kb50).other oo50 hne.symm; skip)
    | ((with_reducible refine wpList_load_blk rfl _ _ rfl B rfl _ hC4.bx.blk _ Try.underlying54 rfl (size40C hC4.bx.ob.size) ?_))
    | ((with_reducible refine wpList_store_blk rfl _ _ _ rfl R rfl _ rfl zC hR4 (size40C hC4.bx.ob.size) (zC_size.trans hC4.bx.ob.size.symm) hC4.bx.ob.one ?_); intro W9 b9 o9))
   have hob := hC4.all (fun j hj => by
    simp at hj
    rcases hj with rfl | rfl | rfl | rfl | rfl | rfl | rfl | rfl | rfl | rfl | rfl | rfl | rfl | rfl <;> simp)
   have hlR : w.heap.size ≤ R := by have := hB'.out.1; have := hk.size; omega
   have bz := o9.below w.heap.size w hlR hC4.be
   refine bodyPost_ret (v := .agg _) (res40 Try.results62 rfl b9 hob.size) rfl ?_
   refine ⟨_, rfl, ?_, bz, M, ?_, ?_⟩
   rotate_left
   ·exact (LbV.laterK hA4.1 fun b hb => o9.block b (by have := hB'.out; have := hb.1; omega)).wide fun b hb => ⟨⟨Nat.le_trans hC4.nw hb.1.1, by rw [o9.size]; exact Nat.lt_of_lt_of_le hb.1.2 hA4.2.2.2.1⟩, hb.1.2⟩
   ·obtain ⟨a, n, c, e1, e2⟩ := hA4.2.1
    exact ⟨⟨a, n, c, e1, owns_later e2 fun b hb _ => o9.block b (by have := hB'.out; have := hA4.2.2.1; omega)⟩, Nat.le_trans hC4.nw hA4.2.2.1⟩
   exact (hob.laterK fun b hb => o9.block b (by have := hB'.out; have := hb.1; omega)).wide fun b hb => ⟨Nat.le_trans hC4.nw hb.1, by rw [o9.size]; exact hb.2⟩
theorem find_l {w : World} {t ke ro : Int} {ao : Option Addr} {n cap : Nat} {X : List Ob} {i : Int} (h : Obs w ao n cap X) (hs : Srt X) (hn16 : n ≤ 4096) (hsm : Smalls X) : Calls Try.prog 46 #[.agg #[.int .i64 t, .int .u64 ke, .int .u64 ro, .slice ao n cap], .int .u64 i] w fun e w' => ∃ C', e = .returned (.tuple #[.agg C', .bool (fnd X i).isSome]) ∧ ObD (New w w') w' C' ((fnd X i).getD zOb) ∧ Below w.heap.size w w' ∧ ∃ M, LbV (fun b => New w w' b ∧ b < M) w' C'[2]? ((fnd X i).getD zOb).label ∧ (∃ ao n cap, C'[5]? = some (.slice ao n cap) ∧ w'.ownsRow M 22 1 (.slice ao n cap) n (wordsC ((fnd X i).getD zOb).links)) ∧ w.heap.size ≤ M := by
 have hn : Hid (X.length = n) := h.1
 have hsH : Hid (Srt X) := hs
 have hsmH : Hid (Smalls X) := hsm
 have hle : ahd X i ≤ n := by rw [← hn.out]; exact ahd_le X i
 have ga3 := Try.isAgg23
 have hwh := fun (W : World) (hk : Below w.heap.size w W) => whereO_any (i := i) (obs_next h hk) hs hn16
 have c3 : (#[.int .i64 t, .int .u64 ke, .int .u64 ro, .slice ao n cap] : Array Value)[3]? = some (.slice ao n cap) := rfl
 have hzG : (Try.prog.info? 25).map (·.size) = some (#[.int .i64 t, .int .u64 ke, .int .u64 ro, .slice ao n cap] : Array Value).size := by kernel_rfl
 obtain ⟨G, hG⟩ : ∃ G : Array Value, G = #[.int .i64 t, .int .u64 ke, .int .u64 ro, .slice ao n cap] := ⟨_, rfl⟩
 rw [← hG] at c3 hzG
 rw [← hG]
 clear hG
 obtain ⟨k, hke⟩ : ∃ k, Hid (ahd X i = k) := ⟨_, rfl⟩
 obtain ⟨f, hfe⟩ : ∃ f, Hid (fin X i = f) := ⟨_, rfl⟩
 rw [hke.out, hfe.out] at hwh
 rw [hke.out] at hle
 clear hs hsm
 by_cases hf : (fnd X i).isSome = true
 obtain ⟨x, hx⟩ := Option.isSome_iff_exists.1 hf
 have hq : ahd X i < X.length ∧ (oat X (ahd X i)).id = i := Classical.byContradiction fun q => by rw [fnd_not hsH.out q] at hx; cases hx
 have hxx : x = oat X k := by rw [fnd_at hsH.out hq.1 hq.2] at hx; rw [← hke.out]; injection hx with e; exact e.symm
 have hkn : k < n := by have := hq.1; rw [hke.out, hn.out] at this; exact this
 have hfk : Hid (f = k + 1) := by have := hfe.out; unfold fin at this; rw [if_pos hf, hke.out] at this; exact this.symm
 have hfi : ((k : Int) == (f : Int)) = false := by have := hfk.out; rw [beq_eq_false_iff_ne]; omega
 have hxs : Small (oat X k) := hsmH.out _ (oat_mem (by rw [hn.out]; exact hkn))
 rw [hx]
 simp only [Option.isSome_some, Option.getD_some]
 rw [hxx]
 clear hx hxx hq hf
 rotate_left
 have hx : fnd X i = none := by cases hq : fnd X i with | none => rfl | some x => rw [hq] at hf; exact absurd rfl hf
 have hfk : Hid (f = k) := by have := hfe.out; unfold fin at this; rw [if_neg hf, hke.out] at this; exact this.symm
 obtain rfl : f = k := hfk.out
 rw [hx]
 simp only [Option.isSome_none, Option.getD_none]
 clear hx hf
 rotate_left
 all_goals go_enter Try.func46, Try.ntmps46
 all_goals go_wp2_with (first
  | go_skip
  | (with_reducible refine wpList_box rfl _ _ rfl G rfl ?_; intro B W hB hb hk)
  | ((with_reducible refine wpList_alloc rfl _ rfl zC zero40 ?_); intro R W1 hB1 hR hk1; replace hb := hb.next hk1; replace hk := hk.trans (hk1.mono hk.size))
  | (with_reducible refine wpList_load_blk rfl _ _ rfl B rfl _ hb _ Try.underlying25 rfl hzG ?_)
  | (go_at_call 48; (with_reducible refine (objectsG_any c3).mono ?_); rintro e w1 ⟨rfl, hb1⟩; replace hb := hb.next hb1; replace hR := hR.next hb1; replace hk := hk.trans (hb1.mono hk.size))
  | (go_at_call 49; (with_reducible refine (hwh _ hk).mono ?_); rintro e w2 ⟨rfl, hb2⟩; replace hb := hb.next hb2; replace hR := hR.next hb2; replace hk := hk.trans (hb2.mono hk.size); obtain ⟨b, off, C, rfl, hbb, hC, hr⟩ := obs_at (obs_next h hk) hkn; have hkn' : (k : Int) < n := (by omega); have hz := hC.size)
  | (go_at_call 49; (with_reducible refine (hwh _ hk).mono ?_); rintro e w2 ⟨rfl, hb2⟩; replace hb := hb.next hb2; replace hR := hR.next hb2; replace hk := hk.trans (hb2.mono hk.size))
  | ((with_reducible refine wpList_build rfl _ [] rfl zC ?hf ?_); (case hf => exact built_z))
  | ((with_reducible refine wpList_store_blk rfl _ _ _ rfl R rfl zC rfl zC hR (size40C zC_size) rfl (zC_d (fun _ => True) w).one ?_); intro W4 hR4 o4)
  | (with_reducible refine wpList_load1 (by kernel_rfl) _ _ rfl B _ rfl _ _ hb _ (by assumption) (by assumption) ?_)
  | (with_reducible refine wpList_loadm (by kernel_rfl) 54 _ rfl b _ rfl C hr _ Try.underlying54 (by kernel_rfl) (size40C hz) ?_)
  | (go_at_call 62; (with_reducible refine (copiedOne_lk hC hxs).mono ?_); rintro e w3 ⟨C', rfl, hC', hb3, M, hM2, ⟨am, nm, cm, e6, hM6⟩, hMw⟩; replace hR := hR.next hb3; replace hk := hk.trans (hb3.mono hk.size))
  | ((with_reducible refine wpList_store_blk rfl _ _ _ rfl R rfl C' rfl zC hR (size40C hC'.size) (zC_size.trans hC'.size.symm) hC'.one ?_); intro W4 hR4 o4))
 ·have hRl : w.heap.size ≤ R ∧ R < w2.heap.size := by have := hB.out; have := hB1.out; have := hb1.size; have := hb2.size; omega
  refine bodyPost_ret (v := .tuple #[.agg C', .bool true]) (res40b Try.results46 rfl rfl hR4 hC'.size) rfl ?_
  have hnw : w.heap.size ≤ w2.heap.size := by omega
  have hnn : ∀ b, New w2 w3 b → New w W4 b := fun b hb => ⟨Nat.le_trans hnw hb.1, by rw [o4.size]; exact hb.2⟩
  exact ⟨C', rfl, (hC'.laterK fun b hb => o4.block b (by have := hb.1; omega)).wide hnn, o4.below _ _ hRl.1 hk, M, (LbV.laterK hM2 fun b hb => o4.block b (by have := hb.1.1; omega)).wide fun b hb => ⟨hnn b hb.1, hb.2⟩, ⟨am, nm, cm, e6, owns_later hM6 fun b hb _ => o4.block b (by omega)⟩, Nat.le_trans hnw hMw⟩
 ·have hRl : w.heap.size ≤ R := by have := hB.out; have := hB1.out; omega
  refine bodyPost_ret (v := .tuple #[.agg zC, .bool false]) (res40b Try.results46 rfl rfl hR4 zC_size) rfl ?_
  exact ⟨zC, rfl, zC_d _ _, o4.below _ _ hRl hk, w.heap.size, LbV.zero _ _, ⟨none, 0, 0, rfl, World.ownsRow_nil _ _ _ _⟩, Nat.le_refl _⟩
end Go.Proofs.Ytcmcakandbpjfaa
namespace Go.Proofs.Ytcmcakandbpjfaa
set_option maxRecDepth 100000
set_option maxHeartbeats 8000000
open Go.RowKit Go.Shelf
set_option linter.unusedVariables false
attribute [local go_sem] Oper.semAt_some

theorem MapT.grown {W W1 : World} {M base k n : Nat} {e : TypeId} {v : Value} {xs : List Value} {f : Int → Option Int} (h : MapT W M f) (ho : W.ownsRow base e k v n xs) (hg : W.grownBy W1 v.ownBlock) : MapT W1 M f := by
 refine h.block (hg.block M h.lt fun q => ?_)
 rcases ho.2 with ⟨rfl, _⟩ | ⟨g, c, cur, rfl, _, h1, _⟩
 ·cases q
 ·obtain ⟨es, cl, l, h2, _⟩ := h
  have : M = g := by
   have q' : some M = some g := q
   injection q'
  subst this
  rw [h1] at h2
  cases h2
theorem own_word {W : World} {B : Nat} {v : Int} {base : Nat} (h : Blk W B #[.int .u64 v] 22) (hb : base ≤ B) : W.ownsRow base 22 1 (.slice (some ⟨B, 0, none⟩) 1 1) 1 [.int .u64 v] :=
 ⟨rfl, .inr ⟨B, 1, _, rfl, hb, h, Nat.le_refl _, by unfold maxLen; omega, rfl, rfl⟩⟩
theorem own_b {b off n c j : Nat} (q : (Value.slice (some ⟨b, off, none⟩) n c).ownBlock = some j) : b = j := by injection q
def cutF (X : List Ob) (r : List Int) : Int → Option Int := fun k => if cntL X k = 0 ∧ r.count k = 0 then none else some ((cntL X k : Int) - (r.count k : Int))
theorem cutF_zero (X : List Ob) : cntF X [] = cutF X [] := by
 funext k
 unfold cntF cutF
 by_cases z : cntL X k = 0 <;> simp [z]
theorem cutF_get (X : List Ob) (r : List Int) (k : Int) : (cutF X r k).getD 0 = (cntL X k : Int) - (r.count k : Int) := by
 unfold cutF
 split
 ·rename_i h; rw [h.1, h.2]; rfl
 ·rfl
theorem cutF_less {X : List Ob} {r : List Int} {n : Nat} (hn : n < r.length) : lessT (r.getD n 0) (cutF X (r.take n)) = cutF X (r.take (n + 1)) := by
 funext k
 unfold lessT
 rw [cutF_get]
 have hs := count_step hn k
 by_cases e : k = r.getD n 0
 ·rw [if_pos e]
  rw [if_pos e.symm] at hs
  subst e
  unfold cutF
  rw [hs, if_neg (by omega)]
  congr 1
  omega
 ·rw [if_neg e]
  rw [if_neg (fun q => e q.symm)] at hs
  have hs' := hs.trans (Nat.add_zero _)
  unfold cutF
  rw [hs']
theorem cutF_end {X : List Ob} {r : List Int} (k : Int) (h1 : 1 ≤ cntL X k) : ((cutF X r k).isSome = true ∧ (cutF X r k).getD 0 ≤ 0) ↔ 1 ≤ cntL X k ∧ cntL X k ≤ r.count k := by
 rw [cutF_get]
 unfold cutF
 rw [if_neg (by omega)]
 simp only [Option.isSome_some, true_and]
 omega
theorem findW_any {w : World} {t ke ro : Int} {ao : Option Addr} {n cap : Nat} {X : List Ob} {i : Int} (h : Obs w ao n cap X) (hs : Srt X) (hn16 : n ≤ 4096) (hsm : Smalls X) : Calls Try.prog 46 #[.agg #[.int .i64 t, .int .u64 ke, .int .u64 ro, .slice ao n cap], .int .u64 i] w fun e w' => ∃ C', e = .returned (.tuple #[.agg C', .bool (fnd X i).isSome]) ∧ ObD (New w w') w' C' (fO X i) ∧ Below w.heap.size w w' :=
 (find_n h hs hn16 hsm).mono fun _ _ ⟨C', e, ho, hk, _⟩ => ⟨C', e, ho, hk⟩
theorem cut_v {w0 w : World} {t ro : Int} {key M : Nat} {ao : Option Addr} {n cap : Nat} {X : List Ob} {i : Int} (h : Obs w0 ao n cap X) (hk0 : Below w0.heap.size w0 w) (hM0 : w0.heap.size ≤ M) (hn16 : n ≤ 4096) (hsm : Smalls X) (hf : fitD t key ro X = true) (hM : MapT w M (cntF X [])) : Calls Try.prog 33 #[.map (some M), .agg #[.int .i64 t, .int .u64 (key : Int), .int .u64 ro, .slice ao n cap], .int .u64 i] w fun e w' => ∃ row C, e = .returned (.tuple #[]) ∧ Hid (CutI X i row.length row C) ∧ MapT w' M (cutF X row) ∧ Below M w w' := by
 have hmx : Try.prog.follows .mixedOrders = true := by kernel_rfl
 have hn : Hid (X.length = n) := h.1
 have hnc := h.2.1
 have hcm := h.2.2.1.1
 have hs : Srt X := (tre_of hf).srt
 have hwm : w.heap.size ≤ w.heap.size := Nat.le_refl _
 have hMl := hM.lt
 have hfd := fun {W : World} {i : Int} (hk : Below w0.heap.size w0 W) => findW_any (t := t) (ke := (key : Int)) (ro := ro) (i := i) (obs_next h hk) hs hn16 hsm
 have hfH : Hid (fitD t key ro X = true) := hf
 have ga1 := Try.isAgg22
 have ga4 := Try.isAgg28
 have hzw : (Try.prog.info? 25).map (·.size) = some (#[.int .i64 t, .int .u64 (key : Int), .int .u64 ro, .slice ao n cap] : Array Value).size := by kernel_rfl
 have hcw : (#[.int .i64 t, .int .u64 (key : Int), .int .u64 ro, .slice ao n cap] : Array Value) = #[.int .i64 t, .int .u64 (key : Int), .int .u64 ro, .slice ao n cap] := rfl
 obtain ⟨G, hG⟩ : ∃ G : Array Value, G = #[.int .i64 t, .int .u64 (key : Int), .int .u64 ro, .slice ao n cap] := ⟨_, rfl⟩
 rw [← hG] at hzw hfd
 rw [← hG]
 clear hG hcw hf hsm hs
 rw [cutF_zero] at hM
 go_enter Try.func33, Try.ntmps33
 go_wp2_with (first
  | (with_reducible refine wpList_box rfl 25 _ rfl G rfl ?_; intro B W2 hN2 hB hk2; replace hM := hM.next hk2))
 go_step3
 go_wp2_with (first
  | ((with_reducible refine wpList_bsw rfl _ rfl i rfl ?_); intro Bq W3 hNq hBq hk3; replace hM := hM.next hk3; replace hB := hB.next hk3; have hBs : Hid (w.heap.size = B ∧ B < Bq ∧ Bq < W3.heap.size) := ⟨hN2.out.1, by have := hN2.out; have := hNq.out; omega, hBq.lt⟩; have hown := own_word hBq (Nat.le_refl Bq); have hk23 := hk2.trans (hk3.mono hk2.size)))
 go_step3
 go_wp2
 have hM1 : MapT W3 M (cutF X ((i :: ([] : List Int)).take 0)) := hM
 clear hM hk2 hk3 hN2 hNq hBq
 go_loopw [6, 7] (fun v j wr => ∃ (k : Nat) (row C : List Int) (ar : Option Addr) (cr : Nat), v = .slice ar row.length cr ∧ j = .int .i64 k ∧ Hid (CutI X i k row C) ∧ wr.ownsRow Bq 22 1 (.slice ar row.length cr) row.length (wordsC row) ∧ MapT wr M (cutF X (row.take k)) ∧ Blk wr B G 25 ∧ Below M w wr) (fun _ j _ => 1 + 64 * n - (intOf j).toNat)
 case atStart => exact ⟨0, [i], [], _, _, rfl, rfl, cut_zero X i, hown, hM1, hB, hk23.mono (Nat.le_of_lt hMl)⟩
 case round =>
  clear hM1 hB hown hk23
  obtain ⟨k, row, C, ar, cr, rfl, rfl, hC, hown, hM, hB, hkM⟩ := hrel
  have hlen := cut_len hfH.out hC.out
  rw [hn.out] at hlen
  have hle := hC.out.le
  have hct := ct_owns hown
  have hrc := hct.2.1
  have hrm := hct.2.2.1.1
  by_cases hkn : k < row.length
  ·obtain ⟨b, off, rfl, hbb, hc⟩ := ct_at hct hkn
   have hke : ((k : Int) == (row.length : Int)) = false := by rw [beq_eq_false_iff_ne]; omega
   have hkn' : (k : Int) < row.length := by omega
   have hbM := hM.off hc
   have hls := cutF_less (X := X) hkn
   have hge := cutF_get X (row.take k) (row.getD k 0)
   have hcl : Hid (0 ≤ cntL X (row.getD k 0) ∧ cntL X (row.getD k 0) ≤ n) := ⟨Nat.zero_le _, by unfold cntL holL; rw [List.length_map, ← hn.out]; exact List.length_filter_le ..⟩
   have hco : Hid ((row.take k).count (row.getD k 0) ≤ k) := Nat.le_trans List.count_le_length (by rw [List.length_take]; omega)
   have hno := fun q => cut_no hC.out hkn q
   have hye := fun q => cut_yes hfH.out hC.out hkn q
   have hyl := fun q => cut_len hfH.out (hye q)
   obtain ⟨x, hx⟩ : ∃ x, Hid (row.getD k 0 = x) := ⟨_, rfl⟩
   rw [hx.out] at hc hls hge hcl hco hno hye hyl
   have hlo := fun (W : World) (f : Int → Option Int) (q : MapT W M f) (e : f = cutF X (row.take k)) => loses_v (k := x) q (by rw [e]; show _ ∧ _; rw [hge]; have := hcl.out; have := hco.out; omega)
   have hdec : decide ((cutF X (row.take k) x).getD 0 = 1) = decide (cntL X x = (row.take k).count x + 1) := by
    rw [hge, Bool.eq_iff_iff, decide_eq_true_iff, decide_eq_true_iff]; omega
   rw [hn.out] at hyl
   clear hge hcl hco
   by_cases hq : cntL X x = (row.take k).count x + 1
   ·rw [decide_eq_true hq] at hdec
    have hdH : Hid (decide ((cutF X (row.take k) x).getD 0 = 1) = true) := hdec
    have hyL := hyl hq
    rw [List.length_append] at hyL
    have hyC : Hid (CutI X i (k + 1) (row ++ (fO X x).links) (C ++ [x])) := hye hq
    have hlsH : Hid (lessT x (cutF X (row.take k)) = cutF X ((row ++ (fO X x).links).take (k + 1))) := by
     show lessT x (cutF X (row.take k)) = _
     rw [hls, List.take_append_of_le_length (by omega)]
    clear hno hye hyl hdec hq hls
    obtain ⟨rl, hrl⟩ : ∃ rl, Hid (row.length = rl) := ⟨_, rfl⟩
    clear hct
    rw [hrl.out] at hlen hle hrc hown hkn hke hkn' hyL ⊢
    go_wp2_with (first
     | (with_reducible refine wpList_loadc (by kernel_rfl) _ _ rfl b _ rfl _ hc ga1 ?_)
     | (go_at_call 54; (with_reducible refine (hlo _ _ hM rfl).mono ?_); rintro e w5 ⟨rfl, hM5, o5⟩; rw [hdH.out]; rw [hlsH.out] at hM5))
    have hB5 := hB.other o5 (by have := hBs.out; omega)
    have hk5M : Below M w w5 := o5.below _ _ (Nat.le_refl _) hkM
    have hk5 := hk0.trans (hk5M.mono hM0)
    have hown5 := owns_later hown fun b hb _ => o5.block b (by have := hBs.out; omega)
    have hc5 := (World.cell?_of_block (w := wr) (a := ⟨b, off + k, none⟩) (o5.block b hbM)).trans hc
    have hbb5 : b < w5.heap.size := by have := hbb.2; rw [o5.size]; exact this
    clear hB hM hown hc o5 hkM
    have hdr := (Below.refl w5.heap.size w5).drew
    refine PgM.region_out (S := fun W => Below w5.drew.heap.size w5.drew W) hmx (Below.refl _ _) (fun hS => ?_)
    generalize w5.drew = v6 at *
    refine wpAnyH_sym (by kernel_rfl) (fun _ _ _ _ _ h => h) hS [(0, some (.agg G)), (1, none), (2, none), (3, some (.pointer (some ⟨b, off + k, none⟩))), (4, some (.int .u64 x))] (l' := #[true, true, true, true, true, false, false, false, false, false, false, false]) (a' := { tmps := #[.map (some M), .agg G, .int .u64 i, undef, .pointer (some ⟨B, 0, none⟩), undef, .slice (some ⟨b, off, none⟩) rl cr, .int .i64 k, u8, u9, .int .u64 i, .slice (some ⟨Bq, 0, none⟩) 1 1, u12, u13, .bool false, .int .i64 k, .slice (some ⟨b, off, none⟩) rl cr, .int .i64 rl, .bool false, .bool true, .map (some M), .slice (some ⟨b, off, none⟩) rl cr, .int .i64 k, .pointer (some ⟨b, off + k, none⟩), .int .u64 x, .bool true, u26, .agg G, .slice (some ⟨b, off, none⟩) rl cr, .int .i64 k, .pointer (some ⟨b, off + k, none⟩), .int .u64 x, u32, u33, u34, u35, u36, u37, u38], defers := [] }) (obs := [.load 25 B 0 (.agg G), .ia 28 (.slice (some ⟨b, off, none⟩) rl cr) (.int .i64 k) (.pointer (some ⟨b, off + k, none⟩)), .load 22 b (off + k) (.int .u64 x)]) (n := 7) (by kernel_rfl) (by kernel_rfl) ⟨ob_loadb (fun _ h => hB5.next (hdr.trans (h.mono hdr.size))) Try.underlying25 (by kernel_rfl) hzw, iaw_at (by omega), ob_word (fun W h => (World.cell?_of_block (w := w5) (a := ⟨b, off + k, none⟩) ((hdr.trans (h.mono hdr.size)).block b hbb5)).trans hc5) Try.isAgg22, trivial⟩ ?_
    refine share 2 #[true, true, true, true, true, true, true, true, true, true, false, false] (fun A W => ∃ (P6 : Nat) (C6 : Array Value), A = { tmps := #[.map (some M), .agg G, .int .u64 i, undef, .pointer (some ⟨B, 0, none⟩), undef, .slice (some ⟨b, off, none⟩) rl cr, .int .i64 k, .pointer (some ⟨P6, 0, none⟩), u9, .int .u64 i, .slice (some ⟨Bq, 0, none⟩) 1 1, u12, u13, .bool false, .int .i64 k, .slice (some ⟨b, off, none⟩) rl cr, .int .i64 rl, .bool false, .bool true, .map (some M), .slice (some ⟨b, off, none⟩) rl cr, .int .i64 k, .pointer (some ⟨b, off + k, none⟩), .int .u64 x, .bool true, .tuple #[.agg C6, .bool (fnd X x).isSome], .agg G, .slice (some ⟨b, off, none⟩) rl cr, .int .i64 k, .pointer (some ⟨b, off + k, none⟩), .int .u64 x, .tuple #[.agg C6, .bool (fnd X x).isSome], .agg C6, .bool (fnd X x).isSome, u35, u36, u37, u38], defers := [] } ∧ (Below v6.heap.size v6 W) ∧ Blk W P6 zC 54 ∧ v6.heap.size ≤ P6 ∧ ObD (Ex P6 W) W C6 (fO X x)) ?_ (fun rest => ?_)
    ·rintro A W ⟨P6, C6, rfl, hS1, hP0, hgP, o6⟩
     obtain ⟨W6, hr6, hP6, q6⟩ := run_store_blk hP0 (size40C o6.size) (zC_size.trans o6.size.symm) o6.one
     refine wpAnyH_single (i := 10) (n := 1) rfl (by kernel_rfl) ?_
     refine wpOp_storeL (ty := 54) (B := P6) (off := 0) (v := .agg C6) (d := none) (by kernel_rfl) hr6 ?_
     have hS6 : Below v6.heap.size v6 W6 := q6.below _ _ hgP hS1
     have o6 := (o6.laterK fun b hb => q6.block b hb.2).wide (D' := Ex P6 W6) fun b hb => ⟨by rw [q6.size]; exact hb.1, hb.2⟩
     refine ⟨hS6, ?_⟩
     refine wpAnyH_sym (by kernel_rfl) (fun _ _ _ _ _ h => h) hS6 [(11, none)] (l' := #[true, true, true, true, true, true, true, true, true, true, true, true]) (a' := { tmps := #[.map (some M), .agg G, .int .u64 i, undef, .pointer (some ⟨B, 0, none⟩), undef, .slice (some ⟨b, off, none⟩) rl cr, .int .i64 k, .pointer (some ⟨P6, 0, none⟩), .bool (fnd X x).isSome, .int .u64 i, .slice (some ⟨Bq, 0, none⟩) 1 1, u12, u13, .bool false, .int .i64 k, .slice (some ⟨b, off, none⟩) rl cr, .int .i64 rl, .bool false, .bool true, .map (some M), .slice (some ⟨b, off, none⟩) rl cr, .int .i64 k, .pointer (some ⟨b, off + k, none⟩), .int .u64 x, .bool true, .tuple #[.agg C6, .bool (fnd X x).isSome], .agg G, .slice (some ⟨b, off, none⟩) rl cr, .int .i64 k, .pointer (some ⟨b, off + k, none⟩), .int .u64 x, .tuple #[.agg C6, .bool (fnd X x).isSome], .agg C6, .bool (fnd X x).isSome, u35, u36, u37, u38], defers := [] }) (obs := []) (n := 0) (by kernel_rfl) (by kernel_rfl) trivial ?_
     refine wpAnyH_done (by kernel_rfl) ?_ _
     clear hS hS1 hP0 hr6 q6
     have k56 := hdr.trans (hS6.mono hdr.size)
     have hB6 := hB5.next k56
     have hM6 := hM5.next k56
     have hown6 := own_next hown5 k56
     have hk6M := hk5M.trans (k56.mono (by have := hM5.lt; omega))
     obtain ⟨al, nl, cl, c5, hL⟩ := o6.links
     have hln : Hid ((fO X x).links.length = nl) := hL.1
     rw [hln.out] at hyL
     have hL6 := (hL.wide (D' := LtN W6) fun b hb => hb.1).row
     have hlc := hL.2.1
     have hlm := hL.2.2.1.1
     have hr0 : 0 < rl := by omega
     go_wp2_with (first
      | (with_reducible refine wpList_load1 (by kernel_rfl) _ _ rfl P6 _ rfl _ _ hP6 _ c5 ga4 ?_)
      | (at_builtin; refine wpList_append_row infoW Try.underlying28 rfl (by omega) rfl _ _ rfl Bq _ _ _ rfl hown6 _ _ _ _ (wordsC (fO X x).links) rfl hL6 (wordsC_one _) (by unfold maxLen; omega) (by omega) (by have : Bq ≤ b := hbb.1; have := hbb5; have := k56.size; omega) ?_; intro v' w7 hown7 hgrow))
     have hM7 := hM6.grown hown6 hgrow
     obtain ⟨a7, c7, rfl, hr7⟩ := RowC.of_owns hown7
     have e7 : wordsC (row ++ (fO X x).links) = wordsC row ++ wordsC (fO X x).links := by simp [wordsC]
     rw [← e7] at hown7
     go_roundw
     case rel => exact ⟨k + 1, row ++ (fO X x).links, C ++ [x], a7, c7, by rw [List.length_append, hrl.out, hln.out], by go_num, hyC, by rw [List.length_append, hrl.out, hln.out]; exact hown7, hM7, (hgrow.block B hB6.lt fun q => by have e8 := own_b q.symm; have h8 := hBs.out; have : Bq ≤ b := hbb.1; omega).trans hB6, hk6M.grown hgrow (by have := hB6.lt; have := hBs.out; omega) fun j q => by have := own_b q; have := hBs.out; have : Bq ≤ b := hbb.1; omega⟩
     case measure => simp [intOf]; omega
    ·refine wpAnyH_two (i := 5) (j := 9) (n := 6) rfl (by kernel_rfl) ?_ ?_
     ·refine wpOp_callL (f := 46) (vs := [.agg G, .int .u64 x]) (d := some 32) (by kernel_rfl) Try.call46 (hfd (hk5.trans ((hdr.trans (hS.mono hdr.size)).mono hk5.size))) ?_
      rintro e z1 ⟨C6, rfl, o6, hb101⟩
      have k1 := (Below.refl v6.heap.size v6).trans (hb101.mono (Below.refl v6.heap.size v6).size)
      have hS1 : Below v6.heap.size v6 z1 := hS.trans (hb101.mono hS.size)
      refine ⟨_, rfl, hS1, ?_⟩
      refine wpAnyH_pure (by kernel_rfl) (fun _ _ _ _ _ h => h) hS1 [6, 7, 8] (l' := #[true, true, true, true, true, true, true, true, true, false, false, false]) (a' := { tmps := #[.map (some M), .agg G, .int .u64 i, undef, .pointer (some ⟨B, 0, none⟩), undef, .slice (some ⟨b, off, none⟩) rl cr, .int .i64 k, u8, u9, .int .u64 i, .slice (some ⟨Bq, 0, none⟩) 1 1, u12, u13, .bool false, .int .i64 k, .slice (some ⟨b, off, none⟩) rl cr, .int .i64 rl, .bool false, .bool true, .map (some M), .slice (some ⟨b, off, none⟩) rl cr, .int .i64 k, .pointer (some ⟨b, off + k, none⟩), .int .u64 x, .bool true, .tuple #[.agg C6, .bool (fnd X x).isSome], .agg G, .slice (some ⟨b, off, none⟩) rl cr, .int .i64 k, .pointer (some ⟨b, off + k, none⟩), .int .u64 x, .tuple #[.agg C6, .bool (fnd X x).isSome], .agg C6, .bool (fnd X x).isSome, u35, u36, u37, u38], defers := [] }) (n := 3) (by kernel_rfl) (by kernel_rfl) ?_
      refine wpAnyH_single (i := 9) (n := 2) rfl (by kernel_rfl) ?_
      refine wpOp_allocL (ty := 54) (z := zC) (d := some 8) (by kernel_rfl) zero40 ?_
      intro P6 z2 hN hP6 hb102
      have hgP : v6.heap.size ≤ P6 := by have := hN.out; have := k1.size; omega
      have o6 := (o6.laterK fun b hb => hb102.block b hb.2).wide (D' := Ex P6 z2) fun b hb => ⟨Nat.lt_of_lt_of_le hb.2 hb102.size, by have := hN.out; have := hb.2; omega⟩
      have k2 := k1.trans (hb102.mono k1.size)
      have hS2 : Below v6.heap.size v6 z2 := hS1.trans (hb102.mono hS1.size)
      refine ⟨hS2, ?_⟩
      exact rest _ _ ⟨P6, C6, rfl, hS2, hP6, hgP, o6⟩
     ·refine wpOp_allocL (ty := 54) (z := zC) (d := some 8) (by kernel_rfl) zero40 ?_
      intro P6 z3 hN hP6 hb103
      have hgP : v6.heap.size ≤ P6 := by have := hN.out; have := (Below.refl v6.heap.size v6).size; omega
      have k3 := (Below.refl v6.heap.size v6).trans (hb103.mono (Below.refl v6.heap.size v6).size)
      have hS3 : Below v6.heap.size v6 z3 := hS.trans (hb103.mono hS.size)
      refine ⟨hS3, ?_⟩
      refine wpAnyH_single (i := 5) (n := 5) rfl (by kernel_rfl) ?_
      refine wpOp_callL (f := 46) (vs := [.agg G, .int .u64 x]) (d := some 32) (by kernel_rfl) Try.call46 (hfd (hk5.trans ((hdr.trans (hS3.mono hdr.size)).mono hk5.size))) ?_
      rintro e z4 ⟨C6, rfl, o6, hb104⟩
      have o6 := o6.wide (D' := Ex P6 z4) fun b hb => ⟨hb.2, by have := hb.1; have := hP6.lt; omega⟩
      replace hP6 := hP6.next hb104
      have k4 := k3.trans (hb104.mono k3.size)
      have hS4 : Below v6.heap.size v6 z4 := hS3.trans (hb104.mono hS3.size)
      refine ⟨_, rfl, hS4, ?_⟩
      refine wpAnyH_pure (by kernel_rfl) (fun _ _ _ _ _ h => h) hS4 [6, 7, 8] (l' := #[true, true, true, true, true, true, true, true, true, true, false, false]) (a' := { tmps := #[.map (some M), .agg G, .int .u64 i, undef, .pointer (some ⟨B, 0, none⟩), undef, .slice (some ⟨b, off, none⟩) rl cr, .int .i64 k, .pointer (some ⟨P6, 0, none⟩), u9, .int .u64 i, .slice (some ⟨Bq, 0, none⟩) 1 1, u12, u13, .bool false, .int .i64 k, .slice (some ⟨b, off, none⟩) rl cr, .int .i64 rl, .bool false, .bool true, .map (some M), .slice (some ⟨b, off, none⟩) rl cr, .int .i64 k, .pointer (some ⟨b, off + k, none⟩), .int .u64 x, .bool true, .tuple #[.agg C6, .bool (fnd X x).isSome], .agg G, .slice (some ⟨b, off, none⟩) rl cr, .int .i64 k, .pointer (some ⟨b, off + k, none⟩), .int .u64 x, .tuple #[.agg C6, .bool (fnd X x).isSome], .agg C6, .bool (fnd X x).isSome, u35, u36, u37, u38], defers := [] }) (n := 2) (by kernel_rfl) (by kernel_rfl) ?_
      exact rest _ _ ⟨P6, C6, rfl, hS4, hP6, hgP, o6⟩
   ·rw [decide_eq_false hq] at hdec
    have hdH : Hid (decide ((cutF X (row.take k) x).getD 0 = 1) = false) := hdec
    have hnC : Hid (CutI X i (k + 1) row C) := hno hq
    have hlsH : Hid (lessT x (cutF X (row.take k)) = cutF X (row.take (k + 1))) := hls
    clear hno hye hyl hdec hq hls
    obtain ⟨rl, hrl⟩ : ∃ rl, Hid (row.length = rl) := ⟨_, rfl⟩
    clear hct
    rw [hrl.out] at hlen hle hrc hown hkn hke hkn' ⊢
    go_wp2_with (first
     | (with_reducible refine wpList_loadc (by kernel_rfl) _ _ rfl b _ rfl _ hc ga1 ?_)
     | (go_at_call 54; (with_reducible refine (hlo _ _ hM rfl).mono ?_); rintro e w5 ⟨rfl, hM5, o5⟩; rw [hdH.out]; rw [hlsH.out] at hM5))
    go_roundw
    case rel => exact ⟨k + 1, row, C, some ⟨b, off, none⟩, cr, by rw [hrl.out], by go_num, hnC, by rw [hrl.out]; exact owns_later hown fun b hb _ => o5.block b (by have := hBs.out; omega), hM5, hB.other o5 (by have := hBs.out; omega), o5.below _ _ (Nat.le_refl _) hkM⟩
    case measure => simp [intOf]; omega
  ·have hke : k = row.length := by omega
   subst hke
   rw [List.take_length] at hM
   obtain ⟨rl, hrl⟩ : ∃ rl, Hid (row.length = rl) := ⟨_, rfl⟩
   rw [hrl.out] at hlen hrc hown ⊢
   go_wp2
   rw [Exit.noGoto_normal]
   go_end0
   exact ⟨row, C, rfl, hC, hM, hkM⟩
end Go.Proofs.Ytcmcakandbpjfaa
