/-
  PROVED HERE: what likely of package asm returns when it is called: the one line whose text it can be (a contract over this translation). Texts of at most 65536 bytes.
-/
import Derived.Test.YtnghendglcblkaaGreatDoorAsm13
namespace Go.Proofs.YtnghendglcblkaaGreatDoor
open Go.RowKit Go.Shelf
set_option linter.unusedVariables false
open Asm

def stepL (ls : List UInt8) (ps : List ByteArray) (x : Ln) (k : Nat) : Ln := if k + 1 < ps.length then wPart x (ltr ls k) (ps.getD (k + 1) ⟨#[]⟩) else x
def accL (ls : List UInt8) (ps : List ByteArray) (x : Ln) (k : Nat) : Ln := (List.range k).foldl (stepL ls ps) x
theorem accL_succ (ls : List UInt8) (ps : List ByteArray) (x : Ln) (k : Nat) : accL ls ps x (k + 1) = stepL ls ps (accL ls ps x k) k := by unfold accL; rw [List.range_succ, List.foldl_append]; rfl
/-- The number of an instruction's name. -/
def opOf (ps : List ByteArray) : Nat := (lkp (ps.getD 0 ⟨#[]⟩) (opsL 26)).getD 0
/-- The one line whose text it can be. -/
def lkl (t : ByteArray) : Ln := if hS t ⟨#[58]⟩ then ⟨tS t ⟨#[58]⟩, 0, 0, 0, 0, 0, ⟨#[]⟩⟩ else accL (Ins.shp (opOf (spl t))) (spl t) ⟨⟨#[]⟩, opOf (spl t), 0, 0, 0, 0, ⟨#[]⟩⟩ (Ins.shp (opOf (spl t))).length
theorem ext_size (s : ByteArray) (a b : Nat) : (s.extract a b).size ≤ s.size := by rw [ByteArray.size_extract]; omega
theorem splB (sep : ByteArray) : ∀ (k : Nat) (s : ByteArray), 1 ≤ (Lib.splitB sep 0 k s).length ∧ (Lib.splitB sep 0 k s).length ≤ k + 1 ∧ ∀ p ∈ Lib.splitB sep 0 k s, p.size ≤ s.size
  | 0, s => ⟨Nat.le_refl _, Nat.le_refl _, fun p hp => by rw [List.mem_singleton.1 hp]; exact Nat.le_refl _⟩
  | k + 1, s => by
    unfold Lib.splitB
    split
    · exact ⟨Nat.le_refl _, by simp, fun p hp => by rw [List.mem_singleton.1 hp]; exact Nat.le_refl _⟩
    · obtain ⟨h1, h2, h3⟩ := splB sep k (s.extract ((Lib.indexB s sep).toNat + sep.size) s.size)
      refine ⟨by simp, by simp; omega, fun p hp => ?_⟩
      rcases List.mem_cons.1 hp with rfl | hp
      · exact ext_size _ _ _
      · exact Nat.le_trans (h3 p hp) (ext_size _ _ _)
theorem spl_facts (s : ByteArray) : 1 ≤ (spl s).length ∧ (spl s).length ≤ min 4 (s.size + 1) ∧ ∀ p ∈ spl s, p.size ≤ s.size := by
  obtain ⟨h1, h2, h3⟩ := splB ⟨#[32]⟩ (min 4 (s.size + 1) - 1) s
  exact ⟨h1, by unfold spl; omega, h3⟩
theorem cellsOf_at {ps : List ByteArray} {N k : Nat} (hk : k < ps.length) : (Lib.cellsOf ps N)[k]? = some (.string (ps.getD k ⟨#[]⟩)) := by
  unfold Lib.cellsOf
  rw [List.getElem?_toArray, List.getElem?_append_left (by simpa using hk), List.getElem?_map, List.getElem?_eq_getElem hk, List.getD_eq_getElem?_getD, List.getElem?_eq_getElem hk]
  rfl
theorem getD_mem {ps : List ByteArray} {k : Nat} (hk : k < ps.length) : ps.getD k ⟨#[]⟩ ∈ ps := by
  rw [List.getD_eq_getElem?_getD, List.getElem?_eq_getElem hk]; exact List.getElem_mem hk
theorem ltr_cases {op : Int} {k : Nat} (hk : k < (Ins.shp op).length) : ltr (Ins.shp op) k = 97 ∨ ltr (Ins.shp op) k = 98 ∨ ltr (Ins.shp op) k = 99 ∨ ltr (Ins.shp op) k = 105 := by
  rcases Ins.shp_cases op with h | h | h | h | h | h | h <;> rw [h] at hk ⊢ <;> simp at hk <;> (rcases k with _ | _ | _ | k) <;> first | (simp at hk; done) | decide | omega
theorem lkp_le {m : ByteArray} : ∀ {k v : Nat}, lkp m (opsL k) = some v → v < k := by
  intro k
  induction k with
  | zero => intro v h; unfold opsL at h; simp [lkp] at h
  | succ k ih =>
    intro v h
    have app : ∀ (l r : List (ByteArray × Nat)), lkp m (l ++ r) = (lkp m l).or (lkp m r) := fun l r => by
      induction l with
      | nil => simp [lkp]
      | cons p l ih => simp only [List.cons_append, lkp]; split <;> simp [ih]
    rw [ops_snoc, app] at h
    cases hq : lkp m (opsL k) with
    | some u => rw [hq] at h; simp at h; have := ih hq; omega
    | none =>
      rw [hq] at h
      simp only [Option.none_or, lkp] at h
      split at h
      · cases h; omega
      · cases h
theorem opOf_lt (ps : List ByteArray) : opOf ps < 26 := by
  unfold opOf
  cases h : lkp (ps.getD 0 ⟨#[]⟩) (opsL 26) with
  | none => decide
  | some v => exact lkp_le h
theorem set7_heap {W : World} {B k : Nat} (h : k ≠ B) (m : ByteArray) (op a b c i : Int) (tt : ByteArray) : (set7 W B m op a b c i tt).heap[k]? = W.heap[k]? := by
  unfold set7
  rw [Below.heap_setCell _ ⟨B, 6, none⟩ _ k h, Below.heap_setCell _ ⟨B, 5, none⟩ _ k h, Below.heap_setCell _ ⟨B, 4, none⟩ _ k h, Below.heap_setCell _ ⟨B, 3, none⟩ _ k h, Below.heap_setCell _ ⟨B, 2, none⟩ _ k h, Below.heap_setCell _ ⟨B, 1, none⟩ _ k h, Below.heap_setCell _ ⟨B, 0, none⟩ _ k h]
/-- A line in a block. -/
def LbX (W : World) (B : Nat) (x : Ln) : Prop := Lb W B x.mark x.op x.a x.b x.c x.i x.to
theorem below_iterAt {B : Nat} {w W : World} (h : Below B w W) (k : Nat) (hk : B ≤ k) (s : ByteArray) (p : Nat) : Below B w (W.iterAt k s p) :=
  h.trans ⟨rfl, rfl, rfl, by rw [Lib.iterAt_size]; exact Nat.le_refl _, fun j hj => Lib.iterAt_other W k j s p (by omega)⟩
set_option maxRecDepth 100000 in
set_option maxHeartbeats 2000000 in
theorem likely_any (t : ByteArray) (ht : t.size ≤ 65536) (M : Nat) (w : World) (hM : MapAt w M (opsL 26)) (hv : AVars w) :
    Calls Tryz.prog 12 #[.string t, .map (some M)] w fun e w' => e = .returned (.agg (lnV (lkl t))) ∧ Below w.heap.size w w' := by
  have hB1 : Below w.heap.size w (w.alloc (.cells #[.string ⟨#[]⟩, .int .i64 0, .int .i64 0, .int .i64 0, .int .i64 0, .int .i32 0, .string ⟨#[]⟩] 37)) := (Below.refl _ w).alloc (Nat.le_refl _) _
  have hR1 := Lb.new w ⟨#[]⟩ 0 0 0 0 0 ⟨#[]⟩
  have hV1 := hv.later hB1
  have hcs := fun W => cutSuffix_any t ⟨#[58]⟩ ht W
  go_enter Tryz.func12, Tryz.ntmps12
  cases hg : hS t ⟨#[58]⟩ with
  | true =>
    have hr : Hid (lnV (lkl t) = #[.string (tS t ⟨#[58]⟩), .int .i64 0, .int .i64 0, .int .i64 0, .int .i64 0, .int .i32 0, .string ⟨#[]⟩]) := by show _ = _; unfold lkl; rw [hg]; rfl
    simp only [hg] at hcs
    go_wp2_with (first | (go_at_call 25; refine (hcs _).mono ?_; rintro e w1 ⟨rfl, rfl⟩))
    have hL5 := Lb.new w (tS t ⟨#[58]⟩) 0 0 0 0 0 ⟨#[]⟩
    obtain ⟨g0, g1, g2, g3, g4, g5, g6⟩ := hL5.cells
    refine bodyPost_ret (v := .agg #[.string (tS t ⟨#[58]⟩), .int .i64 0, .int .i64 0, .int .i64 0, .int .i64 0, .int .i32 0, .string ⟨#[]⟩]) (by simp [results, Tryz.f12, go_sem, g0, g1, g2, g3, g4, g5, g6]) rfl ?_
    exact ⟨by rw [← hr.out], (Below.refl _ w).alloc (Nat.le_refl _) _⟩
  | false =>
    simp only [hg] at hcs
    have hsp := fun W2 hV2 => splitN_any t ht W2 hV2
    obtain ⟨hl1, hl2, hl3⟩ := spl_facts t
    have hr : Hid (lkl t = accL (Ins.shp (opOf (spl t))) (spl t) ⟨⟨#[]⟩, opOf (spl t), 0, 0, 0, 0, ⟨#[]⟩⟩ (Ins.shp (opOf (spl t))).length) := by show _ = _; unfold lkl; rw [hg]; rfl
    have hop : Hid (opOf (spl t) = (lkp ((spl t).getD 0 ⟨#[]⟩) (opsL 26)).getD 0) := rfl
    obtain ⟨ps, hps⟩ : ∃ ps, spl t = ps := ⟨_, rfl⟩
    simp only [hps] at hsp
    rw [hps] at hl1 hl2 hl3 hr hop
    clear hps
    obtain ⟨N, hN⟩ : ∃ N, min 4 (t.size + 1) = N := ⟨_, rfl⟩
    simp only [hN] at hsp
    rw [hN] at hl2
    have hN4 : N ≤ 4 := by omega
    clear hN
    have hB2 : Below w.heap.size w ((w.alloc (.cells #[.string ⟨#[]⟩, .int .i64 0, .int .i64 0, .int .i64 0, .int .i64 0, .int .i32 0, .string ⟨#[]⟩] 37)).alloc (.cells (Lib.cellsOf ps N) 9)) := hB1.alloc (by simp) _
    have hP2 : ∀ W, Below (w.heap.size + 2) ((w.alloc (.cells #[.string ⟨#[]⟩, .int .i64 0, .int .i64 0, .int .i64 0, .int .i64 0, .int .i32 0, .string ⟨#[]⟩] 37)).alloc (.cells (Lib.cellsOf ps N) 9)) W → ∀ k, k < ps.length → W.cell? ⟨w.heap.size + 1, k, none⟩ = some (.string (ps.getD k ⟨#[]⟩)) := fun W hW k hk => by
      rw [hW.cell (p := ⟨w.heap.size + 1, k, none⟩) (Nat.lt_succ_self _)]
      have e : ((w.alloc (.cells #[.string ⟨#[]⟩, .int .i64 0, .int .i64 0, .int .i64 0, .int .i64 0, .int .i32 0, .string ⟨#[]⟩] 37)).alloc (.cells (Lib.cellsOf ps N) 9)).heap[w.heap.size + 1]? = some (.cells (Lib.cellsOf ps N) 9 (0, 0)) := by
        have := World.alloc_heap_new (w.alloc (.cells #[.string ⟨#[]⟩, .int .i64 0, .int .i64 0, .int .i64 0, .int .i64 0, .int .i32 0, .string ⟨#[]⟩] 37)) (.cells (Lib.cellsOf ps N) 9)
        simpa using this
      rw [Lib.cell_of_heap e]
      exact cellsOf_at hk
    have hR2 := hR1.alloc (.cells (Lib.cellsOf ps N) 9)
    have hlk := map_get1 (hM.next hB2) (ps.getD 0 ⟨#[]⟩)
    rw [← hop.out] at hlk
    have hp0 := hP2 _ (Below.refl _ _) 0 hl1
    have hlt := opOf_lt ps
    obtain ⟨op, hopv⟩ : ∃ op, opOf ps = op := ⟨_, rfl⟩
    rw [hopv] at hlk hr hlt
    clear hop hopv
    obtain ⟨p0, hpv⟩ : ∃ p0, ps.getD 0 ⟨#[]⟩ = p0 := ⟨_, rfl⟩
    rw [hpv] at hlk hp0
    clear hpv
    go_wp2_with (first | (go_at_call 25; refine (hcs _).mono ?_; rintro e w1 ⟨rfl, rfl⟩) | (go_at_call 26; refine (hsp _ hV1).mono ?_; rintro e w1 ⟨rfl, rfl⟩) | (go_at_call 27; refine (shape_any _ _).mono ?_; rintro e w2 ⟨rfl, rfl⟩))
    have hsl : (Ins.shp (op : Int)).length = (Ins.shS (op : Int)).size := by show _ = (Ins.shp (op : Int)).toArray.size; simp
    have hasc := shp_asc (op : Int)
    have hbs : ∀ (k : Nat) (hk : k < (Ins.shS (op : Int)).size), ((Ins.shS (op : Int))[k]'hk).toNat < 128 := fun k hk => hasc _ (by show (Ins.shS (op : Int)).data[k] ∈ _; exact Array.mem_toList_iff.2 (Array.getElem_mem _))
    have hltr : ∀ (k : Nat) (hk : k < (Ins.shS (op : Int)).size), (((Ins.shS (op : Int))[k]'hk).toNat : Int) = ltr (Ins.shp (op : Int)) k := fun k hk => (ltr_at (Ins.shS (op : Int)) hk).symm
    have hs3 : (Ins.shS (op : Int)).size ≤ 3 := by rw [← hsl]; rcases Ins.shp_cases (op : Int) with h | h | h | h | h | h | h <;> rw [h] <;> decide
    clear hasc
    revert hbs hltr hsl hs3
    generalize Ins.shS (op : Int) = sh
    intro hsl hbs hltr hs3
    go_loopw [] (fun wr => ∃ k : Nat, k ≤ sh.size ∧ wr.heap[w.heap.size + 1 + 1 + 1]? = some (.stringIter sh k) ∧ LbX wr (w.heap.size + 1 + 1) (accL (Ins.shp (op : Int)) ps ⟨⟨#[]⟩, op, 0, 0, 0, 0, ⟨#[]⟩⟩ k) ∧ Below (w.heap.size + 2) ((w.alloc (.cells #[.string ⟨#[]⟩, .int .i64 0, .int .i64 0, .int .i64 0, .int .i64 0, .int .i32 0, .string ⟨#[]⟩] 37)).alloc (.cells (Lib.cellsOf ps N) 9)) wr) (fun wr => sh.size - wr.iterPos (w.heap.size + 1 + 1 + 1))
    case atStart =>
      refine ⟨0, Nat.zero_le _, ?_, ?_, ?_⟩
      · have h1 := World.iter_heap (((w.alloc (.cells #[.string ⟨#[]⟩, .int .i64 0, .int .i64 0, .int .i64 0, .int .i64 0, .int .i32 0, .string ⟨#[]⟩] 37)).alloc (.cells (Lib.cellsOf ps N) 9)).alloc (.cells #[.string ⟨#[]⟩, .int .i64 (op : Int), .int .i64 0, .int .i64 0, .int .i64 0, .int .i32 0, .string ⟨#[]⟩] 37)) sh 0
        simpa using h1
      · have h1 := (Lb.new ((w.alloc (.cells #[.string ⟨#[]⟩, .int .i64 0, .int .i64 0, .int .i64 0, .int .i64 0, .int .i32 0, .string ⟨#[]⟩] 37)).alloc (.cells (Lib.cellsOf ps N) 9)) ⟨#[]⟩ op 0 0 0 0 ⟨#[]⟩).alloc (.stringIter sh 0)
        have e : ((w.alloc (.cells #[.string ⟨#[]⟩, .int .i64 0, .int .i64 0, .int .i64 0, .int .i64 0, .int .i32 0, .string ⟨#[]⟩] 37)).alloc (.cells (Lib.cellsOf ps N) 9)).heap.size = w.heap.size + 1 + 1 := by simp
        rw [e] at h1
        exact h1
      · exact ((Below.refl _ ((w.alloc (.cells #[.string ⟨#[]⟩, .int .i64 0, .int .i64 0, .int .i64 0, .int .i64 0, .int .i32 0, .string ⟨#[]⟩] 37)).alloc (.cells (Lib.cellsOf ps N) 9))).alloc (by simp) _).alloc (by simp) _
    case round =>
      obtain ⟨k, hk, hit, hLr, hBr⟩ := hrel
      obtain ⟨xx, hx⟩ : ∃ xx, Hid (accL (Ins.shp (op : Int)) ps ⟨⟨#[]⟩, op, 0, 0, 0, 0, ⟨#[]⟩⟩ k = xx) := ⟨_, rfl⟩
      rw [hx.out] at hLr
      obtain ⟨m, op', a, b, c, i, tt⟩ := xx
      have hLr : Lb wr (w.heap.size + 1 + 1) m op' a b c i tt := hLr
      by_cases hks : k < sh.size
      · have hnx : ∀ ty, (Instr.next (.pointer (some ⟨w.heap.size + 1 + 1 + 1, 0, none⟩)) true ty).run Tryz.prog wr = _ := fun ty => Lib.run_next_ascii_at wr (w.heap.size + 1 + 1 + 1) sh k ty hit hks (hbs k hks)
        rw [hltr k hks] at hnx
        have hit2 := Lib.iterAt_heap wr (w.heap.size + 1 + 1 + 1) sh k (k + 1) hit
        have hLX : Lb (wr.iterAt (w.heap.size + 1 + 1 + 1) sh (k + 1)) (w.heap.size + 1 + 1) m op' a b c i tt := (Lib.iterAt_other wr (w.heap.size + 1 + 1 + 1) _ sh (k + 1) (by omega)).trans hLr
        have hBX := below_iterAt hBr (w.heap.size + 1 + 1 + 1) (by omega) sh (k + 1)
        have hIP : Hid (wr.iterPos (w.heap.size + 1 + 1 + 1) = k) := iterPos_of hit
        obtain ⟨X, hX⟩ : ∃ X, wr.iterAt (w.heap.size + 1 + 1 + 1) sh (k + 1) = X := ⟨_, rfl⟩
        rw [hX] at hit2 hLX hBX hnx
        have hBwX : Below w.heap.size w X := hB2.trans (hBX.mono (by omega))
        have hXs : w.heap.size + 4 ≤ X.heap.size := (Array.getElem?_eq_some_iff.1 hit2).1
        clear hX hLr hit hBr
        by_cases hkp : k + 1 < ps.length
        · have hmx : Tryz.prog.follows .mixedOrders = true := by kernel_rfl
          have hlc : ltr (Ins.shp (op : Int)) k = 97 ∨ ltr (Ins.shp (op : Int)) k = 98 ∨ ltr (Ins.shp (op : Int)) k = 99 ∨ ltr (Ins.shp (op : Int)) k = 105 := ltr_cases (by rw [hsl]; exact hks)
          have hstp : Hid (accL (Ins.shp (op : Int)) ps ⟨⟨#[]⟩, op, 0, 0, 0, 0, ⟨#[]⟩⟩ (k + 1) = wPart ⟨m, op', a, b, c, i, tt⟩ (ltr (Ins.shp (op : Int)) k) (ps.getD (k + 1) ⟨#[]⟩)) := by show _ = _; rw [accL_succ, hx.out]; unfold stepL; rw [if_pos hkp]
          have hwp := fun W hV => withPart_any ⟨m, op', a, b, c, i, tt⟩ (ltr (Ins.shp (op : Int)) k) hlc (ps.getD (k + 1) ⟨#[]⟩) (Nat.le_trans (hl3 _ (getD_mem hkp)) ht) W hV
          have hpk := hP2 X hBX (k + 1) hkp
          obtain ⟨pk, hpkv⟩ : ∃ pk, ps.getD (k + 1) ⟨#[]⟩ = pk := ⟨_, rfl⟩
          simp only [hpkv] at hwp
          rw [hpkv] at hpk hstp
          clear hpkv
          obtain ⟨L, hL⟩ : ∃ L, ltr (Ins.shp (op : Int)) k = L := ⟨_, rfl⟩
          simp only [hL] at hwp
          rw [hL] at hstp hnx
          clear hL hlc
          obtain ⟨y, hy⟩ : ∃ y, wPart ⟨m, op', a, b, c, i, tt⟩ L pk = y := ⟨_, rfl⟩
          simp only [hy] at hwp
          rw [hy] at hstp
          clear hy
          obtain ⟨m1, op1, a1, b1, c1', i1, t1⟩ := y
          unfold lnV at hwp
          dsimp only at hwp
          have hpc : ∀ W9 : World, W9.heap[w.heap.size + 1]? = X.heap[w.heap.size + 1]? → W9.cell? ⟨w.heap.size + 1, k + 1, none⟩ = some (.string pk) := fun W9 e => (World.cell?_of_block (w := X) (a := ⟨w.heap.size + 1, k + 1, none⟩) e).trans hpk
          obtain ⟨d0, d1, d2, d3, d4, d5, d6⟩ := hLX.cells
          go_wp2
          have hw1 : IntKind.i64.wrap ((k : Int) + 1) = (k : Int) + 1 := by rw [IntKind.wrap_i64]; omega
          have hk0 : ¬ (k : Int) + 1 < 0 := by omega
          have hk1 : ((k : Int) + 1).toNat = k + 1 := by omega
          refine region_out (S := fun W9 => W9.heap[w.heap.size + 1]? = X.heap[w.heap.size + 1]?) hmx rfl (fun hS => ?_)
          refine wpAnyH_take (i := 1) (v := .int .i32 L) rfl (by kernel_rfl) (by kernel_rfl) (by kernel_rfl) (fun _ _ _ h => h) (Or.inl ⟨by rfl, fun w9 hS2 => by go_simp⟩) hS ?_
          simp only [Act.put]
          refine wpAnyH_take (i := 2) (v := .slice (some ⟨w.heap.size + 1, 0, none⟩) ps.length N) rfl (by kernel_rfl) (by kernel_rfl) (by kernel_rfl) (fun _ _ _ h => h) (Or.inl ⟨by rfl, fun w9 hS2 => by go_simp⟩) hS ?_
          simp only [Act.put]
          refine wpAnyH_take (i := 3) (v := .int .i64 (k : Int)) rfl (by kernel_rfl) (by kernel_rfl) (by kernel_rfl) (fun _ _ _ h => h) (Or.inl ⟨by rfl, fun w9 hS2 => by go_simp⟩) hS ?_
          simp only [Act.put]
          refine wpAnyH_take (i := 4) (v := .int .i64 ((k : Int) + 1)) rfl (by kernel_rfl) (by kernel_rfl) (by kernel_rfl) (fun _ _ _ h => h) (Or.inl ⟨by rfl, fun w9 hS2 => by go_simp⟩) hS ?_
          simp only [Act.put]
          refine wpAnyH_take (i := 5) (v := .pointer (some ⟨w.heap.size + 1, k + 1, none⟩)) rfl (by kernel_rfl) (by kernel_rfl) (by kernel_rfl) (fun _ _ _ h => h) (Or.inl ⟨by rfl, fun w9 hS2 => by go_simp⟩) hS ?_
          simp only [Act.put]
          refine wpAnyH_take (i := 6) (v := .string pk) rfl (by kernel_rfl) (by kernel_rfl) (by kernel_rfl) (fun _ _ _ h => h) (Or.inl ⟨by rfl, fun w9 hS2 => by have e0 := hpc w9 hS2; go_simp⟩) hS ?_
          simp only [Act.put]
          refine wpAnyH_ready (rs := [0]) (by kernel_rfl) (by simp) ?_
          refine AllReadyH.cons rfl (fun K hK => ?_) AllReadyH.nil
          go_simp
          refine hK.out _ _ hS (fun hS => ?_)
          clear hK K
          refine wpAnyH_ready (rs := [7]) (by kernel_rfl) (by simp) ?_
          refine AllReadyH.cons rfl (fun K hK => ?_) AllReadyH.nil
          go_simp
          refine (hwp _ (hv.later hBwX.drew)).mono ?_
          rintro e w4 ⟨rfl, hb4'⟩
          have hb4 : Below X.heap.size X w4 := (Below.refl _ X).drew.trans hb4'
          have hS : w4.heap[w.heap.size + 1]? = X.heap[w.heap.size + 1]? := hb4.block _ (by omega)
          refine hK.out _ _ hS (fun hS => ?_)
          clear hK K
          have hL4 := hLX.next hb4
          obtain ⟨f0, f1, f2, f3, f4, f5, f6⟩ := hL4.cells
          have ff := hL4.frozen
          refine wpAnyH_ready (rs := [8]) (by kernel_rfl) (by simp) ?_
          refine AllReadyH.cons rfl (fun K hK => ?_) AllReadyH.nil
          go_simp
          have hS : (set7 w4 (w.heap.size + 1 + 1) m1 op1 a1 b1 c1' i1 t1).heap[w.heap.size + 1]? = X.heap[w.heap.size + 1]? := (set7_heap (by omega) _ _ _ _ _ _ _).trans hS
          refine hK.out _ _ hS (fun hS => ?_)
          clear hK K
          refine wpAnyH_done (by kernel_rfl) ?_ _
          go_wp2
          go_roundw
          case rel =>
            refine ⟨k + 1, by omega, ?_, ?_, ?_⟩
            · exact (set7_heap (by omega) _ _ _ _ _ _ _).trans ((hb4.block _ (by omega)).trans hit2)
            · rw [hstp.out]; exact hL4.set7 _ _ _ _ _ _ _
            · exact set7_from (hBX.trans (hb4.mono (by omega))) (Nat.le_refl _) _ _ _ _ _ _ _
          case measure =>
            have hit4 : (set7 w4 (w.heap.size + 1 + 1) m1 op1 a1 b1 c1' i1 t1).heap[w.heap.size + 1 + 1 + 1]? = some (.stringIter sh (k + 1)) := (set7_heap (by omega) _ _ _ _ _ _ _).trans ((hb4.block _ (by omega)).trans hit2)
            have hip := iterPos_of hit4
            unfold set7 at hip
            rw [hip, hIP.out]; omega
        · have hstp : Hid (accL (Ins.shp (op : Int)) ps ⟨⟨#[]⟩, op, 0, 0, 0, 0, ⟨#[]⟩⟩ (k + 1) = ⟨m, op', a, b, c, i, tt⟩) := by show _ = _; rw [accL_succ, hx.out]; unfold stepL; rw [if_neg hkp]
          go_wp2
          go_roundw
          case rel => exact ⟨k + 1, by omega, hit2, by rw [hstp.out]; exact hLX, hBX⟩
          case measure => rw [iterPos_of hit2, hIP.out]; omega
      · obtain rfl : k = sh.size := by omega
        have hnx : ∀ ty, (Instr.next (.pointer (some ⟨w.heap.size + 1 + 1 + 1, 0, none⟩)) true ty).run Tryz.prog wr = _ := fun ty => Lib.run_next_end_at wr (w.heap.size + 1 + 1 + 1) sh sh.size ty hit hks
        obtain ⟨d0, d1, d2, d3, d4, d5, d6⟩ := hLr.cells
        have hR3 : Lb wr w.heap.size ⟨#[]⟩ 0 0 0 0 0 ⟨#[]⟩ := (hBr.block _ (by omega)).trans hR2
        obtain ⟨f0, f1, f2, f3, f4, f5, f6⟩ := hR3.cells
        have ff := hR3.frozen
        have hrr : Hid (lkl t = ⟨m, op', a, b, c, i, tt⟩) := by show _ = _; rw [hr.out, hsl]; exact hx.out
        go_wp2
        have hL5 := hR3.set7 m op' a b c i tt
        obtain ⟨g0, g1, g2, g3, g4, g5, g6⟩ := hL5.cells
        unfold set7 at g0 g1 g2 g3 g4 g5 g6
        refine bodyPost_ret (v := .agg #[.string m, .int .i64 op', .int .i64 a, .int .i64 b, .int .i64 c, .int .i32 i, .string tt]) (by simp [results, Tryz.f12, go_sem, g0, g1, g2, g3, g4, g5, g6]) rfl ?_
        exact ⟨by rw [hrr.out]; rfl, set7_from (hB2.trans (hBr.mono (by omega))) (Nat.le_refl _) _ _ _ _ _ _ _⟩
end Go.Proofs.YtnghendglcblkaaGreatDoor
