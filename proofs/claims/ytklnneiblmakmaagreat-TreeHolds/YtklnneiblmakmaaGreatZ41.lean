/-
 PROVED HERE: chapter 14's examples as the law asks them: its 'awake' answers true (a contract over this translation). What is asked stands at each.
-/
import Derived.Test.YtklnneiblmakmaaGreatZ35
import Derived.Test.YtklnneiblmakmaaGreatZ40
namespace Go.Proofs.YtklnneiblmakmaaGreat
set_option maxRecDepth 100000
set_option maxHeartbeats 8000000
set_option linter.unusedVariables false
open Go.Proofs.Tryz
section
open Go.RowKit Go.Shelf
attribute [local go_sem] Oper.semAt_some
def awD : Ob := ⟨1, 2, [], 3, false, [], [], [], zTh, zGt, [], []⟩
def awS (q : Int) : Ob := ⟨2, 1, [], q, false, [], [], [], zTh, zGt, [], []⟩
def awE : Ob := ⟨1, 2, [], 3, false, [2], [], [], zTh, zGt, [], []⟩
theorem aw_e3 : attE [awD] 1 (awS 3) = 5 := by decide +kernel
theorem aw_e2 : attE [awD] 1 (awS 2) = 0 := by decide +kernel
theorem aw_x2 : attX [awD] 1 (awS 2) = [awE, awS 2] := by decide +kernel
theorem aw_fit : fitT 0 0 1 [awD] = true := by decide +kernel
theorem aw_room : awE.quota - (pagO awE + (awE.links.map (qOf [awE, awS 2])).sum) = 0 := by decide +kernel
theorem w8z (i k q : Int) (f : Bool) (l : List Int) (hl : l.length < 4294967296) : Small ⟨i, k, [], q, f, l, [], [], zTh, zGt, [], []⟩ := ⟨by simp, hl, by simp, by simp, by simp [zTh], by simp [zTh], by simp [zTh], by simp [zTh], by simp [zTh], by simp [zTh], by simp [zGt], by simp [zGt], by simp, by simp⟩
theorem vBz : Lays [awD] := ⟨x1z.1 (by decide +kernel), fun x hx => by rw [List.mem_singleton.1 hx]; exact w8z _ _ _ _ _ (by simp), by decide +kernel, fun x hx => by rw [List.mem_singleton.1 hx]; decide, fun x hx => by rw [List.mem_singleton.1 hx]; decide, fun x hx => by rw [List.mem_singleton.1 hx]; exact ⟨List.Pairwise.nil, by decide⟩⟩
theorem com_set3 (a b c d e v : Value) : (comC a b c d e).setIfInBounds 3 v = comC a b c v e := by kernel_rfl
theorem sizeI : (prog.info? 3).map (·.size) = some 1 := by kernel_rfl
theorem gAz {W : World} {B : Nat} {D : Nat → Prop} (h : Blk W B (comC (.int .u64 1) (.int .i64 2) (.slice none 0 0) (.int .i64 3) (.bool false)) 43) : ObsD (LtN W) D W (some ⟨B, 0, none⟩) 1 1 [awD] := uQz h (wBz (LabD.nil D W))
theorem aw_at3 {W : World} {B : Nat} (h : Blk W B (comC (.int .u64 1) (.int .i64 2) (.slice none 0 0) (.int .i64 3) (.bool false)) 43) : Calls prog 10 #[.agg #[.int .i64 0, .int .u64 0, .int .u64 1, .slice (some ⟨B, 0, none⟩) 1 1], .int .u64 1, .agg (comC (.int .u64 2) (.int .i64 1) (.slice none 0 0) (.int .i64 3) (.bool false))] W fun e w' => ∃ ao2 n2 cap2, e = .returned (.tuple #[.agg #[.int .i64 0, .int .u64 0, .int .u64 1, .slice ao2 n2 cap2], .int .i64 5]) ∧ ObsN W (fun _ => False) w' ao2 n2 cap2 (attX [awD] 1 (awS 3)) ∧ Below W.heap.size W w' := by
 obtain ⟨Cf, hF⟩ := (gAz (D := fun _ => False) h).fam
 have := juz (t := 0) (ke := 0) (ro := 1) (i := 1) (D0 := fun _ => False) (o := awS 3) (fun _ h => h.elim) hF vBz (by omega) (wBz (LabD.nil _ W)) (w8z _ _ _ _ _ (by simp)) (by decide)
 rw [aw_e3] at this
 exact this
theorem aw_at2 {W : World} {B : Nat} (h : Blk W B (comC (.int .u64 1) (.int .i64 2) (.slice none 0 0) (.int .i64 3) (.bool false)) 43) : Calls prog 10 #[.agg #[.int .i64 0, .int .u64 0, .int .u64 1, .slice (some ⟨B, 0, none⟩) 1 1], .int .u64 1, .agg (comC (.int .u64 2) (.int .i64 1) (.slice none 0 0) (.int .i64 2) (.bool false))] W fun e w' => ∃ ao2 n2 cap2, e = .returned (.tuple #[.agg #[.int .i64 0, .int .u64 0, .int .u64 1, .slice ao2 n2 cap2], .int .i64 0]) ∧ ObsN W (fun _ => False) w' ao2 n2 cap2 [awE, awS 2] ∧ Below W.heap.size W w' := by
 obtain ⟨Cf, hF⟩ := (gAz (D := fun _ => False) h).fam
 have := juz (t := 0) (ke := 0) (ro := 1) (i := 1) (D0 := fun _ => False) (o := awS 2) (fun _ h => h.elim) hF vBz (by omega) (wBz (LabD.nil _ W)) (w8z _ _ _ _ _ (by simp)) (by decide)
 rw [aw_e2, aw_x2] at this
 exact this
theorem aw_ft {W : World} {B : Nat} (h : Blk W B (comC (.int .u64 1) (.int .i64 2) (.slice none 0 0) (.int .i64 3) (.bool false)) 43) : Calls prog 35 #[.agg #[.int .i64 0, .int .u64 0, .int .u64 1, .slice (some ⟨B, 0, none⟩) 1 1]] W fun e w' => e = .returned (.bool true) ∧ Below W.heap.size W w' := by
 obtain ⟨Cf, hF⟩ := (gAz (D := LtN W) h).fam
 have := tfit_v (t := 0) (key := 0) (ro := 1) hF (fun _ => vBz.sms) (fun x hx => by rw [List.mem_singleton.1 hx]; unfold WdO; decide)
 rw [aw_fit] at this
 exact this
theorem aw_rm {W : World} {ao : Option Addr} {cap : Nat} {C : Array Value} (hO : Obs W ao 2 cap [awE, awS 2]) (hC : ObD (LtN W) W C awE) : Calls prog 36 #[.agg #[.int .i64 0, .int .u64 0, .int .u64 1, .slice ao 2 cap], .agg C] W fun e w' => e = .returned (.int .i64 0) ∧ Below W.heap.size W w' := by
 obtain ⟨Cf, hF⟩ := hO.fam
 have := room_w (t := 0) (ke := 0) (ro := 1) hF (x1z.1 (by decide +kernel)) (by omega) (by decide) hC (w8z _ _ _ _ _ (by simp)) (by decide)
 rw [aw_room] at this
 exact this
theorem wnz (w : World) : Calls prog 9 #[] w fun e w' => e = .returned (.bool true) ∧ Below w.heap.size w w' := by
 have hmx : prog.follows .mixedOrders = true := by kernel_rfl
 have hzd : (comC (.int .u64 1) (.int .i64 2) (.slice none 0 0) (.int .i64 3) (.bool false)).size = 51 := by kernel_rfl
 have hz3s : (comC (.int .u64 2) (.int .i64 1) (.slice none 0 0) (.int .i64 3) (.bool false)).size = 51 := by kernel_rfl
 have hs3 : ∀ (D : Nat → Prop) (w : World), ObD D w (comC (.int .u64 2) (.int .i64 1) (.slice none 0 0) (.int .i64 3) (.bool false)) (awS 3) := fun D w => wBz (LabD.nil D w)
 have hs2o : ∀ (D : Nat → Prop) (w : World), ObD D w (comC (.int .u64 2) (.int .i64 1) (.slice none 0 0) (.int .i64 2) (.bool false)) (awS 2) := fun D w => wBz (LabD.nil D w)
 have hz2 : ∀ v, (prog.info? 25).map (·.size) = some (#[.int .i64 0, .int .u64 0, .int .u64 1, v] : Array Value).size := fun _ => wfz
 have hs2 : ∀ v, zW.size = (#[.int .i64 0, .int .u64 0, .int .u64 1, v] : Array Value).size := fun _ => rfl
 have h12 : ∀ ao n cap, (#[.int .i64 0, .int .u64 0, .int .u64 1, .slice ao n cap] : Array Value).all (·.oneCell') = true := fun _ _ _ => by kernel_rfl
 have hat1 := fun {B : Nat} (W : World) (h : Blk W B (comC (.int .u64 1) (.int .i64 2) (.slice none 0 0) (.int .i64 3) (.bool false)) 43) => aw_at3 h
 have hat2 := fun {B : Nat} (W : World) (h : Blk W B (comC (.int .u64 1) (.int .i64 2) (.slice none 0 0) (.int .i64 3) (.bool false)) 43) => aw_at2 h
 have hfit := fun {B : Nat} (W : World) (h : Blk W B (comC (.int .u64 1) (.int .i64 2) (.slice none 0 0) (.int .i64 3) (.bool false)) 43) => aw_ft h
 go_enter func9, ntmps9
 go_wp2_with (first
  | ((with_reducible refine qpz (by kernel_rfl) 43 [(0, .const (.int .u64 1)), (1, .const (.int .i64 2)), (3, .const (.int .i64 3))] rfl (comC (.int .u64 1) (.int .i64 2) (.slice none 0 0) (.int .i64 3) (.bool false)) ?hf ?_); (case hf => kernel_rfl))
  | ((with_reducible refine kEz rfl _ rfl (comC (.int .u64 1) (.int .i64 2) (.slice none 0 0) (.int .i64 3) (.bool false)) rfl hzd ?_); intro Bx Wx hNx hBx hk)
  | ((with_reducible refine qpz (by kernel_rfl) 25 [(2, .const (.int .u64 1)), (3, .tmp 8)] rfl #[.int .i64 0, .int .u64 0, .int .u64 1, .slice (some ⟨Bx, 0, none⟩) 1 1] ?hf ?_); (case hf => kernel_rfl))
  | ((with_reducible refine qcz rfl 25 rfl zW qNz ?_); have hx := hP3; intro P5 W5 hN5 hP5a hk5; clear hx)
  | ((with_reducible refine qcz rfl 25 rfl zW qNz ?_); have hx := hP2; intro P3 W3 hN3 hP3a hk3; have hne : Hid (Bx ≠ P2 ∧ P1 ≠ P2 ∧ P3 ≠ P2 ∧ w.heap.size ≤ P2) := (by have := hN3.out; have := hlt.out; have := hP2.lt; refine (⟨?_, ?_, ?_, ?_⟩ : _ ∧ _ ∧ _ ∧ _) <;> omega); clear hx)
  | ((with_reducible refine qcz rfl 25 rfl zW qNz ?_); intro P1 W1 hN1 hP1a hk1)
  | ((with_reducible refine qaz rfl _ _ _ rfl P1 rfl #[.int .i64 0, .int .u64 0, .int .u64 1, .slice (some ⟨Bx, 0, none⟩) 1 1] rfl zW hP1a (hz2 _) (hs2 _) (h12 _ _ _) ?_); intro V1 hP1 q1; have hb8 : Below Wx.heap.size Wx V1 := q1.below Wx.heap.size Wx (by have := hN1.out; omega) hk1; replace hBx := hBx.next hb8; replace hk := btz hk hb8; clear hN1 hP1a hk1 q1 hb8)
  | ((with_reducible refine qpz (by kernel_rfl) 43 [(0, .const (.int .u64 2)), (1, .const (.int .i64 1)), (3, .const (.int .i64 3))] rfl (comC (.int .u64 2) (.int .i64 1) (.slice none 0 0) (.int .i64 3) (.bool false)) ?hf ?_); (case hf => kernel_rfl))
  | ((with_reducible refine qcz rfl 43 rfl zC qqz ?_); intro P2 W2 hN2 hP2a hk2; have hlt : Hid (Bx < P2 ∧ P1 < P2 ∧ w.heap.size ≤ P2) := (by have := hN2.out; have := hk.size; have := hBx.lt; have := hP1.lt; refine (⟨?_, ?_, ?_⟩ : _ ∧ _ ∧ _) <;> omega))
  | ((with_reducible refine qaz rfl _ _ _ rfl P2 rfl (comC (.int .u64 2) (.int .i64 1) (.slice none 0 0) (.int .i64 3) (.bool false)) rfl zC hP2a (qfz (hs3 (fun _ => True) w).size) (qmz.trans (hs3 (fun _ => True) w).size.symm) (hs3 (fun _ => True) w).one ?_); intro V2 hP2 q2; have hb8 : Below V1.heap.size V1 V2 := q2.below V1.heap.size V1 (by have := hN2.out; omega) hk2; replace hBx := hBx.next hb8; replace hP1 := hP1.next hb8; replace hk := btz hk hb8; clear hN2 hP2a hk2 q2 hb8)
  | (with_reducible refine qez (by kernel_rfl) 25 _ rfl P1 rfl _ hP1 _ underlying25 (by kernel_rfl) (hz2 _) ?_)
  | (with_reducible refine qez (by kernel_rfl) 43 _ rfl P2 rfl _ hP2 _ underlying43 (by kernel_rfl) (qfz (by kernel_rfl)) ?_)
  | (go_at_call 10; have hx := hP3; (with_reducible refine (hat2 _ hBx).mono ?_); rintro e w5 ⟨aX, nX, cX, rfl, oX, hb8⟩; replace hBx := hBx.next hb8; replace hP1 := hP1.next hb8; replace hP2 := hP2.next hb8; replace hP3 := hP3.next hb8; replace hk := btz hk hb8; clear hb8 hx; obtain rfl : 2 = nX := oX.1)
  | (go_at_call 10; (with_reducible refine (hat1 _ hBx).mono ?_); rintro e w3 ⟨aZ, nZ, cZ, rfl, oZ, hb8⟩; replace hBx := hBx.next hb8; replace hP1 := hP1.next hb8; replace hP2 := hP2.next hb8; replace hk := btz hk hb8; clear hb8 oZ)
  | ((with_reducible refine qaz rfl _ _ _ rfl P3 rfl _ rfl zW hP3a (hz2 _) (hs2 _) (h12 aZ nZ cZ) ?_); intro V3 hP3 q3; have hb8 : Below w3.heap.size w3 V3 := q3.below w3.heap.size w3 (by have := hN3.out; omega) hk3; replace hBx := hBx.next hb8; replace hP1 := hP1.next hb8; replace hP2 := hP2.next hb8; replace hk := btz hk hb8; clear hN3 hP3a hk3 q3 hb8)
  | ((with_reducible refine qjz rfl _ _ _ rfl P2 3 rfl (.int .i64 2) rfl rfl _ _ hP2 sizeI (by rw [hz3s]; omega) rfl ?_); intro V4 hP2n q4; replace hBx := hBx.other q4 hne.out.1; replace hP1 := hP1.other q4 hne.out.2.1; replace hP3 := hP3.other q4 hne.out.2.2.1; replace hk := q4.below _ _ hne.out.2.2.2 hk; rw [com_set3] at hP2n; clear hP2; have hP2 := hP2n; clear hP2n q4)
  | ((with_reducible refine qaz rfl _ _ _ rfl P5 rfl _ rfl zW hP5a (hz2 _) (hs2 _) (h12 aX 2 cX) ?_); intro V5 hP5 q5; have hb8 : Below w5.heap.size w5 V5 := q5.below w5.heap.size w5 (by have := hN5.out; omega) hk5; replace oX := ObsN.next oX (fun _ h => h.elim) hb8; replace hP1 := hP1.next hb8; replace hBx := hBx.next hb8; replace hk := btz hk hb8; clear hN5 hP5a hk5 q5 hb8))
 have r5 : Hid ((5 : Int) = 5) := rfl
 have r0 : Hid ((0 : Int) = 0) := rfl
 have r2 : Hid (((2 : Nat) : Int) = 2) := rfl
 obtain ⟨bX, oX0, C0, e0, hbX0, hC0, hr0⟩ := uSz oX (i := 0) (by omega)
 cases e0
 have hbX : bX < V5.heap.size := hbX0.2
 have hroom := fun (W : World) (hk : Below V5.heap.size V5 W) => aw_rm (qzz (oX.wide (fun b hb => by rcases hb with q | q; exact q.elim; exact q.2) (fun b hb => hb.2)) hk) ((hC0.laterK fun b hb => hk.block b (by rcases hb with q | q; exact q.elim; exact q.2)).wide fun b hb => Nat.lt_of_lt_of_le (by rcases hb with q | q; exact q.elim; exact q.2) hk.size)
 refine PgM.region_out (S := fun W => Below V5.heap.size V5 W) hmx ((Below.refl _ _).drew) (fun hS => ?_)
 generalize V5.drew = v5 at hS ⊢
 refine qiz (by kernel_rfl) (fun _ _ _ _ _ h => h) hS [(0, some (.agg #[.int .i64 0, .int .u64 0, .int .u64 1, .slice (some ⟨Bx, 0, none⟩) 1 1]))] (l' := #[tt, ff, ff, ff, ff, ff, ff, ff, ff, ff, ff, ff, ff, ff, ff, ff, ff, ff, ff, ff, ff, ff, ff, ff, ff, ff]) (a' := { tmps := #[.bool false, .pointer (some ⟨P1, 0, none⟩), .pointer (some ⟨P2, 0, none⟩), .pointer (some ⟨P3, 0, none⟩), .int .i64 5, .pointer (some ⟨P5, 0, none⟩), .int .i64 0, .agg (comC (.int .u64 1) (.int .i64 2) (.slice none 0 0) (.int .i64 3) (.bool false)), .slice (some ⟨Bx, 0, none⟩) 1 1, .agg #[.int .i64 0, .int .u64 0, .int .u64 1, .slice (some ⟨Bx, 0, none⟩) 1 1], .agg (comC (.int .u64 2) (.int .i64 1) (.slice none 0 0) (.int .i64 3) (.bool false)), .tuple #[.agg #[.int .i64 0, .int .u64 0, .int .u64 1, .slice aZ nZ cZ], .int .i64 5], .agg #[.int .i64 0, .int .u64 0, .int .u64 1, .slice (some ⟨Bx, 0, none⟩) 1 1], .agg (comC (.int .u64 2) (.int .i64 1) (.slice none 0 0) (.int .i64 3) (.bool false)), .tuple #[.agg #[.int .i64 0, .int .u64 0, .int .u64 1, .slice aZ nZ cZ], .int .i64 5], .agg #[.int .i64 0, .int .u64 0, .int .u64 1, .slice aZ nZ cZ], .int .i64 5, .pointer (some ⟨P2, 3, none⟩), .tuple #[.agg #[.int .i64 0, .int .u64 0, .int .u64 1, .slice (some ⟨bX, oX0, none⟩) 2 cX], .int .i64 0], .agg #[.int .i64 0, .int .u64 0, .int .u64 1, .slice (some ⟨Bx, 0, none⟩) 1 1], .agg (comC (.int .u64 2) (.int .i64 1) (.slice none 0 0) (.int .i64 2) (.bool false)), .tuple #[.agg #[.int .i64 0, .int .u64 0, .int .u64 1, .slice (some ⟨bX, oX0, none⟩) 2 cX], .int .i64 0], .agg #[.int .i64 0, .int .u64 0, .int .u64 1, .slice (some ⟨bX, oX0, none⟩) 2 cX], .int .i64 0, .agg #[.int .i64 0, .int .u64 0, .int .u64 1, .slice (some ⟨Bx, 0, none⟩) 1 1], ud, ud, ud, ud, ud, ud, ud, ud, ud, ud, ud, ud, ud, ud, ud, ud, ud, ud, ud, ud, ud, ud, ud, undef], defers := [] }) (obs := [.load 25 P1 0 (.agg #[.int .i64 0, .int .u64 0, .int .u64 1, .slice (some ⟨Bx, 0, none⟩) 1 1])]) (n := 25) (by kernel_rfl) (by kernel_rfl) ⟨qwz (fun _ h => hP1.next h) underlying25 (by kernel_rfl) (hz2 _), trivial⟩ ?_
 refine qnz (i := 1) (fuel := 24) (f := 35) (vs := [.agg #[.int .i64 0, .int .u64 0, .int .u64 1, .slice (some ⟨Bx, 0, none⟩) 1 1]]) (d := some 25) (by kernel_rfl) (by kernel_rfl) (by kernel_rfl) call35 (hfit _ (hBx.next hS)) ?_
 rintro e v6 ⟨rfl, hb⟩
 have hS6 : Below V5.heap.size V5 v6 := btz hS hb
 refine ⟨_, rfl, hS6, ?_⟩
 refine qiz (by kernel_rfl) (fun _ _ _ _ _ h => h) hS6 [(2, none), (3, none), (4, some (.bool true)), (5, none), (6, none), (7, none), (8, some (.bool true)), (9, none), (10, none), (11, none), (12, some (.slice (some ⟨bX, oX0, none⟩) 2 cX)), (13, some (.int .i64 2)), (14, some (.bool true)), (15, none), (16, none), (17, some (.agg #[.int .i64 0, .int .u64 0, .int .u64 1, .slice (some ⟨bX, oX0, none⟩) 2 cX])), (18, none), (19, some (.slice (some ⟨bX, oX0, none⟩) 2 cX)), (20, some (.pointer (some ⟨bX, oX0 + 0 * 51, none⟩))), (21, some (.agg C0))] (l' := #[tt, tt, tt, tt, tt, tt, tt, tt, tt, tt, tt, tt, tt, tt, tt, tt, tt, tt, tt, tt, tt, tt, ff, ff, ff, ff]) (a' := { tmps := #[.bool false, .pointer (some ⟨P1, 0, none⟩), .pointer (some ⟨P2, 0, none⟩), .pointer (some ⟨P3, 0, none⟩), .int .i64 5, .pointer (some ⟨P5, 0, none⟩), .int .i64 0, .agg (comC (.int .u64 1) (.int .i64 2) (.slice none 0 0) (.int .i64 3) (.bool false)), .slice (some ⟨Bx, 0, none⟩) 1 1, .agg #[.int .i64 0, .int .u64 0, .int .u64 1, .slice (some ⟨Bx, 0, none⟩) 1 1], .agg (comC (.int .u64 2) (.int .i64 1) (.slice none 0 0) (.int .i64 3) (.bool false)), .tuple #[.agg #[.int .i64 0, .int .u64 0, .int .u64 1, .slice aZ nZ cZ], .int .i64 5], .agg #[.int .i64 0, .int .u64 0, .int .u64 1, .slice (some ⟨Bx, 0, none⟩) 1 1], .agg (comC (.int .u64 2) (.int .i64 1) (.slice none 0 0) (.int .i64 3) (.bool false)), .tuple #[.agg #[.int .i64 0, .int .u64 0, .int .u64 1, .slice aZ nZ cZ], .int .i64 5], .agg #[.int .i64 0, .int .u64 0, .int .u64 1, .slice aZ nZ cZ], .int .i64 5, .pointer (some ⟨P2, 3, none⟩), .tuple #[.agg #[.int .i64 0, .int .u64 0, .int .u64 1, .slice (some ⟨bX, oX0, none⟩) 2 cX], .int .i64 0], .agg #[.int .i64 0, .int .u64 0, .int .u64 1, .slice (some ⟨Bx, 0, none⟩) 1 1], .agg (comC (.int .u64 2) (.int .i64 1) (.slice none 0 0) (.int .i64 2) (.bool false)), .tuple #[.agg #[.int .i64 0, .int .u64 0, .int .u64 1, .slice (some ⟨bX, oX0, none⟩) 2 cX], .int .i64 0], .agg #[.int .i64 0, .int .u64 0, .int .u64 1, .slice (some ⟨bX, oX0, none⟩) 2 cX], .int .i64 0, .agg #[.int .i64 0, .int .u64 0, .int .u64 1, .slice (some ⟨Bx, 0, none⟩) 1 1], .bool true, .bool true, .int .i64 5, .bool true, .bool true, .bool true, .int .i64 0, .bool true, .bool true, .bool true, .pointer (some ⟨P5, 3, none⟩), .slice (some ⟨bX, oX0, none⟩) 2 cX, .int .i64 2, .bool true, .bool true, .bool true, .agg #[.int .i64 0, .int .u64 0, .int .u64 1, .slice (some ⟨bX, oX0, none⟩) 2 cX], .pointer (some ⟨P5, 3, none⟩), .slice (some ⟨bX, oX0, none⟩) 2 cX, .pointer (some ⟨bX, oX0 + 0 * 51, none⟩), .agg C0, ud, ud, undef], defers := [] }) (obs := [.test .eql 47 (.tmp 27) (.const (.int .i64 5)) (.int .i64 5) (.int .i64 5) (.bool true), .test .eql 47 (.tmp 31) (.const (.int .i64 0)) (.int .i64 0) (.int .i64 0) (.bool true), .load 23 P5 3 (.slice (some ⟨bX, oX0, none⟩) 2 cX), .ln 23 3 (.slice (some ⟨bX, oX0, none⟩) 2 cX) (.int .i64 2), .test .eql 3 (.tmp 37) (.const (.int .i64 2)) (.int .i64 2) (.int .i64 2) (.bool true), .load 25 P5 0 (.agg #[.int .i64 0, .int .u64 0, .int .u64 1, .slice (some ⟨bX, oX0, none⟩) 2 cX]), .load 23 P5 3 (.slice (some ⟨bX, oX0, none⟩) 2 cX), .ia 23 (.slice (some ⟨bX, oX0, none⟩) 2 cX) (.int .i64 0) (.pointer (some ⟨bX, oX0 + 0 * 51, none⟩)), .load 43 bX (oX0 + 0 * 51) (.agg C0)]) (n := 4) (by kernel_rfl) (by kernel_rfl) ⟨qFz (fun _ => qvz _ _ _ _ _ _) r5, qFz (fun _ => qvz _ _ _ _ _ _) r0, qhz (fun _ h => hP5.next h) rfl isAgg23, ob_ln (n := 2), qFz (fun _ => qvz _ _ _ _ _ _) r2, qwz (fun _ h => hP5.next h) underlying25 (by kernel_rfl) (hz2 _), qhz (fun _ h => hP5.next h) rfl isAgg23, xfz (i := 0) (by omega), wiz (fun _ h => qtz hr0 (h.block bX hbX)) underlying43 (by kernel_rfl) (qfz hC0.size), trivial⟩ ?_
 refine qnz (i := 22) (fuel := 3) (f := 36) (vs := [.agg #[.int .i64 0, .int .u64 0, .int .u64 1, .slice (some ⟨bX, oX0, none⟩) 2 cX], .agg C0]) (d := some 46) (by kernel_rfl) (by kernel_rfl) (by kernel_rfl) call36 (hroom _ hS6) ?_
 rintro e v7 ⟨rfl, hb⟩
 have hS7 : Below V5.heap.size V5 v7 := btz hS6 hb
 refine ⟨_, rfl, hS7, ?_⟩
 refine qiz (by kernel_rfl) (fun _ _ _ _ _ h => h) hS7 [(23, some (.bool true)), (24, none), (25, none)] (l' := #[tt, tt, tt, tt, tt, tt, tt, tt, tt, tt, tt, tt, tt, tt, tt, tt, tt, tt, tt, tt, tt, tt, tt, tt, tt, tt]) (a' := { tmps := #[.bool true, .pointer (some ⟨P1, 0, none⟩), .pointer (some ⟨P2, 0, none⟩), .pointer (some ⟨P3, 0, none⟩), .int .i64 5, .pointer (some ⟨P5, 0, none⟩), .int .i64 0, .agg (comC (.int .u64 1) (.int .i64 2) (.slice none 0 0) (.int .i64 3) (.bool false)), .slice (some ⟨Bx, 0, none⟩) 1 1, .agg #[.int .i64 0, .int .u64 0, .int .u64 1, .slice (some ⟨Bx, 0, none⟩) 1 1], .agg (comC (.int .u64 2) (.int .i64 1) (.slice none 0 0) (.int .i64 3) (.bool false)), .tuple #[.agg #[.int .i64 0, .int .u64 0, .int .u64 1, .slice aZ nZ cZ], .int .i64 5], .agg #[.int .i64 0, .int .u64 0, .int .u64 1, .slice (some ⟨Bx, 0, none⟩) 1 1], .agg (comC (.int .u64 2) (.int .i64 1) (.slice none 0 0) (.int .i64 3) (.bool false)), .tuple #[.agg #[.int .i64 0, .int .u64 0, .int .u64 1, .slice aZ nZ cZ], .int .i64 5], .agg #[.int .i64 0, .int .u64 0, .int .u64 1, .slice aZ nZ cZ], .int .i64 5, .pointer (some ⟨P2, 3, none⟩), .tuple #[.agg #[.int .i64 0, .int .u64 0, .int .u64 1, .slice (some ⟨bX, oX0, none⟩) 2 cX], .int .i64 0], .agg #[.int .i64 0, .int .u64 0, .int .u64 1, .slice (some ⟨Bx, 0, none⟩) 1 1], .agg (comC (.int .u64 2) (.int .i64 1) (.slice none 0 0) (.int .i64 2) (.bool false)), .tuple #[.agg #[.int .i64 0, .int .u64 0, .int .u64 1, .slice (some ⟨bX, oX0, none⟩) 2 cX], .int .i64 0], .agg #[.int .i64 0, .int .u64 0, .int .u64 1, .slice (some ⟨bX, oX0, none⟩) 2 cX], .int .i64 0, .agg #[.int .i64 0, .int .u64 0, .int .u64 1, .slice (some ⟨Bx, 0, none⟩) 1 1], .bool true, .bool true, .int .i64 5, .bool true, .bool true, .bool true, .int .i64 0, .bool true, .bool true, .bool true, .pointer (some ⟨P5, 3, none⟩), .slice (some ⟨bX, oX0, none⟩) 2 cX, .int .i64 2, .bool true, .bool true, .bool true, .agg #[.int .i64 0, .int .u64 0, .int .u64 1, .slice (some ⟨bX, oX0, none⟩) 2 cX], .pointer (some ⟨P5, 3, none⟩), .slice (some ⟨bX, oX0, none⟩) 2 cX, .pointer (some ⟨bX, oX0 + 0 * 51, none⟩), .agg C0, .int .i64 0, .bool true, .bool true], defers := [] }) (obs := [.test .eql 3 (.tmp 46) (.const (.int .i64 0)) (.int .i64 0) (.int .i64 0) (.bool true)]) (n := 0) (by kernel_rfl) (by kernel_rfl) ⟨qFz (fun _ => qvz _ _ _ _ _ _) r0, trivial⟩ ?_
 refine wpAnyH_done (by kernel_rfl) ?_ _
 go_wp2
 go_ret
 exact ⟨rfl, btz hk hS7⟩
end
end Go.Proofs.YtklnneiblmakmaaGreat
