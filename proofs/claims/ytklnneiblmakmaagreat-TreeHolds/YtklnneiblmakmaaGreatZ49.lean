/-
 PROVED HERE: what the law's charged of chapter 14 returns where what is asked is so (a contract over this translation); tre. What is asked stands at each.
-/
import Derived.Test.YtklnneiblmakmaaGreatZ39
import Derived.Test.YtklnneiblmakmaaGreatZ48
namespace Go.Proofs.YtklnneiblmakmaaGreat
set_option maxRecDepth 100000
set_option maxHeartbeats 8000000
set_option linter.unusedVariables false
open Go.Proofs.Tryz
section
open Go.RowKit Go.Shelf
attribute [local go_sem] Oper.semAt_some
theorem gFz {S : World → Prop} {x y : Operand} {a b c : Int} (hw : IntKind.i64.wrap (a + b) = c) : Obl.holds prog S (.test .add 3 x y (.int .i64 a) (.int .i64 b) (.int .i64 c)) := fun w hS => by
 go_simp
theorem vIz {w : World} {t ke ro t' ke' ro' d m : Int} {ao ao' : Option Addr} {n cap n' cap' : Nat} {X Y : List Ob} (h : Obs w ao n cap X) (h' : Obs w ao' n' cap' Y) (hs : Srt X) (hs' : Srt Y) (hn16 : n ≤ 4096) (hn16' : n' ≤ 4096) (hq : ∀ x ∈ X, 0 ≤ x.quota ∧ x.quota ≤ 4096) (hq' : ∀ x ∈ Y, 0 ≤ x.quota ∧ x.quota ≤ 4096) (hsm : wbz X) (hsm' : wbz Y)
  (hch : ∀ c ∈ X, (fnd Y c.id).isSome = true ∧ useV Y (fO Y c.id) = useV X c + (if c.id = d then m else 0)) :
  Calls prog 22 #[.agg #[.int .i64 t, .int .u64 ke, .int .u64 ro, .slice ao n cap], .agg #[.int .i64 t', .int .u64 ke', .int .u64 ro', .slice ao' n' cap'], .int .u64 d, .int .i64 m] w fun e w' => e = .returned (.bool true) ∧ Below w.heap.size w w' := by
 have hmx : prog.follows .mixedOrders = true := by kernel_rfl
 have hn : Hid (X.length = n) := h.1
 have hnc := h.2.1
 have hcm := h.2.2.1.1
 have c3 : (#[.int .i64 t, .int .u64 ke, .int .u64 ro, .slice ao n cap] : Array Value)[3]? = some (.slice ao n cap) := rfl
 have hzw : (prog.info? 25).map (·.size) = some (#[.int .i64 t, .int .u64 ke, .int .u64 ro, .slice ao n cap] : Array Value).size := by kernel_rfl
 have hzw' : (prog.info? 25).map (·.size) = some (#[.int .i64 t', .int .u64 ke', .int .u64 ro', .slice ao' n' cap'] : Array Value).size := by kernel_rfl
 obtain ⟨Cf, hF⟩ := h.fam
 obtain ⟨Cg, hF'⟩ := h'.fam
 have fd0 := fun {W : World} {i : Int} (hk : Below w.heap.size w W) => xXz (t := t') (ke := ke') (ro := ro') (i := i) h' hk
 have us0 := fun {W : World} {C : Array Value} {o : Ob} (hk : Below w.heap.size w W) (ho : o ∈ X) (hC : ObD (LtN W) W C o) => uses_w (t := t) (ke := ke) (ro := ro) (hF.next hk) hs hn16 hq hC (hsm o ho)
 have us1 := fun {W : World} {C : Array Value} {o : Ob} (hk : Below w.heap.size w W) (ho : o ∈ Y) (hC : ObD (LtN W) W C o) => uses_w (t := t') (ke := ke') (ro := ro') (hF'.next hk) hs' hn16' hq' hC (hsm' o ho)
 have hub := fun {o : Ob} (ho : o ∈ Y) => use_le hq' (hsm' o ho)
 obtain ⟨G, hG⟩ : ∃ G : Array Value, G = #[.int .i64 t, .int .u64 ke, .int .u64 ro, .slice ao n cap] := ⟨_, rfl⟩
 obtain ⟨G', hG'⟩ : ∃ G : Array Value, G = #[.int .i64 t', .int .u64 ke', .int .u64 ro', .slice ao' n' cap'] := ⟨_, rfl⟩
 simp only [← hG] at us0
 simp only [← hG'] at us1 fd0
 rw [← hG] at c3 hzw
 rw [← hG'] at hzw'
 rw [← hG, ← hG']
 clear hG hG'
 go_enter func22, ntmps22
 go_wp2_with (first
  | (with_reducible refine qdz rfl 25 (.tmp 0) rfl G rfl ?_; intro B W1 hN1 hB hk)
  | (with_reducible refine qdz rfl 25 (.tmp 1) rfl G' rfl ?_; intro Bv W2 hN2 hBv hk2; replace hB := hB.next hk2; replace hk := btz hk hk2; clear hk2)
  | (with_reducible refine qbz (by kernel_rfl) _ _ rfl B _ rfl _ _ hB _ c3 isAgg23 ?_))
 clear hN1 hN2
 go_loopw [17] (fun j wr => ∃ k : Nat, k ≤ n ∧ j = .int .i64 k ∧ Blk wr B G 25 ∧ Blk wr Bv G' 25 ∧ Below w.heap.size w wr) (fun j _ => n - (intOf j).toNat)
 case atStart => exact ⟨0, Nat.zero_le _, rfl, hB, hBv, hk⟩
 case round =>
  clear hB hBv hk
  obtain ⟨k, hkn1, rfl, hB, hBv, hk⟩ := hrel
  by_cases hkn : k < n
  ·have hkX : k < X.length := by rw [hn.out]; exact hkn
   have hom := qXz hkX
   obtain ⟨hc1, hc2⟩ := hch _ hom
   obtain ⟨y, hyf⟩ := Option.isSome_iff_exists.1 hc1
   have hyi := xRz hyf
   have hfO : fO Y (oat X k).id = y := by unfold fO; rw [hyf]; rfl
   rw [hfO] at hc2
   replace us0 := fun {W : World} {C : Array Value} (hk : Below w.heap.size w W) (hC : ObD (LtN W) W C (oat X k)) => us0 hk hom hC
   replace us1 := fun {W : World} {C : Array Value} (hk : Below w.heap.size w W) (hC : ObD (LtN W) W C y) => us1 hk hyi.2 hC
   have fd1 := fun {W : World} (hk : Below w.heap.size w W) => fd0 (i := (oat X k).id) hk
   simp only [hyf, hfO, Option.isSome_some] at fd1
   have hby := hub hyi.2
   change 0 ≤ useV Y y ∧ useV Y y ≤ _ at hby
   change ∀ {W : World} {C : Array Value}, Below w.heap.size w W → ObD (LtN W) W C (oat X k) → Calls prog _ _ W fun e w' => e = .returned (.int .i64 (useV X (oat X k))) ∧ _ at us0
   change ∀ {W : World} {C : Array Value}, Below w.heap.size w W → ObD (LtN W) W C y → Calls prog _ _ W fun e w' => e = .returned (.int .i64 (useV Y y)) ∧ _ at us1
   obtain ⟨b, off, C, rfl, hbb, hC, hr⟩ := wrz h hkn
   have hkn' : (k : Int) < n := by omega
   have hz := hC.size
   have h1c := hC.one
   have i0 := hC.id
   have hr2 := qtz hr (hk.block b hbb)
   generalize useV Y y = uy at us1 hc2 hby
   generalize useV X (oat X k) = ux at us0 hc2
   by_cases hd : (oat X k).id = d
   ·rw [if_pos hd] at hc2
    have hdb : ((oat X k).id == d) = true := by simpa using hd
    have hwr : IntKind.i64.wrap (ux + m) = uy := by rw [IntKind.wrap_i64]; omega
    clear hd
    go_wp2_with (first
     | (with_reducible refine qBz (by kernel_rfl) 43 _ rfl b _ rfl C hr2 _ underlying43 (by kernel_rfl) (qfz hz) ?_)
     | ((with_reducible refine qcz rfl 43 rfl zC qqz ?_); have hx := hP; intro Q W4 hN4 hQa hk4; clear hx)
     | ((with_reducible refine qcz rfl 43 rfl zC qqz ?_); intro P W3 hN3 hPa hk3)
     | ((with_reducible refine qaz rfl _ _ _ rfl P rfl C rfl zC hPa (qfz hz) (qmz.trans hz.symm) h1c ?_); intro V3 hP q3; have hb8 : Below wr.heap.size wr V3 := q3.below wr.heap.size wr (by have := hN3.out; omega) hk3; replace hB := hB.next hb8; replace hBv := hBv.next hb8; replace hk := btz hk hb8; clear hb8; clear hN3 hPa hk3 q3)
     | (with_reducible refine qez (by kernel_rfl) 25 _ rfl Bv rfl G' hBv _ underlying25 (by kernel_rfl) hzw' ?_)
     | (with_reducible refine qbz (by kernel_rfl) _ _ rfl P _ rfl _ _ hP _ i0 isAgg22 ?_)
     | (go_at_call 19; (with_reducible refine (fd1 hk).mono ?_); rintro e w4 ⟨Cy, rfl, oy, hb8⟩; replace hB := hB.next hb8; replace hBv := hBv.next hb8; replace hP := hP.next hb8; replace hk := btz hk hb8; clear hb8; have hzy := oy.size)
     | ((with_reducible refine qaz rfl _ _ _ rfl Q rfl Cy rfl zC hQa (qfz hzy) (qmz.trans hzy.symm) oy.one ?_); intro V4 hQ q4; have hb8 : Below w4.heap.size w4 V4 := q4.below w4.heap.size w4 (by have := hN4.out; omega) hk4; replace oy := yKz oy hk hb8; replace hB := hB.next hb8; replace hBv := hBv.next hb8; replace hP := hP.next hb8; replace hk := btz hk hb8; clear hb8; clear hN4 hQa hk4 q4))
    have qn : Hid (¬ ¬ uy = uy) := fun q => q rfl
    refine PgM.region_out (S := fun W => Below V4.heap.size V4 W) hmx ((Below.refl _ _).drew) (fun hS => ?_)
    generalize V4.drew = v5 at hS ⊢
    refine qiz (by kernel_rfl) (fun _ _ _ _ _ h => h) hS [(0, none), (1, none), (2, none), (3, some (.agg G')), (4, some (.agg Cy)), (6, some (.agg G)), (7, some (.agg C)), (9, none)] (l' := #[tt, tt, tt, tt, tt, ff, tt, tt, ff, tt, ff, ff, ff]) (a' := { tmps := #[.agg G, .agg G', .int .u64 d, .int .i64 m, .pointer (some ⟨B, 0, none⟩), .pointer (some ⟨Bv, 0, none⟩), undef, undef, u8, undef, .pointer (some ⟨P, 0, none⟩), .pointer (some ⟨Q, 0, none⟩), .bool true, .int .i64 m, .pointer (some ⟨B, 3, none⟩), .slice (some ⟨b, off, none⟩) n cap, .int .i64 n, .int .i64 k, .bool true, .pointer (some ⟨b, off + k * 51, none⟩), .agg C, .tuple #[.agg Cy, .bool true], .agg G', .pointer (some ⟨P, 0, none⟩), .int .u64 (oat X k).id, .tuple #[.agg Cy, .bool true], .agg Cy, .bool true, .pointer (some ⟨P, 0, none⟩), .int .u64 (oat X k).id, .int .u64 d, .bool true, .int .i64 m, .bool true, .bool false, .bool false, .agg G', .agg Cy, u38, .agg G, .agg C, u41, .int .i64 m, u43, u44, u45, u46], defers := [] }) (obs := [.load 25 Bv 0 (.agg G'), .load 43 Q 0 (.agg Cy), .load 25 B 0 (.agg G), .load 43 P 0 (.agg C)]) (n := 5) (by kernel_rfl) (by kernel_rfl) ⟨qwz (fun _ h => hBv.next h) underlying25 (by kernel_rfl) hzw', qwz (fun _ h => hQ.next h) underlying43 (by kernel_rfl) (qfz hzy), qwz (fun _ h => hB.next h) underlying25 (by kernel_rfl) hzw, qwz (fun _ h => hP.next h) underlying43 (by kernel_rfl) (qfz hz), trivial⟩ ?_
    refine qnz (i := 5) (fuel := 4) (f := 54) (vs := [.agg G', .agg Cy]) (d := some 38) (by kernel_rfl) (by kernel_rfl) (by kernel_rfl) call54 (us1 (btz hk hS) (ob_up (yKz oy hk hS) (btz hk hS))) ?_
    rintro e v6 ⟨rfl, hbv6⟩
    have hSv6 : Below V4.heap.size V4 v6 := btz hS hbv6
    refine ⟨_, rfl, hSv6, ?_⟩
    refine qnz (i := 8) (fuel := 3) (f := 54) (vs := [.agg G, .agg C]) (d := some 41) (by kernel_rfl) (by kernel_rfl) (by kernel_rfl) call54 (us0 (btz hk hSv6) (hC.next (btz hk hSv6))) ?_
    rintro e v7 ⟨rfl, hbv7⟩
    have hSv7 : Below V4.heap.size V4 v7 := btz hSv6 hbv7
    refine ⟨_, rfl, hSv7, ?_⟩
    refine qiz (by kernel_rfl) (fun _ _ _ _ _ h => h) hSv7 [(10, some (.int .i64 uy)), (11, some (.bool false)), (12, none)] (l' := #[tt, tt, tt, tt, tt, tt, tt, tt, tt, tt, tt, tt, tt]) (a' := { tmps := #[.agg G, .agg G', .int .u64 d, .int .i64 m, .pointer (some ⟨B, 0, none⟩), .pointer (some ⟨Bv, 0, none⟩), undef, undef, u8, undef, .pointer (some ⟨P, 0, none⟩), .pointer (some ⟨Q, 0, none⟩), .bool true, .int .i64 m, .pointer (some ⟨B, 3, none⟩), .slice (some ⟨b, off, none⟩) n cap, .int .i64 n, .int .i64 k, .bool true, .pointer (some ⟨b, off + k * 51, none⟩), .agg C, .tuple #[.agg Cy, .bool true], .agg G', .pointer (some ⟨P, 0, none⟩), .int .u64 (oat X k).id, .tuple #[.agg Cy, .bool true], .agg Cy, .bool true, .pointer (some ⟨P, 0, none⟩), .int .u64 (oat X k).id, .int .u64 d, .bool true, .int .i64 m, .bool true, .bool false, .bool false, .agg G', .agg Cy, .int .i64 uy, .agg G, .agg C, .int .i64 ux, .int .i64 m, .int .i64 uy, .bool false, .bool false, u46], defers := [] }) (obs := [.test .add 3 (.tmp 41) (.tmp 42) (.int .i64 ux) (.int .i64 m) (.int .i64 uy), .test .neq 3 (.tmp 38) (.tmp 43) (.int .i64 uy) (.int .i64 uy) (.bool false)]) (n := 0) (by kernel_rfl) (by kernel_rfl) ⟨gFz hwr, qRz (fun _ => wdz _ _ _ _ _ _) qn, trivial⟩ ?_
    refine wpAnyH_done (by kernel_rfl) ?_ _
    replace hB := hB.next hSv7
    replace hBv := hBv.next hSv7
    replace hk := btz hk hSv7
    go_wp2
    go_roundw
    case rel => exact ⟨k + 1, by omega, by go_num, hB, hBv, hk⟩
    case measure => simp [intOf]; omega
   ·rw [if_neg hd] at hc2
    have hdb : ((oat X k).id == d) = false := by simpa using hd
    have hwr : IntKind.i64.wrap (ux + 0) = uy := by rw [IntKind.wrap_i64]; omega
    clear hd
    go_wp2_with (first
     | (with_reducible refine qBz (by kernel_rfl) 43 _ rfl b _ rfl C hr2 _ underlying43 (by kernel_rfl) (qfz hz) ?_)
     | ((with_reducible refine qcz rfl 43 rfl zC qqz ?_); have hx := hP; intro Q W4 hN4 hQa hk4; clear hx)
     | ((with_reducible refine qcz rfl 43 rfl zC qqz ?_); intro P W3 hN3 hPa hk3)
     | ((with_reducible refine qaz rfl _ _ _ rfl P rfl C rfl zC hPa (qfz hz) (qmz.trans hz.symm) h1c ?_); intro V3 hP q3; have hb8 : Below wr.heap.size wr V3 := q3.below wr.heap.size wr (by have := hN3.out; omega) hk3; replace hB := hB.next hb8; replace hBv := hBv.next hb8; replace hk := btz hk hb8; clear hb8; clear hN3 hPa hk3 q3)
     | (with_reducible refine qez (by kernel_rfl) 25 _ rfl Bv rfl G' hBv _ underlying25 (by kernel_rfl) hzw' ?_)
     | (with_reducible refine qbz (by kernel_rfl) _ _ rfl P _ rfl _ _ hP _ i0 isAgg22 ?_)
     | (go_at_call 19; (with_reducible refine (fd1 hk).mono ?_); rintro e w4 ⟨Cy, rfl, oy, hb8⟩; replace hB := hB.next hb8; replace hBv := hBv.next hb8; replace hP := hP.next hb8; replace hk := btz hk hb8; clear hb8; have hzy := oy.size)
     | ((with_reducible refine qaz rfl _ _ _ rfl Q rfl Cy rfl zC hQa (qfz hzy) (qmz.trans hzy.symm) oy.one ?_); intro V4 hQ q4; have hb8 : Below w4.heap.size w4 V4 := q4.below w4.heap.size w4 (by have := hN4.out; omega) hk4; replace oy := yKz oy hk hb8; replace hB := hB.next hb8; replace hBv := hBv.next hb8; replace hP := hP.next hb8; replace hk := btz hk hb8; clear hb8; clear hN4 hQa hk4 q4))
    have qn : Hid (¬ ¬ uy = uy) := fun q => q rfl
    refine PgM.region_out (S := fun W => Below V4.heap.size V4 W) hmx ((Below.refl _ _).drew) (fun hS => ?_)
    generalize V4.drew = v5 at hS ⊢
    refine qiz (by kernel_rfl) (fun _ _ _ _ _ h => h) hS [(0, none), (1, none), (2, none), (3, some (.agg G')), (4, some (.agg Cy)), (6, some (.agg G)), (7, some (.agg C)), (9, none)] (l' := #[tt, tt, tt, tt, tt, ff, tt, tt, ff, tt, ff, ff, ff]) (a' := { tmps := #[.agg G, .agg G', .int .u64 d, .int .i64 m, .pointer (some ⟨B, 0, none⟩), .pointer (some ⟨Bv, 0, none⟩), undef, undef, u8, undef, .pointer (some ⟨P, 0, none⟩), .pointer (some ⟨Q, 0, none⟩), .bool true, .int .i64 0, .pointer (some ⟨B, 3, none⟩), .slice (some ⟨b, off, none⟩) n cap, .int .i64 n, .int .i64 k, .bool true, .pointer (some ⟨b, off + k * 51, none⟩), .agg C, .tuple #[.agg Cy, .bool true], .agg G', .pointer (some ⟨P, 0, none⟩), .int .u64 (oat X k).id, .tuple #[.agg Cy, .bool true], .agg Cy, .bool true, .pointer (some ⟨P, 0, none⟩), .int .u64 (oat X k).id, .int .u64 d, .bool false, u32, .bool true, .bool false, .bool false, .agg G', .agg Cy, u38, .agg G, .agg C, u41, .int .i64 0, u43, u44, u45, u46], defers := [] }) (obs := [.load 25 Bv 0 (.agg G'), .load 43 Q 0 (.agg Cy), .load 25 B 0 (.agg G), .load 43 P 0 (.agg C)]) (n := 5) (by kernel_rfl) (by kernel_rfl) ⟨qwz (fun _ h => hBv.next h) underlying25 (by kernel_rfl) hzw', qwz (fun _ h => hQ.next h) underlying43 (by kernel_rfl) (qfz hzy), qwz (fun _ h => hB.next h) underlying25 (by kernel_rfl) hzw, qwz (fun _ h => hP.next h) underlying43 (by kernel_rfl) (qfz hz), trivial⟩ ?_
    refine qnz (i := 5) (fuel := 4) (f := 54) (vs := [.agg G', .agg Cy]) (d := some 38) (by kernel_rfl) (by kernel_rfl) (by kernel_rfl) call54 (us1 (btz hk hS) (ob_up (yKz oy hk hS) (btz hk hS))) ?_
    rintro e v6 ⟨rfl, hbv6⟩
    have hSv6 : Below V4.heap.size V4 v6 := btz hS hbv6
    refine ⟨_, rfl, hSv6, ?_⟩
    refine qnz (i := 8) (fuel := 3) (f := 54) (vs := [.agg G, .agg C]) (d := some 41) (by kernel_rfl) (by kernel_rfl) (by kernel_rfl) call54 (us0 (btz hk hSv6) (hC.next (btz hk hSv6))) ?_
    rintro e v7 ⟨rfl, hbv7⟩
    have hSv7 : Below V4.heap.size V4 v7 := btz hSv6 hbv7
    refine ⟨_, rfl, hSv7, ?_⟩
    refine qiz (by kernel_rfl) (fun _ _ _ _ _ h => h) hSv7 [(10, some (.int .i64 uy)), (11, some (.bool false)), (12, none)] (l' := #[tt, tt, tt, tt, tt, tt, tt, tt, tt, tt, tt, tt, tt]) (a' := { tmps := #[.agg G, .agg G', .int .u64 d, .int .i64 m, .pointer (some ⟨B, 0, none⟩), .pointer (some ⟨Bv, 0, none⟩), undef, undef, u8, undef, .pointer (some ⟨P, 0, none⟩), .pointer (some ⟨Q, 0, none⟩), .bool true, .int .i64 0, .pointer (some ⟨B, 3, none⟩), .slice (some ⟨b, off, none⟩) n cap, .int .i64 n, .int .i64 k, .bool true, .pointer (some ⟨b, off + k * 51, none⟩), .agg C, .tuple #[.agg Cy, .bool true], .agg G', .pointer (some ⟨P, 0, none⟩), .int .u64 (oat X k).id, .tuple #[.agg Cy, .bool true], .agg Cy, .bool true, .pointer (some ⟨P, 0, none⟩), .int .u64 (oat X k).id, .int .u64 d, .bool false, u32, .bool true, .bool false, .bool false, .agg G', .agg Cy, .int .i64 uy, .agg G, .agg C, .int .i64 ux, .int .i64 0, .int .i64 uy, .bool false, .bool false, u46], defers := [] }) (obs := [.test .add 3 (.tmp 41) (.tmp 42) (.int .i64 ux) (.int .i64 0) (.int .i64 uy), .test .neq 3 (.tmp 38) (.tmp 43) (.int .i64 uy) (.int .i64 uy) (.bool false)]) (n := 0) (by kernel_rfl) (by kernel_rfl) ⟨gFz hwr, qRz (fun _ => wdz _ _ _ _ _ _) qn, trivial⟩ ?_
    refine wpAnyH_done (by kernel_rfl) ?_ _
    replace hB := hB.next hSv7
    replace hBv := hBv.next hSv7
    replace hk := btz hk hSv7
    go_wp2
    go_roundw
    case rel => exact ⟨k + 1, by omega, by go_num, hB, hBv, hk⟩
    case measure => simp [intOf]; omega
  ·obtain rfl : k = n := by omega
   go_wp2
   go_ret
   exact ⟨rfl, hk⟩
end
section
open Go.RowKit Go.Shelf
theorem mov_quo {X : List Ob} {i j m : Int} (h : movE X i j m = 0) : -4096 ≤ m ∧ m ≤ 4096 := by
 unfold movE at h
 by_cases h1 : ((fnd X i).isSome && (fnd X j).isSome) = false
 ·rw [if_pos h1] at h; omega
 ·rw [if_neg h1] at h
  by_cases h2 : ¬ j ∈ (fO X i).links
  ·rw [if_pos h2] at h; omega
  ·rw [if_neg h2] at h
   by_cases h3 : (fO X j).fixed = true
   ·rw [if_pos h3] at h; omega
   ·rw [if_neg h3] at h
    by_cases h4 : m < -4096 ∨ 4096 < m
    ·rw [if_pos h4] at h; omega
    ·omega
def Wr (W : World) (V : Array Value) (t ke ro : Int) (X : List Ob) : Prop := ∃ ao n cap, V = #[.int .i64 t, .int .u64 ke, .int .u64 ro, .slice ao n cap] ∧ Obs W ao n cap X
section
variable {W W' : World} {V : Array Value} {t ke ro : Int} {X : List Ob}
theorem Wr.next (h : Wr W V t ke ro X) (k : Below W.heap.size W W') : Wr W' V t ke ro X := by
 obtain ⟨ao, n, cap, e, h⟩ := h
 exact ⟨ao, n, cap, e, qzz h k⟩
theorem Wr.size (h : Wr W V t ke ro X) : (prog.info? 25).map (·.size) = some V.size := by
 obtain ⟨ao, n, cap, rfl, _⟩ := h
 exact wfz
theorem Wr.old (h : Wr W V t ke ro X) : zW.size = V.size := by
 obtain ⟨ao, n, cap, rfl, _⟩ := h
 rfl
theorem Wr.one (h : Wr W V t ke ro X) : V.all (·.oneCell') = true := by
 obtain ⟨ao, n, cap, rfl, _⟩ := h
 kernel_rfl
theorem attach_r (h : Wr W V t ke ro X) (hL : Lays X) (hl : X.length < 1022) {Co : Array Value} {o : Ob} (ho : ObD (LtN W) W Co o) (hos : Small o) (hol : o.label.length < 1048576) {i : Int} :
  Calls prog 10 #[.agg V, .int .u64 i, .agg Co] W fun e w' => ∃ V', e = .returned (.tuple #[.agg V', .int .i64 (attE X i o)]) ∧ Wr w' V' t ke ro (attX X i o) ∧ Below W.heap.size W w' := by
 obtain ⟨ao, n, cap, rfl, h⟩ := h
 obtain ⟨Cf, hF⟩ := h.fam
 refine (juz (D0 := LtN W) (fun _ hb => hb) hF hL (by rw [← h.1]; exact hl) ho hos hol).mono ?_
 rintro e w' ⟨a, m, c, rfl, hO, hk⟩
 exact ⟨_, rfl, ⟨a, m, c, rfl, uRz hO hk⟩, hk⟩
theorem link_r (h : Wr W V t ke ro X) (hL : Lays X) (hl : X.length < 1022) {i j : Int} :
  Calls prog 12 #[.agg V, .int .u64 i, .int .u64 j] W fun e w' => ∃ V', e = .returned (.tuple #[.agg V', .int .i64 (linE X i j)]) ∧ Wr w' V' t ke ro (linX X i j) ∧ Below W.heap.size W w' := by
 obtain ⟨ao, n, cap, rfl, h⟩ := h
 obtain ⟨Cf, hF⟩ := h.fam
 refine (link_v (D0 := LtN W) (fun _ hb => hb) hF hL (by rw [← h.1]; exact hl)).mono ?_
 rintro e w' ⟨a, m, c, rfl, hO, hk⟩
 exact ⟨_, rfl, ⟨a, m, c, rfl, uRz hO hk⟩, hk⟩
theorem move_r (h : Wr W V t ke ro X) (hL : Lays X) (hl : X.length < 1022) {i j m : Int} :
  Calls prog 16 #[.agg V, .int .u64 i, .int .u64 j, .int .i64 m] W fun e w' => ∃ V', e = .returned (.tuple #[.agg V', .int .i64 (movE X i j m)]) ∧ Wr w' V' t ke ro (movX X i j m) ∧ Below W.heap.size W w' := by
 obtain ⟨ao, n, cap, rfl, h⟩ := h
 obtain ⟨Cf, hF⟩ := h.fam
 refine (move_v (D0 := LtN W) (fun _ hb => hb) hF hL (by rw [← h.1]; exact hl)).mono ?_
 rintro e w' ⟨a, m, c, rfl, hO, hk⟩
 exact ⟨_, rfl, ⟨a, m, c, rfl, uRz hO hk⟩, hk⟩
theorem gcz (h : Wr W V t ke ro X) (hl : X.length ≤ 4096) {i : Int} : Calls prog 21 #[.agg V, .int .u64 i] W fun e w' => ∃ ao cap, e = .returned (.slice ao (holL X i).length cap) ∧ CtD (LtN w') w' ao (holL X i).length cap (holL X i) ∧ Below W.heap.size W w' := by
 obtain ⟨ao, n, cap, rfl, h⟩ := h
 refine (gbz h (by rw [← h.1]; exact hl)).mono ?_
 rintro e w' ⟨v, rfl, ho, hk⟩
 obtain ⟨a, c, rfl, hr⟩ := RowC.of_owns ho
 exact ⟨a, c, rfl, hr.ct.wide fun b hb => hb.2, hk⟩
theorem uAz (h : Wr W V t ke ro X) {i : Int} : Calls prog 19 #[.agg V, .int .u64 i] W fun e w' => ∃ C', e = .returned (.tuple #[.agg C', .bool (fnd X i).isSome]) ∧ ObD (LtN w') w' C' (fO X i) ∧ Below W.heap.size W w' := by
 obtain ⟨ao, n, cap, rfl, h⟩ := h
 exact rfind_u h
theorem kuz {V' : Array Value} {t' ke' ro' d m : Int} {Y : List Ob} (h : Wr W V t ke ro X) (h' : Wr W V' t' ke' ro' Y) (hL : Lays X) (hl : X.length ≤ 4000) (hc : Chd X Y d m) : Calls prog 22 #[.agg V, .agg V', .int .u64 d, .int .i64 m] W fun e w' => e = .returned (.bool true) ∧ Below W.heap.size W w' := by
 obtain ⟨ao, n, cap, rfl, h⟩ := h
 obtain ⟨ao', n', cap', rfl, h'⟩ := h'
 exact vIz h h' hL.srt hc.srt (by rw [← h.1]; omega) (by have := hc.len; rw [← h'.1]; omega) hL.quo hc.quo hL.sms hc.sms hc.ch
end
end
end Go.Proofs.YtklnneiblmakmaaGreat
