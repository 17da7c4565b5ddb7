/-
 PROVED HERE: what package obj's sameThread returns when it is called (contracts over this translation); what the document's. What is asked stands at each.
-/
import Derived.Test.YtlaagheeemkklaaZ10
import Derived.Test.YtlaagheeemkklaaZ11
namespace Go.Proofs.Ytlaagheeemkklaa
set_option maxRecDepth 100000
set_option maxHeartbeats 8000000
open Go.RowKit Go.Shelf
set_option linter.unusedVariables false
attribute [local go_sem] Oper.semAt_some
theorem slice4 {S : World → Prop} (B o : Nat) : Obl.holds Try.prog S (.sl 34 (.pointer (some ⟨B, o, none⟩)) none none none (.slice (some ⟨B, o, none⟩) 4 4)) := fun w hS => by
 go_simp
def TwoT (W : World) (B B' : Nat) (T T' : Array Value) : Prop := Blk W B T 36 ∧ Blk W B' T' 36 ∧ True
theorem TwoT.next {W W' : World} {B B' : Nat} {T T' : Array Value} (h : TwoT W B B' T T') (k : Below W.heap.size W W') : TwoT W' B B' T T' := ⟨h.1.next k, h.2.1.next k, trivial⟩
theorem sameThread_any {w : World} {T T' : Array Value} {t t' : Th} (h : ThD (LtN w) w T t) (h' : ThD (LtN w) w T' t') :
  Asks 68 #[.agg T, .agg T'] (t = t') w := by
 have hmx : Try.prog.follows .mixedOrders = true := by kernel_rfl
 have hz := h.size
 have hz' := h'.size
 obtain ⟨a17, n17, k17, c17, l17⟩ := h.f.clear
 obtain ⟨a28, n28, k28, c28, l28⟩ := h.f.alerts
 have x0 := ext_regs h
 have r0 := h.f.rlen
 have x18 := ext2 h.f.sc h.f.si
 have x29 := ext2 h.f.lo h.f.hi
 have x23 := ext5 h.f.wc h.f.wi h.f.wx h.f.wv h.f.wd
 have c16 := h.f.pc
 have c20 := h.f.handler
 have c21 := h.f.vector
 have c22 := h.f.state
 obtain ⟨a17', n17', k17', c17', l17'⟩ := h'.f.clear
 obtain ⟨a28', n28', k28', c28', l28'⟩ := h'.f.alerts
 have x0' := ext_regs h'
 have r0' := h'.f.rlen
 have x18' := ext2 h'.f.sc h'.f.si
 have x29' := ext2 h'.f.lo h'.f.hi
 have x23' := ext5 h'.f.wc h'.f.wi h'.f.wx h'.f.wv h'.f.wd
 have c16' := h'.f.pc
 have c20' := h'.f.handler
 have c21' := h'.f.vector
 have c22' := h'.f.state
 have ga0 := Try.isAgg24
 have ga1 := Try.isAgg22
 have ga2 := Try.isAgg3
 have ga3 := Try.isAgg4
 have ga4 := Try.isAgg25
 have ga5 := Try.isAgg26
 unfold Asks
 go_enter Try.func68, Try.ntmps68
 simp only [List.append]
 go_wp2_with (first
  | go_skip
  | (with_reducible refine wpList_box rfl _ _ rfl T rfl ?_; intro B W hB hb hk)
  | (with_reducible refine wpList_box rfl _ _ rfl T' rfl ?_; intro B' W' hB' hb' hk'; replace hb := hb.next hk'; replace hk := hk.trans (hk'.mono hk.size); clear hk'))
 refine region_txt (S := fun W => TwoT W B B' T T') hmx (txt_of (by kernel_rfl) rfl (by kernel_rfl)) (TwoT.next ⟨hb, hb', trivial⟩ (Below.refl _ _).drew) (fun hT hS => ?_)
 replace hk := hk.trans ((Below.refl _ W').drew.mono hk.size)
 generalize W'.drew = W3 at hS hk ⊢
 clear hb hb' hB hB'
 refine wpAnyH_txt hT (fun _ _ _ _ _ h => h) hS [none, some (.agg (t.regs.map (Value.int .u64)).toArray), none, some (.agg (t'.regs.map (Value.int .u64)).toArray)] 0 (a' := { tmps := #[.agg T, .agg T', pt B 0, pt B' 0, .bool false, pt B 0, .agg (t.regs.map (Value.int .u64)).toArray, pt B' 0, .agg (t'.regs.map (Value.int .u64)).toArray, ud, ud, ud, ud, ud, ud, ud, ud, ud, ud, ud, ud, ud, ud, ud, ud, ud, ud, ud, ud, ud, ud, ud, ud, ud, ud, ud, ud, ud, ud, ud, ud, ud, ud, ud, ud, ud, ud, ud, ud, ud, ud, ud, ud, ud, ud, ud, ud, ud, ud, ud, ud, ud, ud, ud, ud, ud, ud, ud, ud, ud, ud, ud, ud, ud, ud, ud, ud, ud, ud, ud], defers := [] }) (obs := [.load 27 (B) (0) (.agg (t.regs.map (Value.int .u64)).toArray), .load 27 (B') (0) (.agg (t'.regs.map (Value.int .u64)).toArray)]) (n := 72) (by kernel_rfl) (by kernel_rfl) ⟨ob_loadp 16 (fun _ h => h.1) x0 (by omega) Try.underlying27 (by kernel_rfl) size27, ob_loadp 16 (fun _ h => h.2.1) x0' (by omega) Try.underlying27 (by kernel_rfl) size27, trivial⟩ ?_
 by_cases q0 : t.regs = t'.regs
 ·replace q0 : Hid (t.regs = t'.regs) := q0
  refine wpAnyH_txt hT (fun _ _ _ _ _ h => h) hS [some (.bool true), none, none, some (.int .u64 t.pc), none, some (.int .u64 t'.pc)] 4 (a' := { tmps := #[.agg T, .agg T', pt B 0, pt B' 0, .bool false, pt B 0, .agg (t.regs.map (Value.int .u64)).toArray, pt B' 0, .agg (t'.regs.map (Value.int .u64)).toArray, .bool true, .bool true, pt B 16, .int .u64 t.pc, pt B' 16, .int .u64 t'.pc, ud, ud, ud, ud, ud, ud, ud, ud, ud, ud, ud, ud, ud, ud, ud, ud, ud, ud, ud, ud, ud, ud, ud, ud, ud, ud, ud, ud, ud, ud, ud, ud, ud, ud, ud, ud, ud, ud, ud, ud, ud, ud, ud, ud, ud, ud, ud, ud, ud, ud, ud, ud, ud, ud, ud, ud, ud, ud, ud, ud, ud, ud, ud, ud, ud], defers := [] }) (obs := [.test .eql 27 (.tmp 6) (.tmp 8) (.agg (t.regs.map (Value.int .u64)).toArray) (.agg (t'.regs.map (Value.int .u64)).toArray) (.bool true), .load 22 (B) (16) (.int .u64 t.pc), .load 22 (B') (16) (.int .u64 t'.pc)]) (n := 66) (by kernel_rfl) (by kernel_rfl) ⟨ob_yes (fun _ => eqg_regs _ _ _ _ r0 r0') q0, ob_load1 (fun _ h => h.1) c16 ga1, ob_load1 (fun _ h => h.2.1) c16' ga1, trivial⟩ ?_
  by_cases q1 : t.pc = t'.pc
  ·replace q1 : Hid (t.pc = t'.pc) := q1
   refine wpAnyH_txt hT (fun _ _ _ _ _ h => h) hS [some (.bool true), none, none, none, some (.slice a17 n17 k17), none, some (.slice a17' n17' k17')] 10 (a' := { tmps := #[.agg T, .agg T', pt B 0, pt B' 0, .bool false, pt B 0, .agg (t.regs.map (Value.int .u64)).toArray, pt B' 0, .agg (t'.regs.map (Value.int .u64)).toArray, .bool true, .bool true, pt B 16, .int .u64 t.pc, pt B' 16, .int .u64 t'.pc, .bool true, .bool true, .bool true, pt B 17, .slice a17 n17 k17, pt B' 17, .slice a17' n17' k17', ud, ud, ud, ud, ud, ud, ud, ud, ud, ud, ud, ud, ud, ud, ud, ud, ud, ud, ud, ud, ud, ud, ud, ud, ud, ud, ud, ud, ud, ud, ud, ud, ud, ud, ud, ud, ud, ud, ud, ud, ud, ud, ud, ud, ud, ud, ud, ud, ud, ud, ud, ud, ud, ud, ud, ud, ud, ud], defers := [] }) (obs := [.test .eql 22 (.tmp 12) (.tmp 14) (.int .u64 t.pc) (.int .u64 t'.pc) (.bool true), .load 24 (B) (17) (.slice a17 n17 k17), .load 24 (B') (17) (.slice a17' n17' k17')]) (n := 59) (by kernel_rfl) (by kernel_rfl) ⟨ob_yes (fun _ => eqg_int _ _ _ _ _ _) q1, ob_load1 (fun _ h => h.1) c17 ga0, ob_load1 (fun _ h => h.2.1) c17' ga0, trivial⟩ ?_
   refine wpAnyH_askT (i := 17) (fuel := 58) (f := 65) (vs := [.slice a17 n17 k17, .slice a17' n17' k17']) (d := some 22) (by kernel_rfl) (by kernel_rfl) (by kernel_rfl) Try.call65 (eqL l17 l17' hk) (fun _ hb => TwoT.next hS hb) ?_ ?_
   ·intro w2 q2 hb1 hS; replace hk := hk.trans (hb1.mono hk.size); clear hb1
    refine wpAnyH_txt hT (fun _ _ _ _ _ h => h) hS [none, none, none, some (.agg #[.int .u64 t.sc, .int .u64 t.si]), none, some (.agg #[.int .u64 t'.sc, .int .u64 t'.si])] 18 (a' := { tmps := #[.agg T, .agg T', pt B 0, pt B' 0, .bool false, pt B 0, .agg (t.regs.map (Value.int .u64)).toArray, pt B' 0, .agg (t'.regs.map (Value.int .u64)).toArray, .bool true, .bool true, pt B 16, .int .u64 t.pc, pt B' 16, .int .u64 t'.pc, .bool true, .bool true, .bool true, pt B 17, .slice a17 n17 k17, pt B' 17, .slice a17' n17' k17', .bool true, .bool true, .bool true, pt B 18, .agg #[.int .u64 t.sc, .int .u64 t.si], pt B' 18, .agg #[.int .u64 t'.sc, .int .u64 t'.si], ud, ud, ud, ud, ud, ud, ud, ud, ud, ud, ud, ud, ud, ud, ud, ud, ud, ud, ud, ud, ud, ud, ud, ud, ud, ud, ud, ud, ud, ud, ud, ud, ud, ud, ud, ud, ud, ud, ud, ud, ud, ud, ud, ud, ud, ud, ud, ud, ud, ud, ud], defers := [] }) (obs := [.load 29 (B) (18) (.agg #[.int .u64 t.sc, .int .u64 t.si]), .load 29 (B') (18) (.agg #[.int .u64 t'.sc, .int .u64 t'.si])]) (n := 52) (by kernel_rfl) (by kernel_rfl) ⟨ob_loadp 2 (fun _ h => h.1) x18 (by omega) Try.underlying29 (by kernel_rfl) size29, ob_loadp 2 (fun _ h => h.2.1) x18' (by omega) Try.underlying29 (by kernel_rfl) size29, trivial⟩ ?_
    by_cases q3 : (t.sc = t'.sc ∧ t.si = t'.si)
    ·replace q3 : Hid ((t.sc = t'.sc ∧ t.si = t'.si)) := q3
     refine wpAnyH_txt hT (fun _ _ _ _ _ h => h) hS [some (.bool true), none, none, none, some (.int .u64 t.handler), none, some (.int .u64 t'.handler)] 24 (a' := { tmps := #[.agg T, .agg T', pt B 0, pt B' 0, .bool false, pt B 0, .agg (t.regs.map (Value.int .u64)).toArray, pt B' 0, .agg (t'.regs.map (Value.int .u64)).toArray, .bool true, .bool true, pt B 16, .int .u64 t.pc, pt B' 16, .int .u64 t'.pc, .bool true, .bool true, .bool true, pt B 17, .slice a17 n17 k17, pt B' 17, .slice a17' n17' k17', .bool true, .bool true, .bool true, pt B 18, .agg #[.int .u64 t.sc, .int .u64 t.si], pt B' 18, .agg #[.int .u64 t'.sc, .int .u64 t'.si], .bool true, .bool true, .bool true, pt B 20, .int .u64 t.handler, pt B' 20, .int .u64 t'.handler, ud, ud, ud, ud, ud, ud, ud, ud, ud, ud, ud, ud, ud, ud, ud, ud, ud, ud, ud, ud, ud, ud, ud, ud, ud, ud, ud, ud, ud, ud, ud, ud, ud, ud, ud, ud, ud, ud, ud, ud, ud, ud, ud, ud], defers := [] }) (obs := [.test .eql 29 (.tmp 26) (.tmp 28) (.agg #[.int .u64 t.sc, .int .u64 t.si]) (.agg #[.int .u64 t'.sc, .int .u64 t'.si]) (.bool true), .load 22 (B) (20) (.int .u64 t.handler), .load 22 (B') (20) (.int .u64 t'.handler)]) (n := 45) (by kernel_rfl) (by kernel_rfl) ⟨ob_yes (fun _ => eqg_ref _ _ _ _ _ _) q3, ob_load1 (fun _ h => h.1) c20 ga1, ob_load1 (fun _ h => h.2.1) c20' ga1, trivial⟩ ?_
     by_cases q4 : t.handler = t'.handler
     ·replace q4 : Hid (t.handler = t'.handler) := q4
      refine wpAnyH_txt hT (fun _ _ _ _ _ h => h) hS [some (.bool true), none, none, none, some (.int .u64 t.vector), none, some (.int .u64 t'.vector)] 31 (a' := { tmps := #[.agg T, .agg T', pt B 0, pt B' 0, .bool false, pt B 0, .agg (t.regs.map (Value.int .u64)).toArray, pt B' 0, .agg (t'.regs.map (Value.int .u64)).toArray, .bool true, .bool true, pt B 16, .int .u64 t.pc, pt B' 16, .int .u64 t'.pc, .bool true, .bool true, .bool true, pt B 17, .slice a17 n17 k17, pt B' 17, .slice a17' n17' k17', .bool true, .bool true, .bool true, pt B 18, .agg #[.int .u64 t.sc, .int .u64 t.si], pt B' 18, .agg #[.int .u64 t'.sc, .int .u64 t'.si], .bool true, .bool true, .bool true, pt B 20, .int .u64 t.handler, pt B' 20, .int .u64 t'.handler, .bool true, .bool true, .bool true, pt B 21, .int .u64 t.vector, pt B' 21, .int .u64 t'.vector, ud, ud, ud, ud, ud, ud, ud, ud, ud, ud, ud, ud, ud, ud, ud, ud, ud, ud, ud, ud, ud, ud, ud, ud, ud, ud, ud, ud, ud, ud, ud, ud, ud, ud, ud, ud, ud], defers := [] }) (obs := [.test .eql 22 (.tmp 33) (.tmp 35) (.int .u64 t.handler) (.int .u64 t'.handler) (.bool true), .load 22 (B) (21) (.int .u64 t.vector), .load 22 (B') (21) (.int .u64 t'.vector)]) (n := 38) (by kernel_rfl) (by kernel_rfl) ⟨ob_yes (fun _ => eqg_int _ _ _ _ _ _) q4, ob_load1 (fun _ h => h.1) c21 ga1, ob_load1 (fun _ h => h.2.1) c21' ga1, trivial⟩ ?_
      by_cases q5 : t.vector = t'.vector
      ·replace q5 : Hid (t.vector = t'.vector) := q5
       refine wpAnyH_txt hT (fun _ _ _ _ _ h => h) hS [some (.bool true), none, none, none, some (.int .i64 t.state), none, some (.int .i64 t'.state)] 38 (a' := { tmps := #[.agg T, .agg T', pt B 0, pt B' 0, .bool false, pt B 0, .agg (t.regs.map (Value.int .u64)).toArray, pt B' 0, .agg (t'.regs.map (Value.int .u64)).toArray, .bool true, .bool true, pt B 16, .int .u64 t.pc, pt B' 16, .int .u64 t'.pc, .bool true, .bool true, .bool true, pt B 17, .slice a17 n17 k17, pt B' 17, .slice a17' n17' k17', .bool true, .bool true, .bool true, pt B 18, .agg #[.int .u64 t.sc, .int .u64 t.si], pt B' 18, .agg #[.int .u64 t'.sc, .int .u64 t'.si], .bool true, .bool true, .bool true, pt B 20, .int .u64 t.handler, pt B' 20, .int .u64 t'.handler, .bool true, .bool true, .bool true, pt B 21, .int .u64 t.vector, pt B' 21, .int .u64 t'.vector, .bool true, .bool true, .bool true, pt B 22, .int .i64 t.state, pt B' 22, .int .i64 t'.state, ud, ud, ud, ud, ud, ud, ud, ud, ud, ud, ud, ud, ud, ud, ud, ud, ud, ud, ud, ud, ud, ud, ud, ud, ud, ud, ud, ud, ud, ud], defers := [] }) (obs := [.test .eql 22 (.tmp 40) (.tmp 42) (.int .u64 t.vector) (.int .u64 t'.vector) (.bool true), .load 3 (B) (22) (.int .i64 t.state), .load 3 (B') (22) (.int .i64 t'.state)]) (n := 31) (by kernel_rfl) (by kernel_rfl) ⟨ob_yes (fun _ => eqg_int _ _ _ _ _ _) q5, ob_load1 (fun _ h => h.1) c22 ga2, ob_load1 (fun _ h => h.2.1) c22' ga2, trivial⟩ ?_
       by_cases q6 : t.state = t'.state
       ·replace q6 : Hid (t.state = t'.state) := q6
        refine wpAnyH_txt hT (fun _ _ _ _ _ h => h) hS [some (.bool true), none, none, none, some (.agg #[.int .u64 t.wc, .int .u64 t.wi, .int .u64 t.wx, .int .u64 t.wv, .bool t.wd]), none, some (.agg #[.int .u64 t'.wc, .int .u64 t'.wi, .int .u64 t'.wx, .int .u64 t'.wv, .bool t'.wd])] 45 (a' := { tmps := #[.agg T, .agg T', pt B 0, pt B' 0, .bool false, pt B 0, .agg (t.regs.map (Value.int .u64)).toArray, pt B' 0, .agg (t'.regs.map (Value.int .u64)).toArray, .bool true, .bool true, pt B 16, .int .u64 t.pc, pt B' 16, .int .u64 t'.pc, .bool true, .bool true, .bool true, pt B 17, .slice a17 n17 k17, pt B' 17, .slice a17' n17' k17', .bool true, .bool true, .bool true, pt B 18, .agg #[.int .u64 t.sc, .int .u64 t.si], pt B' 18, .agg #[.int .u64 t'.sc, .int .u64 t'.si], .bool true, .bool true, .bool true, pt B 20, .int .u64 t.handler, pt B' 20, .int .u64 t'.handler, .bool true, .bool true, .bool true, pt B 21, .int .u64 t.vector, pt B' 21, .int .u64 t'.vector, .bool true, .bool true, .bool true, pt B 22, .int .i64 t.state, pt B' 22, .int .i64 t'.state, .bool true, .bool true, .bool true, pt B 23, .agg #[.int .u64 t.wc, .int .u64 t.wi, .int .u64 t.wx, .int .u64 t.wv, .bool t.wd], pt B' 23, .agg #[.int .u64 t'.wc, .int .u64 t'.wi, .int .u64 t'.wx, .int .u64 t'.wv, .bool t'.wd], ud, ud, ud, ud, ud, ud, ud, ud, ud, ud, ud, ud, ud, ud, ud, ud, ud, ud, ud, ud, ud, ud, ud], defers := [] }) (obs := [.test .eql 3 (.tmp 47) (.tmp 49) (.int .i64 t.state) (.int .i64 t'.state) (.bool true), .load 31 (B) (23) (.agg #[.int .u64 t.wc, .int .u64 t.wi, .int .u64 t.wx, .int .u64 t.wv, .bool t.wd]), .load 31 (B') (23) (.agg #[.int .u64 t'.wc, .int .u64 t'.wi, .int .u64 t'.wx, .int .u64 t'.wv, .bool t'.wd])]) (n := 24) (by kernel_rfl) (by kernel_rfl) ⟨ob_yes (fun _ => eqg_int _ _ _ _ _ _) q6, ob_loadp 5 (fun _ h => h.1) x23 (by omega) Try.underlying31 (by kernel_rfl) size31, ob_loadp 5 (fun _ h => h.2.1) x23' (by omega) Try.underlying31 (by kernel_rfl) size31, trivial⟩ ?_
        by_cases q7 : (t.wc = t'.wc ∧ t.wi = t'.wi ∧ t.wx = t'.wx ∧ t.wv = t'.wv ∧ t.wd = t'.wd)
        ·replace q7 : Hid ((t.wc = t'.wc ∧ t.wi = t'.wi ∧ t.wx = t'.wx ∧ t.wv = t'.wv ∧ t.wd = t'.wd)) := q7
         refine wpAnyH_txt hT (fun _ _ _ _ _ h => h) hS [some (.bool true), none, none, none, some (.slice a28 n28 k28), none, some (.slice a28' n28' k28')] 52 (a' := { tmps := #[.agg T, .agg T', pt B 0, pt B' 0, .bool false, pt B 0, .agg (t.regs.map (Value.int .u64)).toArray, pt B' 0, .agg (t'.regs.map (Value.int .u64)).toArray, .bool true, .bool true, pt B 16, .int .u64 t.pc, pt B' 16, .int .u64 t'.pc, .bool true, .bool true, .bool true, pt B 17, .slice a17 n17 k17, pt B' 17, .slice a17' n17' k17', .bool true, .bool true, .bool true, pt B 18, .agg #[.int .u64 t.sc, .int .u64 t.si], pt B' 18, .agg #[.int .u64 t'.sc, .int .u64 t'.si], .bool true, .bool true, .bool true, pt B 20, .int .u64 t.handler, pt B' 20, .int .u64 t'.handler, .bool true, .bool true, .bool true, pt B 21, .int .u64 t.vector, pt B' 21, .int .u64 t'.vector, .bool true, .bool true, .bool true, pt B 22, .int .i64 t.state, pt B' 22, .int .i64 t'.state, .bool true, .bool true, .bool true, pt B 23, .agg #[.int .u64 t.wc, .int .u64 t.wi, .int .u64 t.wx, .int .u64 t.wv, .bool t.wd], pt B' 23, .agg #[.int .u64 t'.wc, .int .u64 t'.wi, .int .u64 t'.wx, .int .u64 t'.wv, .bool t'.wd], .bool true, .bool true, .bool true, pt B 28, .slice a28 n28 k28, pt B' 28, .slice a28' n28' k28', ud, ud, ud, ud, ud, ud, ud, ud, ud, ud, ud, ud, ud, ud, ud, ud], defers := [] }) (obs := [.test .eql 31 (.tmp 54) (.tmp 56) (.agg #[.int .u64 t.wc, .int .u64 t.wi, .int .u64 t.wx, .int .u64 t.wv, .bool t.wd]) (.agg #[.int .u64 t'.wc, .int .u64 t'.wi, .int .u64 t'.wx, .int .u64 t'.wv, .bool t'.wd]) (.bool true), .load 25 (B) (28) (.slice a28 n28 k28), .load 25 (B') (28) (.slice a28' n28' k28')]) (n := 17) (by kernel_rfl) (by kernel_rfl) ⟨ob_yes (fun _ => eqg_wait _ _ _ _ _ _ _ _ _ _ _ _) q7, ob_load1 (fun _ h => h.1) c28 ga4, ob_load1 (fun _ h => h.2.1) c28' ga4, trivial⟩ ?_
         refine wpAnyH_askT (i := 59) (fuel := 16) (f := 66) (vs := [.slice a28 n28 k28, .slice a28' n28' k28']) (d := some 64) (by kernel_rfl) (by kernel_rfl) (by kernel_rfl) Try.call66 (eqU l28 l28' hk) (fun _ hb => TwoT.next hS hb) ?_ ?_
         ·intro w8 q8 hb1 hS; replace hk := hk.trans (hb1.mono hk.size); clear hb1
          refine wpAnyH_txt hT (fun _ _ _ _ _ h => h) hS [none, none, none, some (.agg #[.int .u64 t.lo, .int .u64 t.hi]), none, some (.agg #[.int .u64 t'.lo, .int .u64 t'.hi])] 60 (a' := { tmps := #[.agg T, .agg T', pt B 0, pt B' 0, .bool false, pt B 0, .agg (t.regs.map (Value.int .u64)).toArray, pt B' 0, .agg (t'.regs.map (Value.int .u64)).toArray, .bool true, .bool true, pt B 16, .int .u64 t.pc, pt B' 16, .int .u64 t'.pc, .bool true, .bool true, .bool true, pt B 17, .slice a17 n17 k17, pt B' 17, .slice a17' n17' k17', .bool true, .bool true, .bool true, pt B 18, .agg #[.int .u64 t.sc, .int .u64 t.si], pt B' 18, .agg #[.int .u64 t'.sc, .int .u64 t'.si], .bool true, .bool true, .bool true, pt B 20, .int .u64 t.handler, pt B' 20, .int .u64 t'.handler, .bool true, .bool true, .bool true, pt B 21, .int .u64 t.vector, pt B' 21, .int .u64 t'.vector, .bool true, .bool true, .bool true, pt B 22, .int .i64 t.state, pt B' 22, .int .i64 t'.state, .bool true, .bool true, .bool true, pt B 23, .agg #[.int .u64 t.wc, .int .u64 t.wi, .int .u64 t.wx, .int .u64 t.wv, .bool t.wd], pt B' 23, .agg #[.int .u64 t'.wc, .int .u64 t'.wi, .int .u64 t'.wx, .int .u64 t'.wv, .bool t'.wd], .bool true, .bool true, .bool true, pt B 28, .slice a28 n28 k28, pt B' 28, .slice a28' n28' k28', .bool true, .bool true, .bool true, pt B 29, .agg #[.int .u64 t.lo, .int .u64 t.hi], pt B' 29, .agg #[.int .u64 t'.lo, .int .u64 t'.hi], ud, ud, ud, ud, ud, ud, ud, ud, ud], defers := [] }) (obs := [.load 33 (B) (29) (.agg #[.int .u64 t.lo, .int .u64 t.hi]), .load 33 (B') (29) (.agg #[.int .u64 t'.lo, .int .u64 t'.hi])]) (n := 10) (by kernel_rfl) (by kernel_rfl) ⟨ob_loadp 2 (fun _ h => h.1) x29 (by omega) Try.underlying33 (by kernel_rfl) size33, ob_loadp 2 (fun _ h => h.2.1) x29' (by omega) Try.underlying33 (by kernel_rfl) size33, trivial⟩ ?_
          by_cases q9 : (t.lo = t'.lo ∧ t.hi = t'.hi)
          ·replace q9 : Hid ((t.lo = t'.lo ∧ t.hi = t'.hi)) := q9
           refine wpAnyH_txt hT (fun _ _ _ _ _ h => h) hS [some (.bool true), none, none, none, some (.slice (some ⟨B, 31, none⟩) 4 4), none, some (.slice (some ⟨B', 31, none⟩) 4 4)] 66 (a' := { tmps := #[.agg T, .agg T', pt B 0, pt B' 0, .bool false, pt B 0, .agg (t.regs.map (Value.int .u64)).toArray, pt B' 0, .agg (t'.regs.map (Value.int .u64)).toArray, .bool true, .bool true, pt B 16, .int .u64 t.pc, pt B' 16, .int .u64 t'.pc, .bool true, .bool true, .bool true, pt B 17, .slice a17 n17 k17, pt B' 17, .slice a17' n17' k17', .bool true, .bool true, .bool true, pt B 18, .agg #[.int .u64 t.sc, .int .u64 t.si], pt B' 18, .agg #[.int .u64 t'.sc, .int .u64 t'.si], .bool true, .bool true, .bool true, pt B 20, .int .u64 t.handler, pt B' 20, .int .u64 t'.handler, .bool true, .bool true, .bool true, pt B 21, .int .u64 t.vector, pt B' 21, .int .u64 t'.vector, .bool true, .bool true, .bool true, pt B 22, .int .i64 t.state, pt B' 22, .int .i64 t'.state, .bool true, .bool true, .bool true, pt B 23, .agg #[.int .u64 t.wc, .int .u64 t.wi, .int .u64 t.wx, .int .u64 t.wv, .bool t.wd], pt B' 23, .agg #[.int .u64 t'.wc, .int .u64 t'.wi, .int .u64 t'.wx, .int .u64 t'.wv, .bool t'.wd], .bool true, .bool true, .bool true, pt B 28, .slice a28 n28 k28, pt B' 28, .slice a28' n28' k28', .bool true, .bool true, .bool true, pt B 29, .agg #[.int .u64 t.lo, .int .u64 t.hi], pt B' 29, .agg #[.int .u64 t'.lo, .int .u64 t'.hi], .bool true, .bool true, .bool true, pt B 31, .slice (some ⟨B, 31, none⟩) 4 4, pt B' 31, .slice (some ⟨B', 31, none⟩) 4 4, ud, ud], defers := [] }) (obs := [.test .eql 33 (.tmp 68) (.tmp 70) (.agg #[.int .u64 t.lo, .int .u64 t.hi]) (.agg #[.int .u64 t'.lo, .int .u64 t'.hi]) (.bool true), .sl 34 (pt B 31) (none) (none) (none) (.slice (some ⟨B, 31, none⟩) 4 4), .sl 34 (pt B' 31) (none) (none) (none) (.slice (some ⟨B', 31, none⟩) 4 4)]) (n := 3) (by kernel_rfl) (by kernel_rfl) ⟨ob_yes (fun _ => eqg_span _ _ _ _ _ _) q9, slice4 _ _, slice4 _ _, trivial⟩ ?_
           refine wpAnyH_askT (i := 73) (fuel := 2) (f := 87) (vs := [.slice (some ⟨B, 31, none⟩) 4 4, .slice (some ⟨B', 31, none⟩) 4 4, .func (.func 65) #[] #[]]) (d := some 78) (by kernel_rfl) (by kernel_rfl) (by kernel_rfl) Try.call87 (four_any (ThD.four (h.next hk) hS.1) (ThD.four (h'.next hk) hS.2.1)) (fun _ hb => TwoT.next hS hb) ?_ ?_
           ·intro w10 q10 hb1 hS; replace hk := hk.trans (hb1.mono hk.size); clear hb1
            refine wpAnyH_txt hT (fun _ _ _ _ _ h => h) hS [none, none] 74 (a' := { tmps := #[.agg T, .agg T', pt B 0, pt B' 0, .bool true, pt B 0, .agg (t.regs.map (Value.int .u64)).toArray, pt B' 0, .agg (t'.regs.map (Value.int .u64)).toArray, .bool true, .bool true, pt B 16, .int .u64 t.pc, pt B' 16, .int .u64 t'.pc, .bool true, .bool true, .bool true, pt B 17, .slice a17 n17 k17, pt B' 17, .slice a17' n17' k17', .bool true, .bool true, .bool true, pt B 18, .agg #[.int .u64 t.sc, .int .u64 t.si], pt B' 18, .agg #[.int .u64 t'.sc, .int .u64 t'.si], .bool true, .bool true, .bool true, pt B 20, .int .u64 t.handler, pt B' 20, .int .u64 t'.handler, .bool true, .bool true, .bool true, pt B 21, .int .u64 t.vector, pt B' 21, .int .u64 t'.vector, .bool true, .bool true, .bool true, pt B 22, .int .i64 t.state, pt B' 22, .int .i64 t'.state, .bool true, .bool true, .bool true, pt B 23, .agg #[.int .u64 t.wc, .int .u64 t.wi, .int .u64 t.wx, .int .u64 t.wv, .bool t.wd], pt B' 23, .agg #[.int .u64 t'.wc, .int .u64 t'.wi, .int .u64 t'.wx, .int .u64 t'.wv, .bool t'.wd], .bool true, .bool true, .bool true, pt B 28, .slice a28 n28 k28, pt B' 28, .slice a28' n28' k28', .bool true, .bool true, .bool true, pt B 29, .agg #[.int .u64 t.lo, .int .u64 t.hi], pt B' 29, .agg #[.int .u64 t'.lo, .int .u64 t'.hi], .bool true, .bool true, .bool true, pt B 31, .slice (some ⟨B, 31, none⟩) 4 4, pt B' 31, .slice (some ⟨B', 31, none⟩) 4 4, .bool true, .bool true], defers := [] }) (obs := []) (n := 0) (by kernel_rfl) (by kernel_rfl) trivial ?_
            refine wpAnyH_done (by kernel_rfl) ?_ _
            go_wp2
            go_ret
            exact askP_yes (th_iff.1 ⟨q0.out, q1.out, q2.out, q3.out, q4.out, q5.out, q6.out, q7.out, q8.out, q9.out, labs_iff.1 q10.out⟩) hk
           ·intro w10 q10 hb1 hS; replace hk := hk.trans (hb1.mono hk.size); clear hb1
            refine wpAnyH_txt hT (fun _ _ _ _ _ h => h) hS [none, none] 74 (a' := { tmps := #[.agg T, .agg T', pt B 0, pt B' 0, .bool false, pt B 0, .agg (t.regs.map (Value.int .u64)).toArray, pt B' 0, .agg (t'.regs.map (Value.int .u64)).toArray, .bool true, .bool true, pt B 16, .int .u64 t.pc, pt B' 16, .int .u64 t'.pc, .bool true, .bool true, .bool true, pt B 17, .slice a17 n17 k17, pt B' 17, .slice a17' n17' k17', .bool true, .bool true, .bool true, pt B 18, .agg #[.int .u64 t.sc, .int .u64 t.si], pt B' 18, .agg #[.int .u64 t'.sc, .int .u64 t'.si], .bool true, .bool true, .bool true, pt B 20, .int .u64 t.handler, pt B' 20, .int .u64 t'.handler, .bool true, .bool true, .bool true, pt B 21, .int .u64 t.vector, pt B' 21, .int .u64 t'.vector, .bool true, .bool true, .bool true, pt B 22, .int .i64 t.state, pt B' 22, .int .i64 t'.state, .bool true, .bool true, .bool true, pt B 23, .agg #[.int .u64 t.wc, .int .u64 t.wi, .int .u64 t.wx, .int .u64 t.wv, .bool t.wd], pt B' 23, .agg #[.int .u64 t'.wc, .int .u64 t'.wi, .int .u64 t'.wx, .int .u64 t'.wv, .bool t'.wd], .bool true, .bool true, .bool true, pt B 28, .slice a28 n28 k28, pt B' 28, .slice a28' n28' k28', .bool true, .bool true, .bool true, pt B 29, .agg #[.int .u64 t.lo, .int .u64 t.hi], pt B' 29, .agg #[.int .u64 t'.lo, .int .u64 t'.hi], .bool true, .bool true, .bool true, pt B 31, .slice (some ⟨B, 31, none⟩) 4 4, pt B' 31, .slice (some ⟨B', 31, none⟩) 4 4, .bool false, .bool false], defers := [] }) (obs := []) (n := 0) (by kernel_rfl) (by kernel_rfl) trivial ?_
            refine wpAnyH_done (by kernel_rfl) ?_ _
            go_wp2
            go_ret
            refine askP_no q10 hk ?_; intro e; rw [e]; exact fun _ _ => rfl
          ·replace q9 : Hid (¬ ((t.lo = t'.lo ∧ t.hi = t'.hi))) := q9
           refine wpAnyH_txt hT (fun _ _ _ _ _ h => h) hS [some (.bool false), none, none, none, none, none, none, none, none, none] 66 (a' := { tmps := #[.agg T, .agg T', pt B 0, pt B' 0, .bool false, pt B 0, .agg (t.regs.map (Value.int .u64)).toArray, pt B' 0, .agg (t'.regs.map (Value.int .u64)).toArray, .bool true, .bool true, pt B 16, .int .u64 t.pc, pt B' 16, .int .u64 t'.pc, .bool true, .bool true, .bool true, pt B 17, .slice a17 n17 k17, pt B' 17, .slice a17' n17' k17', .bool true, .bool true, .bool true, pt B 18, .agg #[.int .u64 t.sc, .int .u64 t.si], pt B' 18, .agg #[.int .u64 t'.sc, .int .u64 t'.si], .bool true, .bool true, .bool true, pt B 20, .int .u64 t.handler, pt B' 20, .int .u64 t'.handler, .bool true, .bool true, .bool true, pt B 21, .int .u64 t.vector, pt B' 21, .int .u64 t'.vector, .bool true, .bool true, .bool true, pt B 22, .int .i64 t.state, pt B' 22, .int .i64 t'.state, .bool true, .bool true, .bool true, pt B 23, .agg #[.int .u64 t.wc, .int .u64 t.wi, .int .u64 t.wx, .int .u64 t.wv, .bool t.wd], pt B' 23, .agg #[.int .u64 t'.wc, .int .u64 t'.wi, .int .u64 t'.wx, .int .u64 t'.wv, .bool t'.wd], .bool true, .bool true, .bool true, pt B 28, .slice a28 n28 k28, pt B' 28, .slice a28' n28' k28', .bool true, .bool true, .bool true, pt B 29, .agg #[.int .u64 t.lo, .int .u64 t.hi], pt B' 29, .agg #[.int .u64 t'.lo, .int .u64 t'.hi], .bool false, .bool false, .bool false, ud, ud, ud, ud, ud, .bool false], defers := [] }) (obs := [.test .eql 33 (.tmp 68) (.tmp 70) (.agg #[.int .u64 t.lo, .int .u64 t.hi]) (.agg #[.int .u64 t'.lo, .int .u64 t'.hi]) (.bool false)]) (n := 0) (by kernel_rfl) (by kernel_rfl) ⟨ob_no (fun _ => eqg_span _ _ _ _ _ _) q9, trivial⟩ ?_
           refine wpAnyH_done (by kernel_rfl) ?_ _
           go_wp2
           go_ret
           refine askP_no q9 hk ?_; intro e; rw [e]; exact ⟨rfl, rfl⟩
         ·intro w8 q8 hb1 hS; replace hk := hk.trans (hb1.mono hk.size); clear hb1
          refine wpAnyH_txt hT (fun _ _ _ _ _ h => h) hS [none, none, none, none, none, none, none, none, none, none, none, none, none, none, none, none] 60 (a' := { tmps := #[.agg T, .agg T', pt B 0, pt B' 0, .bool false, pt B 0, .agg (t.regs.map (Value.int .u64)).toArray, pt B' 0, .agg (t'.regs.map (Value.int .u64)).toArray, .bool true, .bool true, pt B 16, .int .u64 t.pc, pt B' 16, .int .u64 t'.pc, .bool true, .bool true, .bool true, pt B 17, .slice a17 n17 k17, pt B' 17, .slice a17' n17' k17', .bool true, .bool true, .bool true, pt B 18, .agg #[.int .u64 t.sc, .int .u64 t.si], pt B' 18, .agg #[.int .u64 t'.sc, .int .u64 t'.si], .bool true, .bool true, .bool true, pt B 20, .int .u64 t.handler, pt B' 20, .int .u64 t'.handler, .bool true, .bool true, .bool true, pt B 21, .int .u64 t.vector, pt B' 21, .int .u64 t'.vector, .bool true, .bool true, .bool true, pt B 22, .int .i64 t.state, pt B' 22, .int .i64 t'.state, .bool true, .bool true, .bool true, pt B 23, .agg #[.int .u64 t.wc, .int .u64 t.wi, .int .u64 t.wx, .int .u64 t.wv, .bool t.wd], pt B' 23, .agg #[.int .u64 t'.wc, .int .u64 t'.wi, .int .u64 t'.wx, .int .u64 t'.wv, .bool t'.wd], .bool true, .bool true, .bool true, pt B 28, .slice a28 n28 k28, pt B' 28, .slice a28' n28' k28', .bool false, .bool false, .bool false, ud, ud, ud, ud, ud, .bool false, .bool false, ud, ud, ud, ud, ud, .bool false], defers := [] }) (obs := []) (n := 0) (by kernel_rfl) (by kernel_rfl) trivial ?_
          refine wpAnyH_done (by kernel_rfl) ?_ _
          go_wp2
          go_ret
          refine askP_no q8 hk ?_; intro e; rw [e]; done
        ·replace q7 : Hid (¬ ((t.wc = t'.wc ∧ t.wi = t'.wi ∧ t.wx = t'.wx ∧ t.wv = t'.wv ∧ t.wd = t'.wd))) := q7
         refine wpAnyH_txt hT (fun _ _ _ _ _ h => h) hS [some (.bool false), none, none, none, none, none, none, none, none, none, none, none, none, none, none, none, none, none, none, none, none, none, none, none] 52 (a' := { tmps := #[.agg T, .agg T', pt B 0, pt B' 0, .bool false, pt B 0, .agg (t.regs.map (Value.int .u64)).toArray, pt B' 0, .agg (t'.regs.map (Value.int .u64)).toArray, .bool true, .bool true, pt B 16, .int .u64 t.pc, pt B' 16, .int .u64 t'.pc, .bool true, .bool true, .bool true, pt B 17, .slice a17 n17 k17, pt B' 17, .slice a17' n17' k17', .bool true, .bool true, .bool true, pt B 18, .agg #[.int .u64 t.sc, .int .u64 t.si], pt B' 18, .agg #[.int .u64 t'.sc, .int .u64 t'.si], .bool true, .bool true, .bool true, pt B 20, .int .u64 t.handler, pt B' 20, .int .u64 t'.handler, .bool true, .bool true, .bool true, pt B 21, .int .u64 t.vector, pt B' 21, .int .u64 t'.vector, .bool true, .bool true, .bool true, pt B 22, .int .i64 t.state, pt B' 22, .int .i64 t'.state, .bool true, .bool true, .bool true, pt B 23, .agg #[.int .u64 t.wc, .int .u64 t.wi, .int .u64 t.wx, .int .u64 t.wv, .bool t.wd], pt B' 23, .agg #[.int .u64 t'.wc, .int .u64 t'.wi, .int .u64 t'.wx, .int .u64 t'.wv, .bool t'.wd], .bool false, .bool false, .bool false, ud, ud, ud, ud, ud, .bool false, .bool false, ud, ud, ud, ud, ud, .bool false, .bool false, ud, ud, ud, ud, ud, .bool false], defers := [] }) (obs := [.test .eql 31 (.tmp 54) (.tmp 56) (.agg #[.int .u64 t.wc, .int .u64 t.wi, .int .u64 t.wx, .int .u64 t.wv, .bool t.wd]) (.agg #[.int .u64 t'.wc, .int .u64 t'.wi, .int .u64 t'.wx, .int .u64 t'.wv, .bool t'.wd]) (.bool false)]) (n := 0) (by kernel_rfl) (by kernel_rfl) ⟨ob_no (fun _ => eqg_wait _ _ _ _ _ _ _ _ _ _ _ _) q7, trivial⟩ ?_
         refine wpAnyH_done (by kernel_rfl) ?_ _
         go_wp2
         go_ret
         refine askP_no q7 hk ?_; intro e; rw [e]; exact ⟨rfl, rfl, rfl, rfl, rfl⟩
       ·replace q6 : Hid (¬ (t.state = t'.state)) := q6
        refine wpAnyH_txt hT (fun _ _ _ _ _ h => h) hS [some (.bool false), none, none, none, none, none, none, none, none, none, none, none, none, none, none, none, none, none, none, none, none, none, none, none, none, none, none, none, none, none, none] 45 (a' := { tmps := #[.agg T, .agg T', pt B 0, pt B' 0, .bool false, pt B 0, .agg (t.regs.map (Value.int .u64)).toArray, pt B' 0, .agg (t'.regs.map (Value.int .u64)).toArray, .bool true, .bool true, pt B 16, .int .u64 t.pc, pt B' 16, .int .u64 t'.pc, .bool true, .bool true, .bool true, pt B 17, .slice a17 n17 k17, pt B' 17, .slice a17' n17' k17', .bool true, .bool true, .bool true, pt B 18, .agg #[.int .u64 t.sc, .int .u64 t.si], pt B' 18, .agg #[.int .u64 t'.sc, .int .u64 t'.si], .bool true, .bool true, .bool true, pt B 20, .int .u64 t.handler, pt B' 20, .int .u64 t'.handler, .bool true, .bool true, .bool true, pt B 21, .int .u64 t.vector, pt B' 21, .int .u64 t'.vector, .bool true, .bool true, .bool true, pt B 22, .int .i64 t.state, pt B' 22, .int .i64 t'.state, .bool false, .bool false, .bool false, ud, ud, ud, ud, ud, .bool false, .bool false, ud, ud, ud, ud, ud, .bool false, .bool false, ud, ud, ud, ud, ud, .bool false, .bool false, ud, ud, ud, ud, ud, .bool false], defers := [] }) (obs := [.test .eql 3 (.tmp 47) (.tmp 49) (.int .i64 t.state) (.int .i64 t'.state) (.bool false)]) (n := 0) (by kernel_rfl) (by kernel_rfl) ⟨ob_no (fun _ => eqg_int _ _ _ _ _ _) q6, trivial⟩ ?_
        refine wpAnyH_done (by kernel_rfl) ?_ _
        go_wp2
        go_ret
        refine askP_no q6 hk ?_; intro e; rw [e]; done
      ·replace q5 : Hid (¬ (t.vector = t'.vector)) := q5
       refine wpAnyH_txt hT (fun _ _ _ _ _ h => h) hS [some (.bool false), none, none, none, none, none, none, none, none, none, none, none, none, none, none, none, none, none, none, none, none, none, none, none, none, none, none, none, none, none, none, none, none, none, none, none, none, none] 38 (a' := { tmps := #[.agg T, .agg T', pt B 0, pt B' 0, .bool false, pt B 0, .agg (t.regs.map (Value.int .u64)).toArray, pt B' 0, .agg (t'.regs.map (Value.int .u64)).toArray, .bool true, .bool true, pt B 16, .int .u64 t.pc, pt B' 16, .int .u64 t'.pc, .bool true, .bool true, .bool true, pt B 17, .slice a17 n17 k17, pt B' 17, .slice a17' n17' k17', .bool true, .bool true, .bool true, pt B 18, .agg #[.int .u64 t.sc, .int .u64 t.si], pt B' 18, .agg #[.int .u64 t'.sc, .int .u64 t'.si], .bool true, .bool true, .bool true, pt B 20, .int .u64 t.handler, pt B' 20, .int .u64 t'.handler, .bool true, .bool true, .bool true, pt B 21, .int .u64 t.vector, pt B' 21, .int .u64 t'.vector, .bool false, .bool false, .bool false, ud, ud, ud, ud, ud, .bool false, .bool false, ud, ud, ud, ud, ud, .bool false, .bool false, ud, ud, ud, ud, ud, .bool false, .bool false, ud, ud, ud, ud, ud, .bool false, .bool false, ud, ud, ud, ud, ud, .bool false], defers := [] }) (obs := [.test .eql 22 (.tmp 40) (.tmp 42) (.int .u64 t.vector) (.int .u64 t'.vector) (.bool false)]) (n := 0) (by kernel_rfl) (by kernel_rfl) ⟨ob_no (fun _ => eqg_int _ _ _ _ _ _) q5, trivial⟩ ?_
       refine wpAnyH_done (by kernel_rfl) ?_ _
       go_wp2
       go_ret
       refine askP_no q5 hk ?_; intro e; rw [e]; done
     ·replace q4 : Hid (¬ (t.handler = t'.handler)) := q4
      refine wpAnyH_txt hT (fun _ _ _ _ _ h => h) hS [some (.bool false), none, none, none, none, none, none, none, none, none, none, none, none, none, none, none, none, none, none, none, none, none, none, none, none, none, none, none, none, none, none, none, none, none, none, none, none, none, none, none, none, none, none, none, none] 31 (a' := { tmps := #[.agg T, .agg T', pt B 0, pt B' 0, .bool false, pt B 0, .agg (t.regs.map (Value.int .u64)).toArray, pt B' 0, .agg (t'.regs.map (Value.int .u64)).toArray, .bool true, .bool true, pt B 16, .int .u64 t.pc, pt B' 16, .int .u64 t'.pc, .bool true, .bool true, .bool true, pt B 17, .slice a17 n17 k17, pt B' 17, .slice a17' n17' k17', .bool true, .bool true, .bool true, pt B 18, .agg #[.int .u64 t.sc, .int .u64 t.si], pt B' 18, .agg #[.int .u64 t'.sc, .int .u64 t'.si], .bool true, .bool true, .bool true, pt B 20, .int .u64 t.handler, pt B' 20, .int .u64 t'.handler, .bool false, .bool false, .bool false, ud, ud, ud, ud, ud, .bool false, .bool false, ud, ud, ud, ud, ud, .bool false, .bool false, ud, ud, ud, ud, ud, .bool false, .bool false, ud, ud, ud, ud, ud, .bool false, .bool false, ud, ud, ud, ud, ud, .bool false, .bool false, ud, ud, ud, ud, ud, .bool false], defers := [] }) (obs := [.test .eql 22 (.tmp 33) (.tmp 35) (.int .u64 t.handler) (.int .u64 t'.handler) (.bool false)]) (n := 0) (by kernel_rfl) (by kernel_rfl) ⟨ob_no (fun _ => eqg_int _ _ _ _ _ _) q4, trivial⟩ ?_
      refine wpAnyH_done (by kernel_rfl) ?_ _
      go_wp2
      go_ret
      refine askP_no q4 hk ?_; intro e; rw [e]; done
    ·replace q3 : Hid (¬ ((t.sc = t'.sc ∧ t.si = t'.si))) := q3
     refine wpAnyH_txt hT (fun _ _ _ _ _ h => h) hS [some (.bool false), none, none, none, none, none, none, none, none, none, none, none, none, none, none, none, none, none, none, none, none, none, none, none, none, none, none, none, none, none, none, none, none, none, none, none, none, none, none, none, none, none, none, none, none, none, none, none, none, none, none, none] 24 (a' := { tmps := #[.agg T, .agg T', pt B 0, pt B' 0, .bool false, pt B 0, .agg (t.regs.map (Value.int .u64)).toArray, pt B' 0, .agg (t'.regs.map (Value.int .u64)).toArray, .bool true, .bool true, pt B 16, .int .u64 t.pc, pt B' 16, .int .u64 t'.pc, .bool true, .bool true, .bool true, pt B 17, .slice a17 n17 k17, pt B' 17, .slice a17' n17' k17', .bool true, .bool true, .bool true, pt B 18, .agg #[.int .u64 t.sc, .int .u64 t.si], pt B' 18, .agg #[.int .u64 t'.sc, .int .u64 t'.si], .bool false, .bool false, .bool false, ud, ud, ud, ud, ud, .bool false, .bool false, ud, ud, ud, ud, ud, .bool false, .bool false, ud, ud, ud, ud, ud, .bool false, .bool false, ud, ud, ud, ud, ud, .bool false, .bool false, ud, ud, ud, ud, ud, .bool false, .bool false, ud, ud, ud, ud, ud, .bool false, .bool false, ud, ud, ud, ud, ud, .bool false], defers := [] }) (obs := [.test .eql 29 (.tmp 26) (.tmp 28) (.agg #[.int .u64 t.sc, .int .u64 t.si]) (.agg #[.int .u64 t'.sc, .int .u64 t'.si]) (.bool false)]) (n := 0) (by kernel_rfl) (by kernel_rfl) ⟨ob_no (fun _ => eqg_ref _ _ _ _ _ _) q3, trivial⟩ ?_
     refine wpAnyH_done (by kernel_rfl) ?_ _
     go_wp2
     go_ret
     refine askP_no q3 hk ?_; intro e; rw [e]; exact ⟨rfl, rfl⟩
   ·intro w2 q2 hb1 hS; replace hk := hk.trans (hb1.mono hk.size); clear hb1
    refine wpAnyH_txt hT (fun _ _ _ _ _ h => h) hS [none, none, none, none, none, none, none, none, none, none, none, none, none, none, none, none, none, none, none, none, none, none, none, none, none, none, none, none, none, none, none, none, none, none, none, none, none, none, none, none, none, none, none, none, none, none, none, none, none, none, none, none, none, none, none, none, none, none] 18 (a' := { tmps := #[.agg T, .agg T', pt B 0, pt B' 0, .bool false, pt B 0, .agg (t.regs.map (Value.int .u64)).toArray, pt B' 0, .agg (t'.regs.map (Value.int .u64)).toArray, .bool true, .bool true, pt B 16, .int .u64 t.pc, pt B' 16, .int .u64 t'.pc, .bool true, .bool true, .bool true, pt B 17, .slice a17 n17 k17, pt B' 17, .slice a17' n17' k17', .bool false, .bool false, .bool false, ud, ud, ud, ud, ud, .bool false, .bool false, ud, ud, ud, ud, ud, .bool false, .bool false, ud, ud, ud, ud, ud, .bool false, .bool false, ud, ud, ud, ud, ud, .bool false, .bool false, ud, ud, ud, ud, ud, .bool false, .bool false, ud, ud, ud, ud, ud, .bool false, .bool false, ud, ud, ud, ud, ud, .bool false, .bool false, ud, ud, ud, ud, ud, .bool false], defers := [] }) (obs := []) (n := 0) (by kernel_rfl) (by kernel_rfl) trivial ?_
    refine wpAnyH_done (by kernel_rfl) ?_ _
    go_wp2
    go_ret
    refine askP_no q2 hk ?_; intro e; rw [e]; done
  ·replace q1 : Hid (¬ (t.pc = t'.pc)) := q1
   refine wpAnyH_txt hT (fun _ _ _ _ _ h => h) hS [some (.bool false), none, none, none, none, none, none, none, none, none, none, none, none, none, none, none, none, none, none, none, none, none, none, none, none, none, none, none, none, none, none, none, none, none, none, none, none, none, none, none, none, none, none, none, none, none, none, none, none, none, none, none, none, none, none, none, none, none, none, none, none, none, none, none, none, none] 10 (a' := { tmps := #[.agg T, .agg T', pt B 0, pt B' 0, .bool false, pt B 0, .agg (t.regs.map (Value.int .u64)).toArray, pt B' 0, .agg (t'.regs.map (Value.int .u64)).toArray, .bool true, .bool true, pt B 16, .int .u64 t.pc, pt B' 16, .int .u64 t'.pc, .bool false, .bool false, .bool false, ud, ud, ud, ud, ud, .bool false, .bool false, ud, ud, ud, ud, ud, .bool false, .bool false, ud, ud, ud, ud, ud, .bool false, .bool false, ud, ud, ud, ud, ud, .bool false, .bool false, ud, ud, ud, ud, ud, .bool false, .bool false, ud, ud, ud, ud, ud, .bool false, .bool false, ud, ud, ud, ud, ud, .bool false, .bool false, ud, ud, ud, ud, ud, .bool false, .bool false, ud, ud, ud, ud, ud, .bool false], defers := [] }) (obs := [.test .eql 22 (.tmp 12) (.tmp 14) (.int .u64 t.pc) (.int .u64 t'.pc) (.bool false)]) (n := 0) (by kernel_rfl) (by kernel_rfl) ⟨ob_no (fun _ => eqg_int _ _ _ _ _ _) q1, trivial⟩ ?_
   refine wpAnyH_done (by kernel_rfl) ?_ _
   go_wp2
   go_ret
   refine askP_no q1 hk ?_; intro e; rw [e]; done
 ·replace q0 : Hid (¬ (t.regs = t'.regs)) := q0
  refine wpAnyH_txt hT (fun _ _ _ _ _ h => h) hS [some (.bool false), none, none, none, none, none, none, none, none, none, none, none, none, none, none, none, none, none, none, none, none, none, none, none, none, none, none, none, none, none, none, none, none, none, none, none, none, none, none, none, none, none, none, none, none, none, none, none, none, none, none, none, none, none, none, none, none, none, none, none, none, none, none, none, none, none, none, none, none, none, none, none] 4 (a' := { tmps := #[.agg T, .agg T', pt B 0, pt B' 0, .bool false, pt B 0, .agg (t.regs.map (Value.int .u64)).toArray, pt B' 0, .agg (t'.regs.map (Value.int .u64)).toArray, .bool false, .bool false, ud, ud, ud, ud, ud, .bool false, .bool false, ud, ud, ud, ud, ud, .bool false, .bool false, ud, ud, ud, ud, ud, .bool false, .bool false, ud, ud, ud, ud, ud, .bool false, .bool false, ud, ud, ud, ud, ud, .bool false, .bool false, ud, ud, ud, ud, ud, .bool false, .bool false, ud, ud, ud, ud, ud, .bool false, .bool false, ud, ud, ud, ud, ud, .bool false, .bool false, ud, ud, ud, ud, ud, .bool false, .bool false, ud, ud, ud, ud, ud, .bool false], defers := [] }) (obs := [.test .eql 27 (.tmp 6) (.tmp 8) (.agg (t.regs.map (Value.int .u64)).toArray) (.agg (t'.regs.map (Value.int .u64)).toArray) (.bool false)]) (n := 0) (by kernel_rfl) (by kernel_rfl) ⟨ob_no (fun _ => eqg_regs _ _ _ _ r0 r0') q0, trivial⟩ ?_
  refine wpAnyH_done (by kernel_rfl) ?_ _
  go_wp2
  go_ret
  refine askP_no q0 hk ?_; intro e; rw [e]; done
end Go.Proofs.Ytlaagheeemkklaa
namespace Go.Proofs.Ytlaagheeemkklaa
set_option maxRecDepth 100000
set_option maxHeartbeats 8000000
open Go.RowKit Go.Shelf
set_option linter.unusedVariables false
attribute [local go_sem] Oper.semAt_some
theorem Asks.yes {f : FuncId} {args : Array Value} {X : Prop} {W : World} (h : Asks f args X W) (hX : X) : Calls Try.prog f args W fun e w' => e = .returned (.bool true) ∧ Below W.heap.size W w' :=
 h.on (fun _ _ k => ⟨rfl, k⟩) (fun _ q _ => absurd hX q.out)
theorem Asks.no {f : FuncId} {args : Array Value} {X : Prop} {W : World} (h : Asks f args X W) (hX : ¬ X) : Calls Try.prog f args W fun e w' => e = .returned (.bool false) ∧ Below W.heap.size W w' :=
 h.on (fun _ q _ => absurd q.out hX) (fun _ _ k => ⟨rfl, k⟩)
theorem rsameThread_any {w : World} {T T' : Array Value} {t t' : Th} (h : ThD (LtN w) w T t) (h' : ThD (LtN w) w T' t') :
  Asks 32 #[.agg T, .agg T'] (t = t') w := by
 have hz := h.size
 have hz' := h'.size
 obtain ⟨a17, n17, k17, c17, l17⟩ := h.f.clear
 obtain ⟨a28, n28, k28, c28, l28⟩ := h.f.alerts
 have x0 := ext_regs h
 have r0 := h.f.rlen
 have x18 := ext2 h.f.sc h.f.si
 have x29 := ext2 h.f.lo h.f.hi
 have x23 := ext5 h.f.wc h.f.wi h.f.wx h.f.wv h.f.wd
 have c16 := h.f.pc
 have c20 := h.f.handler
 have c21 := h.f.vector
 have c22 := h.f.state
 obtain ⟨a17', n17', k17', c17', l17'⟩ := h'.f.clear
 obtain ⟨a28', n28', k28', c28', l28'⟩ := h'.f.alerts
 have x0' := ext_regs h'
 have r0' := h'.f.rlen
 have x18' := ext2 h'.f.sc h'.f.si
 have x29' := ext2 h'.f.lo h'.f.hi
 have x23' := ext5 h'.f.wc h'.f.wi h'.f.wx h'.f.wv h'.f.wd
 have c16' := h'.f.pc
 have c20' := h'.f.handler
 have c21' := h'.f.vector
 have c22' := h'.f.state
 have ga0 := Try.isAgg24
 have ga1 := Try.isAgg22
 have ga2 := Try.isAgg3
 have ga3 := Try.isAgg4
 have ga4 := Try.isAgg25
 have ga5 := Try.isAgg26
 unfold Asks
 go_enter Try.func32, Try.ntmps32
 simp only [List.append]
 go_wp2_with (first
  | go_skip
  | (with_reducible refine wpList_box rfl _ _ rfl T rfl ?_; intro B W hB hb hk)
  | (with_reducible refine wpList_box rfl _ _ rfl T' rfl ?_; intro B' W' hB' hb' hk'; replace hb := hb.next hk'; replace hk := hk.trans (hk'.mono hk.size); clear hk'))
 have hf := ThD.four (h.next hk) hb
 have hf' := ThD.four (h'.next hk) hb'
 go_loopw [5] (fun i wr => ∃ k : Nat, k ≤ 4 ∧ i = .int .i64 k ∧ Hid (∀ j, j < k → labs t j = labs t' j) ∧ Below W'.heap.size W' wr) (fun i _ => 4 - (intOf i).toNat)
 case atStart => exact ⟨0, Nat.zero_le _, rfl, fun j hj => absurd hj (by omega), Below.refl _ _⟩
 case round =>
  obtain ⟨k, hk4, rfl, hal, hbw⟩ := hrel
  by_cases hkn : k < 4
  ·obtain ⟨ai, ni, ci, d1, q2⟩ := (hf.next hbw).2 k hkn
   obtain ⟨ai', ni', ci', d1', q2'⟩ := (hf'.next hbw).2 k hkn
   have hkn' : (k : Int) < 4 := by omega
   have hbz := hb.next hbw
   have hbz' := hb'.next hbw
   have hd0 := (hb.next hbw).lt
   have hd0' := (hb'.next hbw).lt
   clear hb hb' hbz hbz' hf hf'
   by_cases hq : labs t k = labs t' k
   ·replace hq : Hid (labs t k = labs t' k) := hq
    go_wp2
    go_region_held3 (fun w' => w'.cell? ⟨B, 31 + k, none⟩ = some (.slice ai ni ci) ∧ w'.cell? ⟨B', 31 + k, none⟩ = some (.slice ai' ni' ci')) (first | go_keep | (exact ⟨(hb1.cell (p := ⟨B, 31 + k, none⟩) hd0).trans d1, (hb1.cell (p := ⟨B', 31 + k, none⟩) hd0').trans d1'⟩) | fail) (first | (go_at_call 29; (with_reducible refine ((reqL q2 q2' (Below.refl _ _).drew).yes hq.out).mono ?_); rintro e w1 ⟨rfl, hb1⟩) | fail)
    have hb2 := (Below.refl wr.heap.size wr).drew.trans hb1
    go_wp2
    go_roundw
    case rel => exact ⟨k + 1, by omega, by go_num, fun j hj => by
      rcases Nat.lt_or_ge j k with h | h
      ·exact hal.out j h
      ·obtain rfl : j = k := by omega
       exact hq.out, hbw.trans (hb2.mono hbw.size)⟩
    case measure => simp [intOf]; omega
   ·replace hq : Hid (¬ labs t k = labs t' k) := hq
    go_wp2
    go_region_held3 (fun w' => w'.cell? ⟨B, 31 + k, none⟩ = some (.slice ai ni ci) ∧ w'.cell? ⟨B', 31 + k, none⟩ = some (.slice ai' ni' ci')) (first | go_keep | (exact ⟨(hb1.cell (p := ⟨B, 31 + k, none⟩) hd0).trans d1, (hb1.cell (p := ⟨B', 31 + k, none⟩) hd0').trans d1'⟩) | fail) (first | (go_at_call 29; (with_reducible refine ((reqL q2 q2' (Below.refl _ _).drew).no hq.out).mono ?_); rintro e w1 ⟨rfl, hb1⟩) | fail)
    have hb2 := (Below.refl wr.heap.size wr).drew.trans hb1
    go_wp2
    go_ret
    exact askP_no hq (hk.trans ((hbw.trans (hb2.mono hbw.size)).mono hk.size)) (fun e => by rw [e])
  ·obtain rfl : k = 4 := by omega
   replace hb := hb.next hbw
   replace hb' := hb'.next hbw
   replace hk := hk.trans (hbw.mono hk.size)
   clear hf hf' hbw
   simp only [show ((4 : Nat) : Int) = 4 from rfl]
   go_wp2_with (first
    | go_skip
    | (with_reducible refine wpList_load1 (by kernel_rfl) _ _ rfl B _ rfl _ _ hb _ (by assumption) (by assumption) ?_)
    | (with_reducible refine wpList_load1 (by kernel_rfl) _ _ rfl B' _ rfl _ _ hb' _ (by assumption) (by assumption) ?_)
    | (with_reducible refine wpList_loadp (by kernel_rfl) 29 _ rfl B _ rfl 2 _ _ hb _ (by assumption) (by omega) _ Try.underlying29 (by kernel_rfl) size29 ?_)
    | (with_reducible refine wpList_loadp (by kernel_rfl) 29 _ rfl B' _ rfl 2 _ _ hb' _ (by assumption) (by omega) _ Try.underlying29 (by kernel_rfl) size29 ?_)
    | (with_reducible refine wpList_loadp (by kernel_rfl) 33 _ rfl B _ rfl 2 _ _ hb _ (by assumption) (by omega) _ Try.underlying33 (by kernel_rfl) size33 ?_)
    | (with_reducible refine wpList_loadp (by kernel_rfl) 33 _ rfl B' _ rfl 2 _ _ hb' _ (by assumption) (by omega) _ Try.underlying33 (by kernel_rfl) size33 ?_)
    | (with_reducible refine wpList_loadp (by kernel_rfl) 31 _ rfl B _ rfl 5 _ _ hb _ (by assumption) (by omega) _ Try.underlying31 (by kernel_rfl) size31 ?_)
    | (with_reducible refine wpList_loadp (by kernel_rfl) 31 _ rfl B' _ rfl 5 _ _ hb' _ (by assumption) (by omega) _ Try.underlying31 (by kernel_rfl) size31 ?_)
    | (with_reducible refine wpList_loadp (by kernel_rfl) 27 _ rfl B _ rfl 16 _ _ hb _ (by assumption) (by omega) _ Try.underlying27 (by kernel_rfl) size27 ?_)
    | (with_reducible refine wpList_loadp (by kernel_rfl) 27 _ rfl B' _ rfl 16 _ _ hb' _ (by assumption) (by omega) _ Try.underlying27 (by kernel_rfl) size27 ?_)
    | ((with_reducible refine wpList_test (by kernel_rfl) .eql _ _ _ _ rfl _ _ rfl rfl (eqg_int _ _ _ _ _ _) ?_ ?_) <;> intro hq)
    | ((with_reducible refine wpList_test (by kernel_rfl) .eql _ _ _ _ rfl _ _ rfl rfl (eqg_ref _ _ _ _ _ _) ?_ ?_) <;> intro hq)
    | ((with_reducible refine wpList_test (by kernel_rfl) .eql _ _ _ _ rfl _ _ rfl rfl (eqg_span _ _ _ _ _ _) ?_ ?_) <;> intro hq)
    | ((with_reducible refine wpList_test (by kernel_rfl) .eql _ _ _ _ rfl _ _ rfl rfl (eqg_wait _ _ _ _ _ _ _ _ _ _ _ _) ?_ ?_) <;> intro hq)
    | ((with_reducible refine wpList_test (by kernel_rfl) .eql _ _ _ _ rfl _ _ rfl rfl (eqg_regs _ _ _ _ r0 r0') ?_ ?_) <;> intro hq)
    | (go_at_call 29; (with_reducible refine (reqL (by assumption) (by assumption) hk).on ?_ ?_) <;> (intro w1 hq hb1; replace hb := hb.next hb1; replace hb' := hb'.next hb1; replace hk := hk.trans (hb1.mono hk.size); clear hb1))
    | (go_at_call 30; (with_reducible refine (reqU (by assumption) (by assumption) hk).on ?_ ?_) <;> (intro w1 hq hb1; replace hb := hb.next hb1; replace hb' := hb'.next hb1; replace hk := hk.trans (hb1.mono hk.size); clear hb1)))
   all_goals go_ret
   all_goals first
    | (refine askP_no (by assumption) hk ?_; intro e; rw [e]; done)
    | (refine askP_no (by assumption) hk ?_; intro e; rw [e]; exact ⟨rfl, rfl⟩)
    | (refine askP_no (by assumption) hk ?_; intro e; rw [e]; exact ⟨rfl, rfl, rfl, rfl, rfl⟩)
    | (refine askP_no (by assumption) hk ?_; intro e; rw [e]; exact fun _ _ => rfl)
    | (refine askP_yes ?_ hk; exact th_iff.1 ⟨Hid.out (by assumption), Hid.out (by assumption), Hid.out (by assumption), Hid.out (by assumption), Hid.out (by assumption), Hid.out (by assumption), Hid.out (by assumption), Hid.out (by assumption), Hid.out (by assumption), Hid.out (by assumption), labs_iff.1 hal.out⟩)
    | fail
end Go.Proofs.Ytlaagheeemkklaa
