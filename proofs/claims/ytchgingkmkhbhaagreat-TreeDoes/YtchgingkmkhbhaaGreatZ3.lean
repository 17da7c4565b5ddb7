/-
 PROVED HERE: plain fa. What is asked stands at each.
-/
import Derived.RangeFuncNested
import Derived.RangeFuncBound
import Derived.RangeFuncBox
import Derived.Shelf.Abstract
import Derived.Shelf.RegionOpen
import Derived.WalkKit
import Derived.Below
import Derived.OwnWalk
import Derived.WalkSmall
import Derived.Laws.EntriesVeiled
import Derived.Deep.QuietTactic
import Derived.Deep.MidRow
import Derived.Deep.WholeRow
import Derived.Deep.RegionHeld3
import Derived.Test.YtchgingkmkhbhaaGreatRows
import Derived.ChangeKeysEq
import Derived.Laws.StructEq
import Derived.Deep.DeepCutAuto
import Derived.Test.YtchgingkmkhbhaaGreatZ1
import Derived.Test.YtchgingkmkhbhaaGreatZ2
namespace Go.Proofs.YtchgingkmkhbhaaGreat
set_option maxRecDepth 100000
set_option maxHeartbeats 8000000
set_option linter.unusedVariables false
open Go.Proofs.Tryz
section
open PgM.Pg (Mp eqB eqB_iff)
instance : DecidableEq Mp := fun x y => decidable_of_decidable_of_iff (p := eqB x y = true) eqB_iff
abbrev Lb := List (Int × Int)
structure Th where
 regs : List Int
 pc : Int
 clear : Lb
 sc : Int
 si : Int
 handler : Int
 vector : Int
 state : Int
 wc : Int
 wi : Int
 wx : Int
 wv : Int
 wd : Bool
 alerts : List Int
 lo : Int
 hi : Int
 l0 : Lb
 l1 : Lb
 l2 : Lb
 l3 : Lb
structure Gt where
 grant : Lb
 clear : Lb
 sc : Int
 si : Int
 pc : Int
 arg : Int
structure Ob where
 id : Int
 kind : Int
 label : Lb
 quota : Int
 fixed : Bool
 links : List Int
 data : List Int
 maps : List Mp
 th : Th
 gt : Gt
 inn : List Int
 out : List Int
structure Wd where
 time : Int
 key : Int
 root : Int
 obs : List Ob
def zTh : Th := ⟨[0, 0, 0, 0, 0, 0, 0, 0, 0, 0, 0, 0, 0, 0, 0, 0], 0, [], 0, 0, 0, 0, 0, 0, 0, 0, 0, false, [], 0, 0, [], [], [], []⟩
def zGt : Gt := ⟨[], [], 0, 0, 0, 0⟩
def zOb : Ob := ⟨0, 0, [], 0, false, [], [], [], zTh, zGt, [], []⟩
instance : Inhabited Ob := ⟨zOb⟩
theorem nxz {p : Prop} [Decidable p] {a b c v : Option Value} (e : a = if p then b else c) (h : ¬p) (q : c = v) : a = v := e.trans ((if_neg h).trans q)
theorem uyz {a b : Th} : (a.regs = b.regs ∧ a.pc = b.pc ∧ a.clear = b.clear ∧ (a.sc = b.sc ∧ a.si = b.si) ∧ a.handler = b.handler ∧ a.vector = b.vector ∧ a.state = b.state ∧ (a.wc = b.wc ∧ a.wi = b.wi ∧ a.wx = b.wx ∧ a.wv = b.wv ∧ a.wd = b.wd) ∧ a.alerts = b.alerts ∧ (a.lo = b.lo ∧ a.hi = b.hi) ∧ (a.l0 = b.l0 ∧ a.l1 = b.l1 ∧ a.l2 = b.l2 ∧ a.l3 = b.l3)) ↔ a = b := by
 cases a; cases b
 simp only [Th.mk.injEq]
 constructor
 ·rintro ⟨h1, h2, h3, ⟨h4, h5⟩, h6, h7, h8, ⟨h9, h10, h11, h12, h13⟩, h14, ⟨h15, h16⟩, h17, h18, h19, h20⟩
  exact ⟨h1, h2, h3, h4, h5, h6, h7, h8, h9, h10, h11, h12, h13, h14, h15, h16, h17, h18, h19, h20⟩
 ·rintro ⟨h1, h2, h3, h4, h5, h6, h7, h8, h9, h10, h11, h12, h13, h14, h15, h16, h17, h18, h19, h20⟩
  exact ⟨h1, h2, h3, ⟨h4, h5⟩, h6, h7, h8, ⟨h9, h10, h11, h12, h13⟩, h14, ⟨h15, h16⟩, h17, h18, h19, h20⟩
theorem gAz {a b : Gt} : (a.grant = b.grant ∧ a.clear = b.clear ∧ (a.sc = b.sc ∧ a.si = b.si) ∧ a.pc = b.pc ∧ a.arg = b.arg) ↔ a = b := by
 cases a; cases b
 simp only [Gt.mk.injEq]
 constructor
 ·rintro ⟨h1, h2, ⟨h3, h4⟩, h5, h6⟩; exact ⟨h1, h2, h3, h4, h5, h6⟩
 ·rintro ⟨h1, h2, h3, h4, h5, h6⟩; exact ⟨h1, h2, ⟨h3, h4⟩, h5, h6⟩
instance : DecidableEq Th := fun _ _ => decidable_of_decidable_of_iff uyz
instance : DecidableEq Gt := fun _ _ => decidable_of_decidable_of_iff gAz
theorem ggz {a b : Ob} : (a.id = b.id ∧ a.kind = b.kind ∧ a.label = b.label ∧ a.quota = b.quota ∧ a.fixed = b.fixed ∧ a.links = b.links ∧ a.data = b.data ∧ a.maps = b.maps ∧ a.th = b.th ∧ a.gt = b.gt ∧ a.inn = b.inn ∧ a.out = b.out) ↔ a = b := by
 cases a; cases b
 simp only [Ob.mk.injEq]
instance : DecidableEq Ob := fun _ _ => decidable_of_decidable_of_iff ggz
theorem wd_iff {a b : Wd} : (a.time = b.time ∧ a.key = b.key ∧ a.root = b.root ∧ a.obs = b.obs) ↔ a = b := by
 cases a; cases b
 simp only [Wd.mk.injEq]
instance : DecidableEq Wd := fun _ _ => decidable_of_decidable_of_iff wd_iff
def sameO (a b : Ob) : Bool := decide (a = b)
theorem uNz {a b : Ob} : sameO a b = true ↔ a = b := by unfold sameO; rw [decide_eq_true_iff]
def idB (n : Int) : Bool := decide (1 ≤ n) && decide (n ≤ 2305843009213693952)
def qYz (L : Lb) : Bool := decide (L.length ≤ 16) && (fitB L && L.all fun p => !decide (p.2 = 5))
def jLz (l b : Lb) : Bool := qYz l && (qYz b && leqB l b)
def risB (l : List Int) : Bool := decide (l.Pairwise (· < ·))
def waitB (t : Th) : Bool := decide (t.state = 1) || decide (t.wc = 0 ∧ t.wi = 0 ∧ t.wx = 0 ∧ t.wv = 0 ∧ t.wd = false)
def spanB (t : Th) : Bool := decide (t.lo ≤ t.hi) && decide (t.hi ≤ 2305843009213693952)
def thrB (t : Th) : Bool := qYz t.l0 && (qYz t.l1 && (qYz t.l2 && (qYz t.l3 && (decide (0 ≤ t.state) && (decide (t.state ≤ 2) && (decide (t.alerts.length ≤ 8) && (spanB t && waitB t)))))))
def comB (x : Ob) : Bool := idB x.id && (decide (1 ≤ x.quota) && (decide (x.quota ≤ 4096) && (qYz x.label && (decide (x.kind = 4) || decide (w3z x.label = [])))))
def ownB (x : Ob) : Bool :=
 if x.kind = 1 then decide ((x.data.length : Int) ≤ 16 * (x.quota - 1)) else
 if x.kind = 2 then decide (x.links.length ≤ 64) && (x.links.all idB && risB x.links) else
 if x.kind = 3 then PgM.Pg.fitB x.maps else
 if x.kind = 4 then !x.fixed && (jLz x.label x.th.clear && thrB x.th) else
 if x.kind = 5 then jLz x.gt.grant x.gt.clear else
 if x.kind = 6 then decide (x.inn.length ≤ 64) && decide (x.out.length ≤ 1024) else false
def comO (x : Ob) : Ob := ⟨x.id, x.kind, x.label, x.quota, x.fixed, [], [], [], zTh, zGt, [], []⟩
def witO (x : Ob) : Ob :=
 if x.kind = 1 then ⟨x.id, x.kind, x.label, x.quota, x.fixed, x.links, [], x.maps, x.th, x.gt, x.inn, x.out⟩ else
 if x.kind = 2 then ⟨x.id, x.kind, x.label, x.quota, x.fixed, [], x.data, x.maps, x.th, x.gt, x.inn, x.out⟩ else
 if x.kind = 3 then ⟨x.id, x.kind, x.label, x.quota, x.fixed, x.links, x.data, [], x.th, x.gt, x.inn, x.out⟩ else
 if x.kind = 4 then ⟨x.id, x.kind, x.label, x.quota, x.fixed, x.links, x.data, x.maps, zTh, x.gt, x.inn, x.out⟩ else
 if x.kind = 5 then ⟨x.id, x.kind, x.label, x.quota, x.fixed, x.links, x.data, x.maps, x.th, zGt, x.inn, x.out⟩ else
 if x.kind = 6 then ⟨x.id, x.kind, x.label, x.quota, x.fixed, x.links, x.data, x.maps, x.th, x.gt, [], []⟩ else x
def aloO (x : Ob) : Ob :=
 if x.kind = 1 then ⟨x.id, x.kind, x.label, x.quota, x.fixed, [], x.data, [], zTh, zGt, [], []⟩ else
 if x.kind = 2 then ⟨x.id, x.kind, x.label, x.quota, x.fixed, x.links, [], [], zTh, zGt, [], []⟩ else
 if x.kind = 3 then ⟨x.id, x.kind, x.label, x.quota, x.fixed, [], [], x.maps, zTh, zGt, [], []⟩ else
 if x.kind = 4 then ⟨x.id, x.kind, x.label, x.quota, x.fixed, [], [], [], x.th, zGt, [], []⟩ else
 if x.kind = 5 then ⟨x.id, x.kind, x.label, x.quota, x.fixed, [], [], [], zTh, x.gt, [], []⟩ else
 if x.kind = 6 then ⟨x.id, x.kind, x.label, x.quota, x.fixed, [], [], [], zTh, zGt, x.inn, x.out⟩ else comO x
def qUz (x : Ob) : Bool := comB x && (ownB x && sameO (witO x) (comO x))
theorem q8z (x : Ob) : witO x = comO x ↔ aloO x = x := by
 unfold witO aloO
 obtain ⟨id, kind, label, quota, fixed, links, data, maps, th, gt, inn, out⟩ := x
 simp only [comO]
 split
 ·simp only [Ob.mk.injEq]; constructor <;> (rintro ⟨h1, h2, h3, h4, h5, h6, h7, h8, h9, h10, h11, h12⟩; simp_all)
 split
 ·simp only [Ob.mk.injEq]; constructor <;> (rintro ⟨h1, h2, h3, h4, h5, h6, h7, h8, h9, h10, h11, h12⟩; simp_all)
 split
 ·simp only [Ob.mk.injEq]; constructor <;> (rintro ⟨h1, h2, h3, h4, h5, h6, h7, h8, h9, h10, h11, h12⟩; simp_all)
 split
 ·simp only [Ob.mk.injEq]; constructor <;> (rintro ⟨h1, h2, h3, h4, h5, h6, h7, h8, h9, h10, h11, h12⟩; simp_all)
 split
 ·simp only [Ob.mk.injEq]; constructor <;> (rintro ⟨h1, h2, h3, h4, h5, h6, h7, h8, h9, h10, h11, h12⟩; simp_all)
 split
 ·simp only [Ob.mk.injEq]; constructor <;> (rintro ⟨h1, h2, h3, h4, h5, h6, h7, h8, h9, h10, h11, h12⟩; simp_all)
 exact eq_comm
def pagN (x : Ob) : Int := 1 + ((x.data.length : Int) + 15) / 16
def idsB (l : List Ob) : Bool := risB (l.map Ob.id)
def fitW (W : Wd) : Bool := decide (0 ≤ W.time) && (decide (W.time ≤ 1099511627776) && (decide (W.obs.length ≤ 1024) && (idsB W.obs && W.obs.all qUz)))
def Srt (l : List Ob) : Prop := l.Pairwise fun x y => x.id < y.id
theorem kjz {l : List Ob} : idsB l = true ↔ Srt l := by unfold idsB risB Srt; rw [decide_eq_true_iff, List.pairwise_map]
def lowL (l : List Ob) (i : Int) : List Ob := l.filter fun x => decide (x.id < i)
def higL (l : List Ob) (i : Int) : List Ob := l.filter fun x => decide (i < x.id)
def ahd (l : List Ob) (i : Int) : Nat := (lowL l i).length
def fnd (l : List Ob) (i : Int) : Option Ob := l.find? fun x => decide (x.id = i)
def drpL (l : List Ob) (i : Int) : List Ob := lowL l i ++ higL l i
end
section
open Go.RowKit Go.Shelf
def CtD (D : Nat → Prop) (w : World) (ao : Option Addr) (n cap : Nat) (C : List Int) : Prop :=
 C.length = n ∧ n ≤ cap ∧ (cap ≤ 9223372036854775807 ∧ (ao = none → cap = 0)) ∧
 (0 < n → ∃ b off, ao = some ⟨b, off, none⟩ ∧ D b ∧ ∀ i, i < n → w.cell? ⟨b, off + i, none⟩ = some (.int .u64 (C.getD i 0)))
abbrev MpD := PgM.MpsD
section
variable {D D' : Nat → Prop} {w w' : World} {ao : Option Addr} {n cap : Nat}
theorem CtD.laterK {C : List Int} (h : CtD D w ao n cap C) (k : ∀ b, D b → w'.heap[b]? = w.heap[b]?) : CtD D w' ao n cap C := by
 obtain ⟨h1, h2, h3, h4⟩ := h
 refine ⟨h1, h2, h3, fun hn => ?_⟩
 obtain ⟨b, off, e, hb, hc⟩ := h4 hn
 exact ⟨b, off, e, hb, fun i hi => (World.cell?_of_block (w := w) (a := ⟨b, off + i, none⟩) (k b hb)).trans (hc i hi)⟩
theorem CtD.wide {C : List Int} (h : CtD D w ao n cap C) (hD : ∀ b, D b → D' b) : CtD D' w ao n cap C := by
 obtain ⟨h1, h2, h3, h4⟩ := h
 refine ⟨h1, h2, h3, fun hn => ?_⟩
 obtain ⟨b, off, e, hb, hc⟩ := h4 hn
 exact ⟨b, off, e, hD b hb, hc⟩
theorem CtD.nil (D : Nat → Prop) (w : World) : CtD D w none 0 0 [] := ⟨rfl, lrz _, ⟨by omega, fun _ => rfl⟩, fun h => absurd h (by omega)⟩
theorem LabD.laterK {L : Lb} (h : LabD D w ao n cap L) (k : ∀ b, D b → w'.heap[b]? = w.heap[b]?) : LabD D w' ao n cap L := by
 obtain ⟨h1, h2, h3, h4⟩ := h
 refine ⟨h1, h2, h3, fun hn => ?_⟩
 obtain ⟨b, off, e, hb, hc⟩ := h4 hn
 exact ⟨b, off, e, hb, fun i hi => ⟨(World.cell?_of_block (w := w) (a := ⟨b, off + i * 2, none⟩) (k b hb)).trans (hc i hi).1, (World.cell?_of_block (w := w) (a := ⟨b, off + i * 2 + 1, none⟩) (k b hb)).trans (hc i hi).2⟩⟩
theorem LabD.wide {L : Lb} (h : LabD D w ao n cap L) (hD : ∀ b, D b → D' b) : LabD D' w ao n cap L := by
 obtain ⟨h1, h2, h3, h4⟩ := h
 refine ⟨h1, h2, h3, fun hn => ?_⟩
 obtain ⟨b, off, e, hb, hc⟩ := h4 hn
 exact ⟨b, off, e, hD b hb, hc⟩
theorem LabD.nil (D : Nat → Prop) (w : World) : LabD D w none 0 0 [] := ⟨rfl, lrz _, ⟨by omega, fun _ => rfl⟩, fun h => absurd h (by omega)⟩
theorem MpD.nil (D : Nat → Prop) (w : World) : MpD D w none 0 0 [] := ⟨rfl, lrz _, ⟨by omega, fun _ => rfl⟩, fun h => absurd h (by omega)⟩
end
def LbV (D : Nat → Prop) (w : World) (v : Option Value) (L : Lb) : Prop := ∃ ao n cap, v = some (.slice ao n cap) ∧ LabD D w ao n cap L
def CtV (D : Nat → Prop) (w : World) (v : Option Value) (L : List Int) : Prop := ∃ ao n cap, v = some (.slice ao n cap) ∧ CtD D w ao n cap L
def MpV (D : Nat → Prop) (w : World) (v : Option Value) (L : List PgM.Pg.Mp) : Prop := ∃ ao n cap, v = some (.slice ao n cap) ∧ MpD D w ao n cap L
section
variable {D D' : Nat → Prop} {w w' : World} {v : Option Value}
theorem LbV.laterK {L : Lb} (h : LbV D w v L) (k : ∀ b, D b → w'.heap[b]? = w.heap[b]?) : LbV D w' v L := by obtain ⟨a, n, c, e, h⟩ := h; exact ⟨a, n, c, e, h.laterK k⟩
theorem LbV.wide {L : Lb} (h : LbV D w v L) (k : ∀ b, D b → D' b) : LbV D' w v L := by obtain ⟨a, n, c, e, h⟩ := h; exact ⟨a, n, c, e, h.wide k⟩
theorem CtV.laterK {L : List Int} (h : CtV D w v L) (k : ∀ b, D b → w'.heap[b]? = w.heap[b]?) : CtV D w' v L := by obtain ⟨a, n, c, e, h⟩ := h; exact ⟨a, n, c, e, h.laterK k⟩
theorem CtV.wide {L : List Int} (h : CtV D w v L) (k : ∀ b, D b → D' b) : CtV D' w v L := by obtain ⟨a, n, c, e, h⟩ := h; exact ⟨a, n, c, e, h.wide k⟩
theorem MpV.laterK {L : List PgM.Pg.Mp} (h : MpV D w v L) (k : ∀ b, D b → w'.heap[b]? = w.heap[b]?) : MpV D w' v L := by obtain ⟨a, n, c, e, h⟩ := h; exact ⟨a, n, c, e, PgM.MpsD.laterK h k⟩
theorem MpV.wide {L : List PgM.Pg.Mp} (h : MpV D w v L) (k : ∀ b, D b → D' b) : MpV D' w v L := by obtain ⟨a, n, c, e, h⟩ := h; exact ⟨a, n, c, e, PgM.MpsD.wide h k⟩
theorem LbV.zero (D : Nat → Prop) (w : World) : LbV D w (some (.slice none 0 0)) [] := ⟨none, 0, 0, rfl, LabD.nil _ _⟩
theorem CtV.zero (D : Nat → Prop) (w : World) : CtV D w (some (.slice none 0 0)) [] := ⟨none, 0, 0, rfl, CtD.nil _ _⟩
theorem MpV.zero (D : Nat → Prop) (w : World) : MpV D w (some (.slice none 0 0)) [] := ⟨none, 0, 0, rfl, MpD.nil _ _⟩
end
structure ThF (D : Nat → Prop) (w : World) (f : Nat → Option Value) (t : Th) : Prop where
 rlen : t.regs.length = 16
 regs : ∀ i, i < 16 → f i = some (.int .u64 (t.regs.getD i 0))
 pc : f 16 = some (.int .u64 t.pc)
 clear : LbV D w (f 17) t.clear
 sc : f 18 = some (.int .u64 t.sc)
 si : f 19 = some (.int .u64 t.si)
 handler : f 20 = some (.int .u64 t.handler)
 vector : f 21 = some (.int .u64 t.vector)
 state : f 22 = some (.int .i64 t.state)
 wc : f 23 = some (.int .u64 t.wc)
 wi : f 24 = some (.int .u64 t.wi)
 wx : f 25 = some (.int .u64 t.wx)
 wv : f 26 = some (.int .u64 t.wv)
 wd : f 27 = some (.bool t.wd)
 alerts : CtV D w (f 28) t.alerts
 lo : f 29 = some (.int .u64 t.lo)
 hi : f 30 = some (.int .u64 t.hi)
 l0 : LbV D w (f 31) t.l0
 l1 : LbV D w (f 32) t.l1
 l2 : LbV D w (f 33) t.l2
 l3 : LbV D w (f 34) t.l3
structure GtF (D : Nat → Prop) (w : World) (f : Nat → Option Value) (g : Gt) : Prop where
 grant : LbV D w (f 0) g.grant
 clear : LbV D w (f 1) g.clear
 sc : f 2 = some (.int .u64 g.sc)
 si : f 3 = some (.int .u64 g.si)
 pc : f 4 = some (.int .u64 g.pc)
 arg : f 5 = some (.int .u64 g.arg)
structure ThD (D : Nat → Prop) (w : World) (T : Array Value) (t : Th) : Prop where
 size : T.size = 35
 one : T.all (·.oneCell') = true
 f : ThF D w (fun i => T[i]?) t
structure GtD (D : Nat → Prop) (w : World) (T : Array Value) (t : Gt) : Prop where
 size : T.size = 6
 one : T.all (·.oneCell') = true
 f : GtF D w (fun i => T[i]?) t
structure ObD (D : Nat → Prop) (w : World) (C : Array Value) (x : Ob) : Prop where
 size : C.size = 51
 one : C.all (·.oneCell') = true
 id : C[0]? = some (.int .u64 x.id)
 kind : C[1]? = some (.int .i64 x.kind)
 label : LbV D w (C[2]?) x.label
 quota : C[3]? = some (.int .i64 x.quota)
 fixed : C[4]? = some (.bool x.fixed)
 links : CtV D w (C[5]?) x.links
 data : CtV D w (C[6]?) x.data
 maps : MpV D w (C[7]?) x.maps
 th : ThF D w (fun i => C[8 + i]?) x.th
 gt : GtF D w (fun i => C[43 + i]?) x.gt
 inn : CtV D w (C[49]?) x.inn
 out : CtV D w (C[50]?) x.out
section
variable {D D' : Nat → Prop} {w w' : World}
theorem ThF.laterK {f : Nat → Option Value} {t : Th} (h : ThF D w f t) (k : ∀ b, D b → w'.heap[b]? = w.heap[b]?) : ThF D w' f t :=
 ⟨h.rlen, h.regs, h.pc, h.clear.laterK k, h.sc, h.si, h.handler, h.vector, h.state, h.wc, h.wi, h.wx, h.wv, h.wd, h.alerts.laterK k, h.lo, h.hi, h.l0.laterK k, h.l1.laterK k, h.l2.laterK k, h.l3.laterK k⟩
theorem GtF.laterK {f : Nat → Option Value} {t : Gt} (h : GtF D w f t) (k : ∀ b, D b → w'.heap[b]? = w.heap[b]?) : GtF D w' f t :=
 ⟨h.grant.laterK k, h.clear.laterK k, h.sc, h.si, h.pc, h.arg⟩
theorem ThD.laterK {T : Array Value} {t : Th} (h : ThD D w T t) (k : ∀ b, D b → w'.heap[b]? = w.heap[b]?) : ThD D w' T t := ⟨h.size, h.one, h.f.laterK k⟩
theorem GtD.laterK {T : Array Value} {t : Gt} (h : GtD D w T t) (k : ∀ b, D b → w'.heap[b]? = w.heap[b]?) : GtD D w' T t := ⟨h.size, h.one, h.f.laterK k⟩
theorem ObD.laterK {C : Array Value} {x : Ob} (h : ObD D w C x) (k : ∀ b, D b → w'.heap[b]? = w.heap[b]?) : ObD D w' C x :=
 ⟨h.size, h.one, h.id, h.kind, h.label.laterK k, h.quota, h.fixed, h.links.laterK k, h.data.laterK k, h.maps.laterK k, h.th.laterK k, h.gt.laterK k, h.inn.laterK k, h.out.laterK k⟩
theorem ThF.wide {f : Nat → Option Value} {t : Th} (h : ThF D w f t) (k : ∀ b, D b → D' b) : ThF D' w f t :=
 ⟨h.rlen, h.regs, h.pc, h.clear.wide k, h.sc, h.si, h.handler, h.vector, h.state, h.wc, h.wi, h.wx, h.wv, h.wd, h.alerts.wide k, h.lo, h.hi, h.l0.wide k, h.l1.wide k, h.l2.wide k, h.l3.wide k⟩
theorem GtF.wide {f : Nat → Option Value} {t : Gt} (h : GtF D w f t) (k : ∀ b, D b → D' b) : GtF D' w f t :=
 ⟨h.grant.wide k, h.clear.wide k, h.sc, h.si, h.pc, h.arg⟩
theorem ThD.wide {T : Array Value} {t : Th} (h : ThD D w T t) (k : ∀ b, D b → D' b) : ThD D' w T t := ⟨h.size, h.one, h.f.wide k⟩
theorem GtD.wide {T : Array Value} {t : Gt} (h : GtD D w T t) (k : ∀ b, D b → D' b) : GtD D' w T t := ⟨h.size, h.one, h.f.wide k⟩
theorem ObD.wide {C : Array Value} {x : Ob} (h : ObD D w C x) (k : ∀ b, D b → D' b) : ObD D' w C x :=
 ⟨h.size, h.one, h.id, h.kind, h.label.wide k, h.quota, h.fixed, h.links.wide k, h.data.wide k, h.maps.wide k, h.th.wide k, h.gt.wide k, h.inn.wide k, h.out.wide k⟩
theorem ThF.congr {f g : Nat → Option Value} {t : Th} (h : ThF D w f t) (e : ∀ i, i < 35 → f i = g i) : ThF D w g t :=
 ⟨h.rlen, fun i hi => by rw [← e i (by omega)]; exact h.regs i hi, by rw [← e 16 (by omega)]; exact h.pc, by rw [← e 17 (by omega)]; exact h.clear, by rw [← e 18 (by omega)]; exact h.sc, by rw [← e 19 (by omega)]; exact h.si, by rw [← e 20 (by omega)]; exact h.handler, by rw [← e 21 (by omega)]; exact h.vector, by rw [← e 22 (by omega)]; exact h.state, by rw [← e 23 (by omega)]; exact h.wc, by rw [← e 24 (by omega)]; exact h.wi, by rw [← e 25 (by omega)]; exact h.wx, by rw [← e 26 (by omega)]; exact h.wv, by rw [← e 27 (by omega)]; exact h.wd, by rw [← e 28 (by omega)]; exact h.alerts, by rw [← e 29 (by omega)]; exact h.lo, by rw [← e 30 (by omega)]; exact h.hi, by rw [← e 31 (by omega)]; exact h.l0, by rw [← e 32 (by omega)]; exact h.l1, by rw [← e 33 (by omega)]; exact h.l2, by rw [← e 34 (by omega)]; exact h.l3⟩
theorem GtF.congr {f g : Nat → Option Value} {t : Gt} (h : GtF D w f t) (e : ∀ i, i < 6 → f i = g i) : GtF D w g t :=
 ⟨by rw [← e 0 (by omega)]; exact h.grant, by rw [← e 1 (by omega)]; exact h.clear, by rw [← e 2 (by omega)]; exact h.sc, by rw [← e 3 (by omega)]; exact h.si, by rw [← e 4 (by omega)]; exact h.pc, by rw [← e 5 (by omega)]; exact h.arg⟩
theorem jPz {T : Array Value} (h : ∀ (j : Nat) (v : Value), T[j]? = some v → v.oneCell' = true) : T.all (·.oneCell') = true := by
 rw [Array.all_eq_true_iff_forall_mem]
 intro v hv
 obtain ⟨j, hj⟩ := Array.mem_iff_getElem?.1 hv
 exact h j v hj
theorem jOz {T : Array Value} (h : T.all (·.oneCell') = true) {j : Nat} {v : Value} (e : T[j]? = some v) : v.oneCell' = true := by
 rw [Array.all_eq_true_iff_forall_mem] at h
 exact h v (Array.mem_iff_getElem?.2 ⟨j, e⟩)
theorem wpz {C : Array Value} {o n i : Nat} (hs : o + n ≤ C.size) (hi : i < n) : (C.extract o (o + n))[i]? = C[o + i]? := by
 rw [Array.getElem?_extract, if_pos (by omega)]
theorem x1z {C : Array Value} {o n : Nat} (h : C.all (·.oneCell') = true) : (C.extract o n).all (·.oneCell') = true := by
 refine jPz fun j v e => ?_
 rw [Array.getElem?_extract] at e
 split at e
 ·exact jOz h e
 ·cases e
theorem ObD.thd {C : Array Value} {x : Ob} (h : ObD D w C x) : ThD D w (C.extract 8 (8 + 35)) x.th :=
 ⟨by simp [h.size], x1z h.one, h.th.congr fun i hi => (wpz (by rw [h.size]; omega) hi).symm⟩
theorem ObD.gtd {C : Array Value} {x : Ob} (h : ObD D w C x) : GtD D w (C.extract 43 (43 + 6)) x.gt :=
 ⟨by simp [h.size], x1z h.one, h.gt.congr fun i hi => (wpz (by rw [h.size]; omega) hi).symm⟩
theorem qHz {C : Array Value} {j i : Nat} {v : Value} (hj : j < C.size) : (C.setIfInBounds j v)[i]? = if j = i then some v else C[i]? := by
 rw [Array.getElem?_setIfInBounds]
 by_cases e : j = i
 ·subst e; simp [hj]
 ·simp [e]
theorem q5z {C : Array Value} {j : Nat} {v : Value} (h : C.all (·.oneCell') = true) (hv : v.oneCell' = true) : (C.setIfInBounds j v).all (·.oneCell') = true := by
 refine jPz fun i u e => ?_
 rw [Array.getElem?_setIfInBounds] at e
 split at e
 ·split at e
  ·cases e; exact hv
  ·cases e
 ·exact jOz h e
theorem ObD.set2 {C : Array Value} {x : Ob} (h : ObD D w C x) {v : Value} {L : Lb} (k : LbV D w (some v) L) (hv : v.oneCell' = true) : ObD D w (C.setIfInBounds 2 v) { x with label := L } := by
 have e : ∀ i, (C.setIfInBounds 2 v)[i]? = if 2 = i then some v else C[i]? := fun i => qHz (by rw [h.size]; omega)
 exact ⟨by simp [h.size], q5z h.one hv, nxz (e _) (by omega) h.id, nxz (e _) (by omega) h.kind, by rw [e, if_pos rfl]; exact k, nxz (e _) (by omega) h.quota, nxz (e _) (by omega) h.fixed, by rw [e, if_neg (by omega)]; exact h.links, by rw [e, if_neg (by omega)]; exact h.data, by rw [e, if_neg (by omega)]; exact h.maps, h.th.congr fun i hi => by rw [e, if_neg (by omega)], h.gt.congr fun i hi => by rw [e, if_neg (by omega)], by rw [e, if_neg (by omega)]; exact h.inn, by rw [e, if_neg (by omega)]; exact h.out⟩
theorem ObD.set5 {C : Array Value} {x : Ob} (h : ObD D w C x) {v : Value} {L : List Int} (k : CtV D w (some v) L) (hv : v.oneCell' = true) : ObD D w (C.setIfInBounds 5 v) { x with links := L } := by
 have e : ∀ i, (C.setIfInBounds 5 v)[i]? = if 5 = i then some v else C[i]? := fun i => qHz (by rw [h.size]; omega)
 exact ⟨by simp [h.size], q5z h.one hv, nxz (e _) (by omega) h.id, nxz (e _) (by omega) h.kind, by rw [e, if_neg (by omega)]; exact h.label, nxz (e _) (by omega) h.quota, nxz (e _) (by omega) h.fixed, by rw [e, if_pos rfl]; exact k, by rw [e, if_neg (by omega)]; exact h.data, by rw [e, if_neg (by omega)]; exact h.maps, h.th.congr fun i hi => by rw [e, if_neg (by omega)], h.gt.congr fun i hi => by rw [e, if_neg (by omega)], by rw [e, if_neg (by omega)]; exact h.inn, by rw [e, if_neg (by omega)]; exact h.out⟩
theorem ObD.set6 {C : Array Value} {x : Ob} (h : ObD D w C x) {v : Value} {L : List Int} (k : CtV D w (some v) L) (hv : v.oneCell' = true) : ObD D w (C.setIfInBounds 6 v) { x with data := L } := by
 have e : ∀ i, (C.setIfInBounds 6 v)[i]? = if 6 = i then some v else C[i]? := fun i => qHz (by rw [h.size]; omega)
 exact ⟨by simp [h.size], q5z h.one hv, nxz (e _) (by omega) h.id, nxz (e _) (by omega) h.kind, by rw [e, if_neg (by omega)]; exact h.label, nxz (e _) (by omega) h.quota, nxz (e _) (by omega) h.fixed, by rw [e, if_neg (by omega)]; exact h.links, by rw [e, if_pos rfl]; exact k, by rw [e, if_neg (by omega)]; exact h.maps, h.th.congr fun i hi => by rw [e, if_neg (by omega)], h.gt.congr fun i hi => by rw [e, if_neg (by omega)], by rw [e, if_neg (by omega)]; exact h.inn, by rw [e, if_neg (by omega)]; exact h.out⟩
theorem ObD.set7 {C : Array Value} {x : Ob} (h : ObD D w C x) {v : Value} {L : List PgM.Pg.Mp} (k : MpV D w (some v) L) (hv : v.oneCell' = true) : ObD D w (C.setIfInBounds 7 v) { x with maps := L } := by
 have e : ∀ i, (C.setIfInBounds 7 v)[i]? = if 7 = i then some v else C[i]? := fun i => qHz (by rw [h.size]; omega)
 exact ⟨by simp [h.size], q5z h.one hv, nxz (e _) (by omega) h.id, nxz (e _) (by omega) h.kind, by rw [e, if_neg (by omega)]; exact h.label, nxz (e _) (by omega) h.quota, nxz (e _) (by omega) h.fixed, by rw [e, if_neg (by omega)]; exact h.links, by rw [e, if_neg (by omega)]; exact h.data, by rw [e, if_pos rfl]; exact k, h.th.congr fun i hi => by rw [e, if_neg (by omega)], h.gt.congr fun i hi => by rw [e, if_neg (by omega)], by rw [e, if_neg (by omega)]; exact h.inn, by rw [e, if_neg (by omega)]; exact h.out⟩
theorem ObD.set49 {C : Array Value} {x : Ob} (h : ObD D w C x) {v : Value} {L : List Int} (k : CtV D w (some v) L) (hv : v.oneCell' = true) : ObD D w (C.setIfInBounds 49 v) { x with inn := L } := by
 have e : ∀ i, (C.setIfInBounds 49 v)[i]? = if 49 = i then some v else C[i]? := fun i => qHz (by rw [h.size]; omega)
 exact ⟨by simp [h.size], q5z h.one hv, nxz (e _) (by omega) h.id, nxz (e _) (by omega) h.kind, by rw [e, if_neg (by omega)]; exact h.label, nxz (e _) (by omega) h.quota, nxz (e _) (by omega) h.fixed, by rw [e, if_neg (by omega)]; exact h.links, by rw [e, if_neg (by omega)]; exact h.data, by rw [e, if_neg (by omega)]; exact h.maps, h.th.congr fun i hi => by rw [e, if_neg (by omega)], h.gt.congr fun i hi => by rw [e, if_neg (by omega)], by rw [e, if_pos rfl]; exact k, by rw [e, if_neg (by omega)]; exact h.out⟩
theorem ObD.set50 {C : Array Value} {x : Ob} (h : ObD D w C x) {v : Value} {L : List Int} (k : CtV D w (some v) L) (hv : v.oneCell' = true) : ObD D w (C.setIfInBounds 50 v) { x with out := L } := by
 have e : ∀ i, (C.setIfInBounds 50 v)[i]? = if 50 = i then some v else C[i]? := fun i => qHz (by rw [h.size]; omega)
 exact ⟨by simp [h.size], q5z h.one hv, nxz (e _) (by omega) h.id, nxz (e _) (by omega) h.kind, by rw [e, if_neg (by omega)]; exact h.label, nxz (e _) (by omega) h.quota, nxz (e _) (by omega) h.fixed, by rw [e, if_neg (by omega)]; exact h.links, by rw [e, if_neg (by omega)]; exact h.data, by rw [e, if_neg (by omega)]; exact h.maps, h.th.congr fun i hi => by rw [e, if_neg (by omega)], h.gt.congr fun i hi => by rw [e, if_neg (by omega)], by rw [e, if_neg (by omega)]; exact h.inn, by rw [e, if_pos rfl]; exact k⟩
theorem ObD.set25 {C : Array Value} {x : Ob} (h : ObD D w C x) {v : Value} {L : Lb} (k : LbV D w (some v) L) (hv : v.oneCell' = true) : ObD D w (C.setIfInBounds 25 v) { x with th := { x.th with clear := L } } := by
 have e : ∀ i, (C.setIfInBounds 25 v)[i]? = if 25 = i then some v else C[i]? := fun i => qHz (by rw [h.size]; omega)
 exact ⟨by simp [h.size], q5z h.one hv, nxz (e _) (by omega) h.id, nxz (e _) (by omega) h.kind, by rw [e, if_neg (by omega)]; exact h.label, nxz (e _) (by omega) h.quota, nxz (e _) (by omega) h.fixed, by rw [e, if_neg (by omega)]; exact h.links, by rw [e, if_neg (by omega)]; exact h.data, by rw [e, if_neg (by omega)]; exact h.maps, ⟨h.th.rlen, fun i hi => by show (C.setIfInBounds 25 v)[8 + i]? = _; rw [e, if_neg (by omega)]; exact h.th.regs i hi, by show (C.setIfInBounds 25 v)[24]? = some (.int .u64 x.th.pc); rw [e, if_neg (by omega)]; exact h.th.pc, by show LbV D w ((C.setIfInBounds 25 v)[25]?) L; rw [e, if_pos rfl]; exact k, by show (C.setIfInBounds 25 v)[26]? = some (.int .u64 x.th.sc); rw [e, if_neg (by omega)]; exact h.th.sc, by show (C.setIfInBounds 25 v)[27]? = some (.int .u64 x.th.si); rw [e, if_neg (by omega)]; exact h.th.si, by show (C.setIfInBounds 25 v)[28]? = some (.int .u64 x.th.handler); rw [e, if_neg (by omega)]; exact h.th.handler, by show (C.setIfInBounds 25 v)[29]? = some (.int .u64 x.th.vector); rw [e, if_neg (by omega)]; exact h.th.vector, by show (C.setIfInBounds 25 v)[30]? = some (.int .i64 x.th.state); rw [e, if_neg (by omega)]; exact h.th.state, by show (C.setIfInBounds 25 v)[31]? = some (.int .u64 x.th.wc); rw [e, if_neg (by omega)]; exact h.th.wc, by show (C.setIfInBounds 25 v)[32]? = some (.int .u64 x.th.wi); rw [e, if_neg (by omega)]; exact h.th.wi, by show (C.setIfInBounds 25 v)[33]? = some (.int .u64 x.th.wx); rw [e, if_neg (by omega)]; exact h.th.wx, by show (C.setIfInBounds 25 v)[34]? = some (.int .u64 x.th.wv); rw [e, if_neg (by omega)]; exact h.th.wv, by show (C.setIfInBounds 25 v)[35]? = some (.bool x.th.wd); rw [e, if_neg (by omega)]; exact h.th.wd, by show CtV D w ((C.setIfInBounds 25 v)[36]?) x.th.alerts; rw [e, if_neg (by omega)]; exact h.th.alerts, by show (C.setIfInBounds 25 v)[37]? = some (.int .u64 x.th.lo); rw [e, if_neg (by omega)]; exact h.th.lo, by show (C.setIfInBounds 25 v)[38]? = some (.int .u64 x.th.hi); rw [e, if_neg (by omega)]; exact h.th.hi, by show LbV D w ((C.setIfInBounds 25 v)[39]?) x.th.l0; rw [e, if_neg (by omega)]; exact h.th.l0, by show LbV D w ((C.setIfInBounds 25 v)[40]?) x.th.l1; rw [e, if_neg (by omega)]; exact h.th.l1, by show LbV D w ((C.setIfInBounds 25 v)[41]?) x.th.l2; rw [e, if_neg (by omega)]; exact h.th.l2, by show LbV D w ((C.setIfInBounds 25 v)[42]?) x.th.l3; rw [e, if_neg (by omega)]; exact h.th.l3⟩, h.gt.congr fun i hi => by rw [e, if_neg (by omega)], by rw [e, if_neg (by omega)]; exact h.inn, by rw [e, if_neg (by omega)]; exact h.out⟩
theorem ObD.set36 {C : Array Value} {x : Ob} (h : ObD D w C x) {v : Value} {L : List Int} (k : CtV D w (some v) L) (hv : v.oneCell' = true) : ObD D w (C.setIfInBounds 36 v) { x with th := { x.th with alerts := L } } := by
 have e : ∀ i, (C.setIfInBounds 36 v)[i]? = if 36 = i then some v else C[i]? := fun i => qHz (by rw [h.size]; omega)
 exact ⟨by simp [h.size], q5z h.one hv, nxz (e _) (by omega) h.id, nxz (e _) (by omega) h.kind, by rw [e, if_neg (by omega)]; exact h.label, nxz (e _) (by omega) h.quota, nxz (e _) (by omega) h.fixed, by rw [e, if_neg (by omega)]; exact h.links, by rw [e, if_neg (by omega)]; exact h.data, by rw [e, if_neg (by omega)]; exact h.maps, ⟨h.th.rlen, fun i hi => by show (C.setIfInBounds 36 v)[8 + i]? = _; rw [e, if_neg (by omega)]; exact h.th.regs i hi, by show (C.setIfInBounds 36 v)[24]? = some (.int .u64 x.th.pc); rw [e, if_neg (by omega)]; exact h.th.pc, by show LbV D w ((C.setIfInBounds 36 v)[25]?) x.th.clear; rw [e, if_neg (by omega)]; exact h.th.clear, by show (C.setIfInBounds 36 v)[26]? = some (.int .u64 x.th.sc); rw [e, if_neg (by omega)]; exact h.th.sc, by show (C.setIfInBounds 36 v)[27]? = some (.int .u64 x.th.si); rw [e, if_neg (by omega)]; exact h.th.si, by show (C.setIfInBounds 36 v)[28]? = some (.int .u64 x.th.handler); rw [e, if_neg (by omega)]; exact h.th.handler, by show (C.setIfInBounds 36 v)[29]? = some (.int .u64 x.th.vector); rw [e, if_neg (by omega)]; exact h.th.vector, by show (C.setIfInBounds 36 v)[30]? = some (.int .i64 x.th.state); rw [e, if_neg (by omega)]; exact h.th.state, by show (C.setIfInBounds 36 v)[31]? = some (.int .u64 x.th.wc); rw [e, if_neg (by omega)]; exact h.th.wc, by show (C.setIfInBounds 36 v)[32]? = some (.int .u64 x.th.wi); rw [e, if_neg (by omega)]; exact h.th.wi, by show (C.setIfInBounds 36 v)[33]? = some (.int .u64 x.th.wx); rw [e, if_neg (by omega)]; exact h.th.wx, by show (C.setIfInBounds 36 v)[34]? = some (.int .u64 x.th.wv); rw [e, if_neg (by omega)]; exact h.th.wv, by show (C.setIfInBounds 36 v)[35]? = some (.bool x.th.wd); rw [e, if_neg (by omega)]; exact h.th.wd, by show CtV D w ((C.setIfInBounds 36 v)[36]?) L; rw [e, if_pos rfl]; exact k, by show (C.setIfInBounds 36 v)[37]? = some (.int .u64 x.th.lo); rw [e, if_neg (by omega)]; exact h.th.lo, by show (C.setIfInBounds 36 v)[38]? = some (.int .u64 x.th.hi); rw [e, if_neg (by omega)]; exact h.th.hi, by show LbV D w ((C.setIfInBounds 36 v)[39]?) x.th.l0; rw [e, if_neg (by omega)]; exact h.th.l0, by show LbV D w ((C.setIfInBounds 36 v)[40]?) x.th.l1; rw [e, if_neg (by omega)]; exact h.th.l1, by show LbV D w ((C.setIfInBounds 36 v)[41]?) x.th.l2; rw [e, if_neg (by omega)]; exact h.th.l2, by show LbV D w ((C.setIfInBounds 36 v)[42]?) x.th.l3; rw [e, if_neg (by omega)]; exact h.th.l3⟩, h.gt.congr fun i hi => by rw [e, if_neg (by omega)], by rw [e, if_neg (by omega)]; exact h.inn, by rw [e, if_neg (by omega)]; exact h.out⟩
theorem ObD.set39 {C : Array Value} {x : Ob} (h : ObD D w C x) {v : Value} {L : Lb} (k : LbV D w (some v) L) (hv : v.oneCell' = true) : ObD D w (C.setIfInBounds 39 v) { x with th := { x.th with l0 := L } } := by
 have e : ∀ i, (C.setIfInBounds 39 v)[i]? = if 39 = i then some v else C[i]? := fun i => qHz (by rw [h.size]; omega)
 exact ⟨by simp [h.size], q5z h.one hv, nxz (e _) (by omega) h.id, nxz (e _) (by omega) h.kind, by rw [e, if_neg (by omega)]; exact h.label, nxz (e _) (by omega) h.quota, nxz (e _) (by omega) h.fixed, by rw [e, if_neg (by omega)]; exact h.links, by rw [e, if_neg (by omega)]; exact h.data, by rw [e, if_neg (by omega)]; exact h.maps, ⟨h.th.rlen, fun i hi => by show (C.setIfInBounds 39 v)[8 + i]? = _; rw [e, if_neg (by omega)]; exact h.th.regs i hi, by show (C.setIfInBounds 39 v)[24]? = some (.int .u64 x.th.pc); rw [e, if_neg (by omega)]; exact h.th.pc, by show LbV D w ((C.setIfInBounds 39 v)[25]?) x.th.clear; rw [e, if_neg (by omega)]; exact h.th.clear, by show (C.setIfInBounds 39 v)[26]? = some (.int .u64 x.th.sc); rw [e, if_neg (by omega)]; exact h.th.sc, by show (C.setIfInBounds 39 v)[27]? = some (.int .u64 x.th.si); rw [e, if_neg (by omega)]; exact h.th.si, by show (C.setIfInBounds 39 v)[28]? = some (.int .u64 x.th.handler); rw [e, if_neg (by omega)]; exact h.th.handler, by show (C.setIfInBounds 39 v)[29]? = some (.int .u64 x.th.vector); rw [e, if_neg (by omega)]; exact h.th.vector, by show (C.setIfInBounds 39 v)[30]? = some (.int .i64 x.th.state); rw [e, if_neg (by omega)]; exact h.th.state, by show (C.setIfInBounds 39 v)[31]? = some (.int .u64 x.th.wc); rw [e, if_neg (by omega)]; exact h.th.wc, by show (C.setIfInBounds 39 v)[32]? = some (.int .u64 x.th.wi); rw [e, if_neg (by omega)]; exact h.th.wi, by show (C.setIfInBounds 39 v)[33]? = some (.int .u64 x.th.wx); rw [e, if_neg (by omega)]; exact h.th.wx, by show (C.setIfInBounds 39 v)[34]? = some (.int .u64 x.th.wv); rw [e, if_neg (by omega)]; exact h.th.wv, by show (C.setIfInBounds 39 v)[35]? = some (.bool x.th.wd); rw [e, if_neg (by omega)]; exact h.th.wd, by show CtV D w ((C.setIfInBounds 39 v)[36]?) x.th.alerts; rw [e, if_neg (by omega)]; exact h.th.alerts, by show (C.setIfInBounds 39 v)[37]? = some (.int .u64 x.th.lo); rw [e, if_neg (by omega)]; exact h.th.lo, by show (C.setIfInBounds 39 v)[38]? = some (.int .u64 x.th.hi); rw [e, if_neg (by omega)]; exact h.th.hi, by show LbV D w ((C.setIfInBounds 39 v)[39]?) L; rw [e, if_pos rfl]; exact k, by show LbV D w ((C.setIfInBounds 39 v)[40]?) x.th.l1; rw [e, if_neg (by omega)]; exact h.th.l1, by show LbV D w ((C.setIfInBounds 39 v)[41]?) x.th.l2; rw [e, if_neg (by omega)]; exact h.th.l2, by show LbV D w ((C.setIfInBounds 39 v)[42]?) x.th.l3; rw [e, if_neg (by omega)]; exact h.th.l3⟩, h.gt.congr fun i hi => by rw [e, if_neg (by omega)], by rw [e, if_neg (by omega)]; exact h.inn, by rw [e, if_neg (by omega)]; exact h.out⟩
theorem ObD.set40 {C : Array Value} {x : Ob} (h : ObD D w C x) {v : Value} {L : Lb} (k : LbV D w (some v) L) (hv : v.oneCell' = true) : ObD D w (C.setIfInBounds 40 v) { x with th := { x.th with l1 := L } } := by
 have e : ∀ i, (C.setIfInBounds 40 v)[i]? = if 40 = i then some v else C[i]? := fun i => qHz (by rw [h.size]; omega)
 exact ⟨by simp [h.size], q5z h.one hv, nxz (e _) (by omega) h.id, nxz (e _) (by omega) h.kind, by rw [e, if_neg (by omega)]; exact h.label, nxz (e _) (by omega) h.quota, nxz (e _) (by omega) h.fixed, by rw [e, if_neg (by omega)]; exact h.links, by rw [e, if_neg (by omega)]; exact h.data, by rw [e, if_neg (by omega)]; exact h.maps, ⟨h.th.rlen, fun i hi => by show (C.setIfInBounds 40 v)[8 + i]? = _; rw [e, if_neg (by omega)]; exact h.th.regs i hi, by show (C.setIfInBounds 40 v)[24]? = some (.int .u64 x.th.pc); rw [e, if_neg (by omega)]; exact h.th.pc, by show LbV D w ((C.setIfInBounds 40 v)[25]?) x.th.clear; rw [e, if_neg (by omega)]; exact h.th.clear, by show (C.setIfInBounds 40 v)[26]? = some (.int .u64 x.th.sc); rw [e, if_neg (by omega)]; exact h.th.sc, by show (C.setIfInBounds 40 v)[27]? = some (.int .u64 x.th.si); rw [e, if_neg (by omega)]; exact h.th.si, by show (C.setIfInBounds 40 v)[28]? = some (.int .u64 x.th.handler); rw [e, if_neg (by omega)]; exact h.th.handler, by show (C.setIfInBounds 40 v)[29]? = some (.int .u64 x.th.vector); rw [e, if_neg (by omega)]; exact h.th.vector, by show (C.setIfInBounds 40 v)[30]? = some (.int .i64 x.th.state); rw [e, if_neg (by omega)]; exact h.th.state, by show (C.setIfInBounds 40 v)[31]? = some (.int .u64 x.th.wc); rw [e, if_neg (by omega)]; exact h.th.wc, by show (C.setIfInBounds 40 v)[32]? = some (.int .u64 x.th.wi); rw [e, if_neg (by omega)]; exact h.th.wi, by show (C.setIfInBounds 40 v)[33]? = some (.int .u64 x.th.wx); rw [e, if_neg (by omega)]; exact h.th.wx, by show (C.setIfInBounds 40 v)[34]? = some (.int .u64 x.th.wv); rw [e, if_neg (by omega)]; exact h.th.wv, by show (C.setIfInBounds 40 v)[35]? = some (.bool x.th.wd); rw [e, if_neg (by omega)]; exact h.th.wd, by show CtV D w ((C.setIfInBounds 40 v)[36]?) x.th.alerts; rw [e, if_neg (by omega)]; exact h.th.alerts, by show (C.setIfInBounds 40 v)[37]? = some (.int .u64 x.th.lo); rw [e, if_neg (by omega)]; exact h.th.lo, by show (C.setIfInBounds 40 v)[38]? = some (.int .u64 x.th.hi); rw [e, if_neg (by omega)]; exact h.th.hi, by show LbV D w ((C.setIfInBounds 40 v)[39]?) x.th.l0; rw [e, if_neg (by omega)]; exact h.th.l0, by show LbV D w ((C.setIfInBounds 40 v)[40]?) L; rw [e, if_pos rfl]; exact k, by show LbV D w ((C.setIfInBounds 40 v)[41]?) x.th.l2; rw [e, if_neg (by omega)]; exact h.th.l2, by show LbV D w ((C.setIfInBounds 40 v)[42]?) x.th.l3; rw [e, if_neg (by omega)]; exact h.th.l3⟩, h.gt.congr fun i hi => by rw [e, if_neg (by omega)], by rw [e, if_neg (by omega)]; exact h.inn, by rw [e, if_neg (by omega)]; exact h.out⟩
theorem ObD.set41 {C : Array Value} {x : Ob} (h : ObD D w C x) {v : Value} {L : Lb} (k : LbV D w (some v) L) (hv : v.oneCell' = true) : ObD D w (C.setIfInBounds 41 v) { x with th := { x.th with l2 := L } } := by
 have e : ∀ i, (C.setIfInBounds 41 v)[i]? = if 41 = i then some v else C[i]? := fun i => qHz (by rw [h.size]; omega)
 exact ⟨by simp [h.size], q5z h.one hv, nxz (e _) (by omega) h.id, nxz (e _) (by omega) h.kind, by rw [e, if_neg (by omega)]; exact h.label, nxz (e _) (by omega) h.quota, nxz (e _) (by omega) h.fixed, by rw [e, if_neg (by omega)]; exact h.links, by rw [e, if_neg (by omega)]; exact h.data, by rw [e, if_neg (by omega)]; exact h.maps, ⟨h.th.rlen, fun i hi => by show (C.setIfInBounds 41 v)[8 + i]? = _; rw [e, if_neg (by omega)]; exact h.th.regs i hi, by show (C.setIfInBounds 41 v)[24]? = some (.int .u64 x.th.pc); rw [e, if_neg (by omega)]; exact h.th.pc, by show LbV D w ((C.setIfInBounds 41 v)[25]?) x.th.clear; rw [e, if_neg (by omega)]; exact h.th.clear, by show (C.setIfInBounds 41 v)[26]? = some (.int .u64 x.th.sc); rw [e, if_neg (by omega)]; exact h.th.sc, by show (C.setIfInBounds 41 v)[27]? = some (.int .u64 x.th.si); rw [e, if_neg (by omega)]; exact h.th.si, by show (C.setIfInBounds 41 v)[28]? = some (.int .u64 x.th.handler); rw [e, if_neg (by omega)]; exact h.th.handler, by show (C.setIfInBounds 41 v)[29]? = some (.int .u64 x.th.vector); rw [e, if_neg (by omega)]; exact h.th.vector, by show (C.setIfInBounds 41 v)[30]? = some (.int .i64 x.th.state); rw [e, if_neg (by omega)]; exact h.th.state, by show (C.setIfInBounds 41 v)[31]? = some (.int .u64 x.th.wc); rw [e, if_neg (by omega)]; exact h.th.wc, by show (C.setIfInBounds 41 v)[32]? = some (.int .u64 x.th.wi); rw [e, if_neg (by omega)]; exact h.th.wi, by show (C.setIfInBounds 41 v)[33]? = some (.int .u64 x.th.wx); rw [e, if_neg (by omega)]; exact h.th.wx, by show (C.setIfInBounds 41 v)[34]? = some (.int .u64 x.th.wv); rw [e, if_neg (by omega)]; exact h.th.wv, by show (C.setIfInBounds 41 v)[35]? = some (.bool x.th.wd); rw [e, if_neg (by omega)]; exact h.th.wd, by show CtV D w ((C.setIfInBounds 41 v)[36]?) x.th.alerts; rw [e, if_neg (by omega)]; exact h.th.alerts, by show (C.setIfInBounds 41 v)[37]? = some (.int .u64 x.th.lo); rw [e, if_neg (by omega)]; exact h.th.lo, by show (C.setIfInBounds 41 v)[38]? = some (.int .u64 x.th.hi); rw [e, if_neg (by omega)]; exact h.th.hi, by show LbV D w ((C.setIfInBounds 41 v)[39]?) x.th.l0; rw [e, if_neg (by omega)]; exact h.th.l0, by show LbV D w ((C.setIfInBounds 41 v)[40]?) x.th.l1; rw [e, if_neg (by omega)]; exact h.th.l1, by show LbV D w ((C.setIfInBounds 41 v)[41]?) L; rw [e, if_pos rfl]; exact k, by show LbV D w ((C.setIfInBounds 41 v)[42]?) x.th.l3; rw [e, if_neg (by omega)]; exact h.th.l3⟩, h.gt.congr fun i hi => by rw [e, if_neg (by omega)], by rw [e, if_neg (by omega)]; exact h.inn, by rw [e, if_neg (by omega)]; exact h.out⟩
theorem ObD.set42 {C : Array Value} {x : Ob} (h : ObD D w C x) {v : Value} {L : Lb} (k : LbV D w (some v) L) (hv : v.oneCell' = true) : ObD D w (C.setIfInBounds 42 v) { x with th := { x.th with l3 := L } } := by
 have e : ∀ i, (C.setIfInBounds 42 v)[i]? = if 42 = i then some v else C[i]? := fun i => qHz (by rw [h.size]; omega)
 exact ⟨by simp [h.size], q5z h.one hv, nxz (e _) (by omega) h.id, nxz (e _) (by omega) h.kind, by rw [e, if_neg (by omega)]; exact h.label, nxz (e _) (by omega) h.quota, nxz (e _) (by omega) h.fixed, by rw [e, if_neg (by omega)]; exact h.links, by rw [e, if_neg (by omega)]; exact h.data, by rw [e, if_neg (by omega)]; exact h.maps, ⟨h.th.rlen, fun i hi => by show (C.setIfInBounds 42 v)[8 + i]? = _; rw [e, if_neg (by omega)]; exact h.th.regs i hi, by show (C.setIfInBounds 42 v)[24]? = some (.int .u64 x.th.pc); rw [e, if_neg (by omega)]; exact h.th.pc, by show LbV D w ((C.setIfInBounds 42 v)[25]?) x.th.clear; rw [e, if_neg (by omega)]; exact h.th.clear, by show (C.setIfInBounds 42 v)[26]? = some (.int .u64 x.th.sc); rw [e, if_neg (by omega)]; exact h.th.sc, by show (C.setIfInBounds 42 v)[27]? = some (.int .u64 x.th.si); rw [e, if_neg (by omega)]; exact h.th.si, by show (C.setIfInBounds 42 v)[28]? = some (.int .u64 x.th.handler); rw [e, if_neg (by omega)]; exact h.th.handler, by show (C.setIfInBounds 42 v)[29]? = some (.int .u64 x.th.vector); rw [e, if_neg (by omega)]; exact h.th.vector, by show (C.setIfInBounds 42 v)[30]? = some (.int .i64 x.th.state); rw [e, if_neg (by omega)]; exact h.th.state, by show (C.setIfInBounds 42 v)[31]? = some (.int .u64 x.th.wc); rw [e, if_neg (by omega)]; exact h.th.wc, by show (C.setIfInBounds 42 v)[32]? = some (.int .u64 x.th.wi); rw [e, if_neg (by omega)]; exact h.th.wi, by show (C.setIfInBounds 42 v)[33]? = some (.int .u64 x.th.wx); rw [e, if_neg (by omega)]; exact h.th.wx, by show (C.setIfInBounds 42 v)[34]? = some (.int .u64 x.th.wv); rw [e, if_neg (by omega)]; exact h.th.wv, by show (C.setIfInBounds 42 v)[35]? = some (.bool x.th.wd); rw [e, if_neg (by omega)]; exact h.th.wd, by show CtV D w ((C.setIfInBounds 42 v)[36]?) x.th.alerts; rw [e, if_neg (by omega)]; exact h.th.alerts, by show (C.setIfInBounds 42 v)[37]? = some (.int .u64 x.th.lo); rw [e, if_neg (by omega)]; exact h.th.lo, by show (C.setIfInBounds 42 v)[38]? = some (.int .u64 x.th.hi); rw [e, if_neg (by omega)]; exact h.th.hi, by show LbV D w ((C.setIfInBounds 42 v)[39]?) x.th.l0; rw [e, if_neg (by omega)]; exact h.th.l0, by show LbV D w ((C.setIfInBounds 42 v)[40]?) x.th.l1; rw [e, if_neg (by omega)]; exact h.th.l1, by show LbV D w ((C.setIfInBounds 42 v)[41]?) x.th.l2; rw [e, if_neg (by omega)]; exact h.th.l2, by show LbV D w ((C.setIfInBounds 42 v)[42]?) L; rw [e, if_pos rfl]; exact k⟩, h.gt.congr fun i hi => by rw [e, if_neg (by omega)], by rw [e, if_neg (by omega)]; exact h.inn, by rw [e, if_neg (by omega)]; exact h.out⟩
theorem ObD.set43 {C : Array Value} {x : Ob} (h : ObD D w C x) {v : Value} {L : Lb} (k : LbV D w (some v) L) (hv : v.oneCell' = true) : ObD D w (C.setIfInBounds 43 v) { x with gt := { x.gt with grant := L } } := by
 have e : ∀ i, (C.setIfInBounds 43 v)[i]? = if 43 = i then some v else C[i]? := fun i => qHz (by rw [h.size]; omega)
 exact ⟨by simp [h.size], q5z h.one hv, nxz (e _) (by omega) h.id, nxz (e _) (by omega) h.kind, by rw [e, if_neg (by omega)]; exact h.label, nxz (e _) (by omega) h.quota, nxz (e _) (by omega) h.fixed, by rw [e, if_neg (by omega)]; exact h.links, by rw [e, if_neg (by omega)]; exact h.data, by rw [e, if_neg (by omega)]; exact h.maps, h.th.congr fun i hi => by rw [e, if_neg (by omega)], ⟨by show LbV D w ((C.setIfInBounds 43 v)[43]?) L; rw [e, if_pos rfl]; exact k, by show LbV D w ((C.setIfInBounds 43 v)[44]?) x.gt.clear; rw [e, if_neg (by omega)]; exact h.gt.clear, by show (C.setIfInBounds 43 v)[45]? = some (.int .u64 x.gt.sc); rw [e, if_neg (by omega)]; exact h.gt.sc, by show (C.setIfInBounds 43 v)[46]? = some (.int .u64 x.gt.si); rw [e, if_neg (by omega)]; exact h.gt.si, by show (C.setIfInBounds 43 v)[47]? = some (.int .u64 x.gt.pc); rw [e, if_neg (by omega)]; exact h.gt.pc, by show (C.setIfInBounds 43 v)[48]? = some (.int .u64 x.gt.arg); rw [e, if_neg (by omega)]; exact h.gt.arg⟩, by rw [e, if_neg (by omega)]; exact h.inn, by rw [e, if_neg (by omega)]; exact h.out⟩
theorem ObD.set44 {C : Array Value} {x : Ob} (h : ObD D w C x) {v : Value} {L : Lb} (k : LbV D w (some v) L) (hv : v.oneCell' = true) : ObD D w (C.setIfInBounds 44 v) { x with gt := { x.gt with clear := L } } := by
 have e : ∀ i, (C.setIfInBounds 44 v)[i]? = if 44 = i then some v else C[i]? := fun i => qHz (by rw [h.size]; omega)
 exact ⟨by simp [h.size], q5z h.one hv, nxz (e _) (by omega) h.id, nxz (e _) (by omega) h.kind, by rw [e, if_neg (by omega)]; exact h.label, nxz (e _) (by omega) h.quota, nxz (e _) (by omega) h.fixed, by rw [e, if_neg (by omega)]; exact h.links, by rw [e, if_neg (by omega)]; exact h.data, by rw [e, if_neg (by omega)]; exact h.maps, h.th.congr fun i hi => by rw [e, if_neg (by omega)], ⟨by show LbV D w ((C.setIfInBounds 44 v)[43]?) x.gt.grant; rw [e, if_neg (by omega)]; exact h.gt.grant, by show LbV D w ((C.setIfInBounds 44 v)[44]?) L; rw [e, if_pos rfl]; exact k, by show (C.setIfInBounds 44 v)[45]? = some (.int .u64 x.gt.sc); rw [e, if_neg (by omega)]; exact h.gt.sc, by show (C.setIfInBounds 44 v)[46]? = some (.int .u64 x.gt.si); rw [e, if_neg (by omega)]; exact h.gt.si, by show (C.setIfInBounds 44 v)[47]? = some (.int .u64 x.gt.pc); rw [e, if_neg (by omega)]; exact h.gt.pc, by show (C.setIfInBounds 44 v)[48]? = some (.int .u64 x.gt.arg); rw [e, if_neg (by omega)]; exact h.gt.arg⟩, by rw [e, if_neg (by omega)]; exact h.inn, by rw [e, if_neg (by omega)]; exact h.out⟩
end
abbrev LtN (W : World) : Nat → Prop := fun b => b < W.heap.size
section
variable {w w' : World}
theorem ThD.next {T : Array Value} {t : Th} (h : ThD (LtN w) w T t) (k : Below w.heap.size w w') : ThD (LtN w') w' T t := (h.laterK fun b hb => k.block b hb).wide fun b hb => ltz hb k.size
theorem GtD.next {T : Array Value} {t : Gt} (h : GtD (LtN w) w T t) (k : Below w.heap.size w w') : GtD (LtN w') w' T t := (h.laterK fun b hb => k.block b hb).wide fun b hb => ltz hb k.size
theorem ObD.next {T : Array Value} {t : Ob} (h : ObD (LtN w) w T t) (k : Below w.heap.size w w') : ObD (LtN w') w' T t := (h.laterK fun b hb => k.block b hb).wide fun b hb => ltz hb k.size
theorem LbV.next {v : Option Value} {t : Lb} (h : LbV (LtN w) w v t) (k : Below w.heap.size w w') : LbV (LtN w') w' v t := (h.laterK fun b hb => k.block b hb).wide fun b hb => ltz hb k.size
theorem CtV.next {v : Option Value} {t : List Int} (h : CtV (LtN w) w v t) (k : Below w.heap.size w w') : CtV (LtN w') w' v t := (h.laterK fun b hb => k.block b hb).wide fun b hb => ltz hb k.size
theorem MpV.next {v : Option Value} {t : List PgM.Pg.Mp} (h : MpV (LtN w) w v t) (k : Below w.heap.size w w') : MpV (LtN w') w' v t := (h.laterK fun b hb => k.block b hb).wide fun b hb => ltz hb k.size
end
abbrev Ex (B : Nat) (W : World) : Nat → Prop := fun b => b < W.heap.size ∧ b ≠ B
def Blk (W : World) (B : Nat) (C : Array Value) (t : TypeId) : Prop := W.heap[B]? = some (.cells C t (0, 0))
section
variable {W W' : World} {B : Nat} {C : Array Value} {t : TypeId}
theorem Blk.lt (h : Blk W B C t) : B < W.heap.size := (Array.getElem?_eq_some_iff.1 h).1
theorem Blk.next (h : Blk W B C t) (k : Below W.heap.size W W') : Blk W' B C t := (k.block B h.lt).trans h
theorem Blk.cell (h : Blk W B C t) (j : Nat) : W.cell? ⟨B, j, none⟩ = C[j]? := cell_of_row W B j C t (0, 0) h
theorem Blk.range (h : Blk W B C t) (o n : Nat) : W.rangeAt B o (C.extract o (o + n)).toList := World.rangeAt_of_block h o n
theorem Blk.range0 (h : Blk W B C t) : W.rangeAt B 0 C.toList := fun j v hv => by rw [h.cell]; simpa using hv
theorem Blk.new (W : World) (C : Array Value) (t : TypeId) : Blk (W.alloc (.cells C t)) W.heap.size C t := heap_alloc_new W _
theorem Blk.frozen (h : Blk W B C t) (j : Nat) : W.frozen? ⟨B, j, none⟩ = false := by simp [World.frozen?, show W.heap[B]? = _ from h]
end
structure Oth (B : Nat) (W W' : World) : Prop where
 size : W'.heap.size = W.heap.size
 block : ∀ b, b ≠ B → W'.heap[b]? = W.heap[b]?
 below : ∀ A w, A ≤ B → Below A w W → Below A w W'
theorem Oth.setCell (W : World) (B j : Nat) (v : Value) : Oth B W (W.setCell ⟨B, j, none⟩ v) :=
 ⟨by simp [World.setCell], fun b hb => Below.heap_setCell _ _ _ _ hb, fun A w hA h => h.setCell (p := ⟨B, j, none⟩) hA v⟩
theorem Oth.trans {B : Nat} {W W' W'' : World} (h : Oth B W W') (k : Oth B W' W'') : Oth B W W'' :=
 ⟨k.size.trans h.size, fun b hb => (k.block b hb).trans (h.block b hb), fun A w hA q => k.below A w hA (h.below A w hA q)⟩
theorem Oth.refl (B : Nat) (W : World) : Oth B W W := ⟨rfl, fun _ _ => rfl, fun _ _ _ h => h⟩
theorem Oth.setCells (B : Nat) : ∀ (vs : List Value) (W : World) (o : Nat), Oth B W (W.setCells B o vs)
 | [], W, o => Oth.refl B W
 | v :: r, W, o => by rw [World.setCells]; exact (Oth.setCell W B o v).trans (Oth.setCells B r _ _)
variable {t : TypeId}
theorem Blk.other {W W' : World} {B g : Nat} {C : Array Value} (h : Blk W B C t) (k : Oth g W W') (hne : B ≠ g) : Blk W' B C t := (k.block B hne).trans h
theorem Blk.set {W : World} {B : Nat} {C : Array Value} (h : Blk W B C t) (j : Nat) (v : Value) : Blk (W.setCell ⟨B, j, none⟩ v) B (C.setIfInBounds j v) t := heap_setCell_same W B j _ t v h
theorem Blk.some_part {B : Nat} : ∀ (vs : List Value) (W : World) (C : Array Value) (o : Nat), Blk W B C t → ∃ X, Blk (W.setCells B o vs) B X t ∧ X.size = C.size
 | [], W, C, o, h => ⟨C, h, rfl⟩
 | v :: r, W, C, o, h => by
  rw [World.setCells]
  obtain ⟨X, h1, h2⟩ := Blk.some_part r _ _ (o + 1) (h.set o v)
  exact ⟨X, h1, by rw [h2]; simp⟩
theorem Blk.part {W : World} {B o : Nat} {old C : Array Value} (hB : Blk W B old t) (hs : o + C.size ≤ old.size) : Blk (W.setCells B o C.toList) B (old.extract 0 o ++ C ++ old.extract (o + C.size) old.size) t := by
 obtain ⟨X, h1, h2⟩ := Blk.some_part C.toList W old o hB
 have ht : ∀ i, i < C.toList.length → (W.cell? ⟨B, o + i, none⟩).isSome = true := fun i hi => by
  rw [hB.cell, Array.getElem?_eq_getElem (by simp at hi; omega)]; rfl
 have e : X = old.extract 0 o ++ C ++ old.extract (o + C.size) old.size := by
  apply Array.ext_getElem?
  intro j
  rw [← h1.cell j]
  by_cases hj : o ≤ j ∧ j < o + C.size
  ·obtain ⟨k, rfl⟩ : ∃ k, j = o + k := ⟨j - o, by omega⟩
   rw [World.cell?_setCells_in B C.toList o W ht k (by simp; omega)]
   rw [Array.getElem?_append, if_pos (by simp; omega), Array.getElem?_append, if_neg (by simp; omega)]
   simp
   rw [show o + k - min o old.size = k by omega, Array.getElem?_eq_getElem (by omega)]
  ·rw [World.cell?_setCells_out B C.toList o W ⟨B, j, none⟩ (fun _ _ => by simp; omega), hB.cell]
   by_cases hj2 : j < o
   ·rw [Array.getElem?_append, if_pos (by simp; omega), Array.getElem?_append, if_pos (by simp; omega)]
    rw [Array.getElem?_extract, if_pos (by omega)]; simp
   ·rw [Array.getElem?_append, if_neg (by simp; omega)]
    rw [Array.getElem?_extract]
    have hz : (old.extract 0 o ++ C).size = o + C.size := by simp; omega
    rw [hz]
    by_cases hj3 : j < old.size
    ·rw [if_pos (by omega)]
     rw [show o + C.size + (j - (o + C.size)) = j by omega]
    ·rw [if_neg (by omega)]; simp; omega
 rw [← e]; exact h1
structure Bx (W : World) (B : Nat) (C : Array Value) (x : Ob) : Prop where
 blk : Blk W B C 43
 ob : ObD (Ex B W) W C x
section
variable {W W' : World} {B : Nat} {C : Array Value} {x : Ob}
theorem Bx.next (h : Bx W B C x) (k : Below W.heap.size W W') : Bx W' B C x := ⟨h.blk.next k, (h.ob.laterK fun b hb => k.block b hb.1).wide fun b hb => ⟨ltz hb.1 k.size, hb.2⟩⟩
theorem Bx.of {w : World} (h : ObD (LtN w) w C x) (hB : Hid (w.heap.size = B ∧ W.heap.size = B + 1)) (hb : Blk W B C 43) (k : Below w.heap.size w W) : Bx W B C x :=
 ⟨hb, (h.laterK fun b hb => k.block b hb).wide fun b hb' => ⟨ltz hb' k.size, by have := hB.out.1; have := hb'; omega⟩⟩
theorem Bx.other {g : Nat} (h : Bx W B C x) (k : Oth g W W') (hg : ∀ b, b < g → Ex B W b → Ex B W b) (hne : B ≠ g) (hD : ObD (fun b => Ex B W b ∧ b ≠ g) W C x) : Bx W' B C x :=
 ⟨h.blk.other k hne, (hD.laterK fun b hb => k.block b hb.2).wide fun b hb => ⟨by rw [k.size]; exact hb.1.1, hb.1.2⟩⟩
end
section
variable {P : Program} {ops : Array Oper} {rest : List Oper} {op : Oper} {a : Act} {Q : Exit → Act → World → Prop} {w : World}
theorem qcz (hgd : op.guard = none) (ty : TypeId) (x : Operand) (ho : op.op = .box ty x) (C : Array Value) (hx : a.eval x = .agg C)
  (h : ∀ B W, Hid (w.heap.size = B ∧ W.heap.size = B + 1) → Blk W B C ty → Below w.heap.size w W → wpList P ops Q rest (a.put op.dst (.pointer (some ⟨B, 0, none⟩))) W) : wpList P ops Q (op :: rest) a w :=
 wpList_plain hgd fun K hK => by
  unfold Oper.wp execOp
  simp only [ho, hx, Instr.box, newVar, newRow, newObj, Sem.run_bind, Value.cells]
  exact hK _ _ (h _ _ ⟨rfl, by simp⟩ (Blk.new w C ty) ((brz _ w).alloc (lrz _) _))
theorem qfz (hgd : op.guard = none) (ty : TypeId) (ho : op.op = .alloc ty) (z : Array Value) (hz : ∀ w, (zeroValue ty).run P w = .ok (.agg z) w)
  (h : ∀ B W, Hid (w.heap.size = B ∧ W.heap.size = B + 1) → Blk W B z ty → Below w.heap.size w W → wpList P ops Q rest (a.put op.dst (.pointer (some ⟨B, 0, none⟩))) W) : wpList P ops Q (op :: rest) a w :=
 wpList_plain hgd fun K hK => by
  unfold Oper.wp execOp
  simp only [ho, Instr.alloc, hz, newVar, newRow, newObj, Sem.run_bind, Value.cells, Result.andThen_ok]
  exact hK _ _ (h _ _ ⟨rfl, by simp⟩ (Blk.new w z ty) ((brz _ w).alloc (lrz _) _))
theorem qlz (hgd : op.guard = none) (ty : TypeId) (x : Operand) (ho : op.op = .load ty x) (B : Nat) (hx : a.eval x = .pointer (some ⟨B, 0, none⟩)) (C : Array Value) (hB : Blk w B C ty) (d : TypeDesc)
  (hu : P.underlying ty = some d) (hd : d.isRow = true) (hi : (P.info? ty).map (·.size) = some C.size) (h : wpList P ops Q rest (a.put op.dst (.agg C)) w) : wpList P ops Q (op :: rest) a w :=
 wpList_load_mid hgd ty x ho B 0 hx C.toList d hB.range0 hu hd (by simpa using hi) h
theorem qbz (hgd : op.guard = none) (ty : TypeId) (x y : Operand) (ho : op.op = .store ty x y) (B : Nat) (hx : a.eval x = .pointer (some ⟨B, 0, none⟩)) (C : Array Value) (hy : a.eval y = .agg C) (old : Array Value) (hB : Blk w B old ty)
  (hi : (P.info? ty).map (·.size) = some C.size) (hs : old.size = C.size) (h1 : C.all (·.oneCell') = true)
  (h : ∀ W, Blk W B C ty → Oth B w W → wpList P ops Q rest (a.put op.dst undef) W) : wpList P ops Q (op :: rest) a w := by
 have hrow := run_storeVar_row (P := P) w B ty ty old C hB hi hs h1
 have ht : w.there B 0 C.size := fun j hj => ⟨by rw [hB.cell, Nat.zero_add, Array.getElem?_eq_getElem (by omega)]; rfl, hB.frozen _⟩
 have hmid := run_storeVar_mid (P := P) w B 0 ty C ht hi h1
 rw [hrow] at hmid
 have e : w.setRow B C = w.setCells B 0 C.toList := by injection hmid
 refine wpList_store_mid hgd ty x y ho B 0 C hx hy ht hi h1 (h _ ?_ (Oth.setCells B _ _ _))
 rw [← e]
 show (w.heap.modify B _)[B]? = _
 rw [Array.getElem?_modify, if_pos rfl, show w.heap[B]? = _ from hB]
 rfl
theorem wkz (hgd : op.guard = none) (ty : TypeId) (x y : Operand) (ho : op.op = .store ty x y) (B o : Nat) (hx : a.eval x = .pointer (some ⟨B, o, none⟩)) (C : Array Value) (hy : a.eval y = .agg C) (old : Array Value) (t : TypeId) (hB : Blk w B old t)
  (hi : (P.info? ty).map (·.size) = some C.size) (hs : o + C.size ≤ old.size) (h1 : C.all (·.oneCell') = true)
  (h : ∀ W, Blk W B (old.extract 0 o ++ C ++ old.extract (o + C.size) old.size) t → Oth B w W → wpList P ops Q rest (a.put op.dst undef) W) : wpList P ops Q (op :: rest) a w := by
 have ht : w.there B o C.size := fun j hj => ⟨by rw [hB.cell, Array.getElem?_eq_getElem (by omega)]; rfl, hB.frozen _⟩
 exact wpList_store_mid hgd ty x y ho B o C hx hy ht hi h1 (h _ (Blk.part hB hs) (Oth.setCells B _ _ _))
theorem qLz (hgd : op.guard = none) (t : TypeId) (parts : List (Nat × Operand)) (ho : op.op = .build t parts.toArray) (cells : Array Value) (hf : P.built t (parts.map fun p => (p.1, a.eval p.2)) = some cells)
  (h : wpList P ops Q rest (a.put op.dst (.agg cells)) w) : wpList P ops Q (op :: rest) a w := by
 have hf' : P.built t (parts.toArray.map fun (i, x) => (i, a.eval x)).toList = some cells := by simpa using hf
 exact wpList_plain hgd fun K hK => wp_build t parts.toArray ho (by rw [hf']; rfl) (by rw [hf']; exact hK _ _ h)
theorem qiz (hgd : op.guard = none) (ty : TypeId) (x y : Operand) (ho : op.op = .store ty x y) (B j : Nat) (hx : a.eval x = .pointer (some ⟨B, j, none⟩)) (v : Value) (hy : a.eval y = v) (hv : v.cells = #[v]) (C : Array Value) (t : TypeId) (hB : Blk w B C t)
  (hi : (P.info? ty).map (·.size) = some 1) (hs : j < C.size) (h1 : v.oneCell' = true)
  (h : ∀ W, Blk W B (C.setIfInBounds j v) t → Oth B w W → wpList P ops Q rest (a.put op.dst undef) W) : wpList P ops Q (op :: rest) a w := by
 have ht : w.there B j 1 := fun i hi => ⟨by rw [hB.cell, Array.getElem?_eq_getElem (by omega)]; rfl, hB.frozen _⟩
 have := run_storeCells_cells (P := P) B j [v] 0 w (fun i hi => by simpa using (ht i (by simpa using hi)).1) (fun i hi => by simpa using (ht i (by simpa using hi)).2) (fun u hu => by simp at hu; rw [hu]; exact h1)
 refine wpList_plain hgd fun K hK => ?_
 cases hq : P.info? ty with
 | none => simp [hq] at hi
 | some i =>
  have hs : i.size = 1 := by simpa [hq] using hi
  simp only [Nat.add_zero] at this
  unfold Oper.wp execOp
  simp only [ho, hx, hy, Instr.storeAt, Instr.sureAddr, Sem.run_bind, Sem.run_pure, Result.andThen_ok]
  have e : (storeVar ty ⟨B, j, none⟩ v).run P w = .ok () (w.setCells B j [v]) := by simp [storeVar, sizeOf, typeInfo, hq, hv, hs, this]
  rw [e]
  exact hK _ _ (h _ (hB.set j v) (Oth.setCell w B j v))
end
end
section
open Go.RowKit Go.Shelf
attribute [local go_sem] Oper.semAt_some
def zT : Array Value := #[.int .u64 0, .int .u64 0, .int .u64 0, .int .u64 0, .int .u64 0, .int .u64 0, .int .u64 0, .int .u64 0, .int .u64 0, .int .u64 0, .int .u64 0, .int .u64 0, .int .u64 0, .int .u64 0, .int .u64 0, .int .u64 0, .int .u64 0, .slice none 0 0, .int .u64 0, .int .u64 0, .int .u64 0, .int .u64 0, .int .i64 0, .int .u64 0, .int .u64 0, .int .u64 0, .int .u64 0, .bool false, .slice none 0 0, .int .u64 0, .int .u64 0, .slice none 0 0, .slice none 0 0, .slice none 0 0, .slice none 0 0]
def zG : Array Value := #[.slice none 0 0, .slice none 0 0, .int .u64 0, .int .u64 0, .int .u64 0, .int .u64 0]
def comC (a b c d e : Value) : Array Value := #[a, b, c, d, e, .slice none 0 0, .slice none 0 0, .slice none 0 0, .int .u64 0, .int .u64 0, .int .u64 0, .int .u64 0, .int .u64 0, .int .u64 0, .int .u64 0, .int .u64 0, .int .u64 0, .int .u64 0, .int .u64 0, .int .u64 0, .int .u64 0, .int .u64 0, .int .u64 0, .int .u64 0, .int .u64 0, .slice none 0 0, .int .u64 0, .int .u64 0, .int .u64 0, .int .u64 0, .int .i64 0, .int .u64 0, .int .u64 0, .int .u64 0, .int .u64 0, .bool false, .slice none 0 0, .int .u64 0, .int .u64 0, .slice none 0 0, .slice none 0 0, .slice none 0 0, .slice none 0 0, .slice none 0 0, .slice none 0 0, .int .u64 0, .int .u64 0, .int .u64 0, .int .u64 0, .slice none 0 0, .slice none 0 0]
def zC : Array Value := comC (.int .u64 0) (.int .i64 0) (.slice none 0 0) (.int .i64 0) (.bool false)
theorem qzz (w : World) : (zeroValue 43).run prog w = .ok (.agg zC) w := Tryz.zeroValue43 w
theorem size40 : (prog.info? 43).map (·.size) = some 51 := by kernel_rfl
variable {C : Array Value}
theorem qez (h : C.size = 51) : (prog.info? 43).map (·.size) = some C.size := by rw [h]; exact size40
theorem qoz : zC.size = 51 := by kernel_rfl
variable {w : World}
theorem jpz {fn : Func} {p : Tmp} (h : fn.results = #[.cell p 43]) {tmps : Array Value} {B : Nat} (hp : tmps.getD p undef = .pointer (some ⟨B, 0, none⟩)) (hB : Blk w B C 43) (hs : C.size = 51) : (results fn tmps).run prog w = .ok (.agg C) w :=
 results_cell_row h tmps w B 43 C (0, 0) _ hp hB underlying43 rfl (qez hs)
theorem zTh_f (D : Nat → Prop) (w : World) : ThF D w (fun i => zT[i]?) zTh := by
 refine ⟨rfl, ?_, rfl, LbV.zero _ _, rfl, rfl, rfl, rfl, rfl, rfl, rfl, rfl, rfl, rfl, CtV.zero _ _, rfl, rfl, LbV.zero _ _, LbV.zero _ _, LbV.zero _ _, LbV.zero _ _⟩
 intro i hi
 rcases i with _ | _ | _ | _ | _ | _ | _ | _ | _ | _ | _ | _ | _ | _ | _ | _ | i
 all_goals first | rfl | (exfalso; omega)
theorem zGt_f (D : Nat → Prop) (w : World) : GtF D w (fun i => zG[i]?) zGt := ⟨LbV.zero _ _, LbV.zero _ _, rfl, rfl, rfl, rfl⟩
theorem zT_one : zT.all (·.oneCell') = true := by kernel_rfl
theorem zG_one : zG.all (·.oneCell') = true := by kernel_rfl
theorem zTh_d (D : Nat → Prop) (w : World) : ThD D w zT zTh := ⟨by kernel_rfl, zT_one, zTh_f D w⟩
theorem zGt_d (D : Nat → Prop) (w : World) : GtD D w zG zGt := ⟨by kernel_rfl, zG_one, zGt_f D w⟩
theorem comC_t (a b c d e : Value) : (comC a b c d e).extract 8 (8 + 35) = zT := by kernel_rfl
theorem comC_g (a b c d e : Value) : (comC a b c d e).extract 43 (43 + 6) = zG := by kernel_rfl
theorem wPz {D : Nat → Prop} {i k q : Int} {f : Bool} {ao : Option Addr} {n cap : Nat} {L : Lb} (h : LabD D w ao n cap L) : ObD D w (comC (.int .u64 i) (.int .i64 k) (.slice ao n cap) (.int .i64 q) (.bool f)) ⟨i, k, L, q, f, [], [], [], zTh, zGt, [], []⟩ := by
 have hs : (comC (.int .u64 i) (.int .i64 k) (.slice ao n cap) (.int .i64 q) (.bool f)).size = 51 := by kernel_rfl
 refine ⟨hs, by kernel_rfl, rfl, rfl, ⟨ao, n, cap, rfl, h⟩, rfl, rfl, CtV.zero _ _, CtV.zero _ _, MpV.zero _ _, ?_, ?_, CtV.zero _ _, CtV.zero _ _⟩
 ·refine (zTh_f D w).congr fun i hi => ?_
  rw [← comC_t (.int .u64 _) (.int .i64 _) (.slice ao n cap) (.int .i64 _) (.bool _)]
  exact wpz (by rw [hs]; omega) hi
 ·refine (zGt_f D w).congr fun i hi => ?_
  rw [← comC_g (.int .u64 _) (.int .i64 _) (.slice ao n cap) (.int .i64 _) (.bool _)]
  exact wpz (by rw [hs]; omega) hi
theorem zC_d (D : Nat → Prop) (w : World) : ObD D w zC zOb := wPz (LabD.nil D w)
theorem wEz (i k : Int) (ao : Option Addr) (n cap : Nat) (q : Int) (f : Bool) : prog.built 43 [(0, .int .u64 i), (1, .int .i64 k), (2, .slice ao n cap), (3, .int .i64 q), (4, .bool f)] = some (comC (.int .u64 i) (.int .i64 k) (.slice ao n cap) (.int .i64 q) (.bool f)) := by kernel_rfl
theorem common_any {x : Ob} (h : ObD (LtN w) w C x) :
  Calls prog 114 #[.agg C] w fun e w' => ∃ C', e = .returned (.agg C') ∧ ObD (LtN w') w' C' (comO x) ∧ Below w.heap.size w w' := by
 obtain ⟨ao, n, cap, c2, hL⟩ := h.label
 have c0 := h.id
 have c1 := h.kind
 have c3 := h.quota
 have c4 := h.fixed
 have hd := wPz (i := x.id) (k := x.kind) (q := x.quota) (f := x.fixed) hL
 go_enter func114, ntmps114
 go_wp2_with (first
  | (with_reducible refine qcz rfl _ _ rfl C rfl ?_; intro B W hB hb hk)
  | (with_reducible refine qfz rfl _ rfl zC qzz ?_; intro B' W' hB' hb' hk'; have q0 := ((hb.next hk').cell 0).trans c0; have q1 := ((hb.next hk').cell 1).trans c1; have q2 := ((hb.next hk').cell 2).trans c2; have q3 := ((hb.next hk').cell 3).trans c3; have q4 := ((hb.next hk').cell 4).trans c4)
  | ((with_reducible refine qLz rfl _ _ rfl (comC (.int .u64 x.id) (.int .i64 x.kind) (.slice ao n cap) (.int .i64 x.quota) (.bool x.fixed)) ?hf ?_); (case hf => exact wEz _ _ _ _ _ _ _))
  | ((with_reducible refine qbz rfl _ _ _ rfl B' rfl (comC (.int .u64 x.id) (.int .i64 x.kind) (.slice ao n cap) (.int .i64 x.quota) (.bool x.fixed)) rfl zC hb' (qez hd.size) (qoz.trans hd.size.symm) hd.one ?_); intro W2 b2 o2))
 have b1 := btz hk hk'
 have hlt := hk.size
 refine bodyPost_ret (v := .agg _) (jpz results114 rfl b2 hd.size) rfl ?_
 exact ⟨_, rfl, (hd.laterK fun b hb => ((o2.block b (by have := hB'.out.1; have := show b < w.heap.size from hb; omega)).trans (b1.block b hb))).wide fun b hb => by rw [LtN, o2.size]; exact ltz hb b1.size, o2.below _ _ (by have := hB'.out.1; omega) b1⟩
theorem xbz : (prog.info? 39).map (·.size) = some 35 := by kernel_rfl
theorem kwz : (prog.info? 41).map (·.size) = some 6 := by kernel_rfl
theorem wGz : (prog.info? 28).map (·.size) = some 1 := by kernel_rfl
theorem uKz : (prog.info? 29).map (·.size) = some 1 := by kernel_rfl
theorem x6z : (prog.info? 27).map (·.size) = some 1 := by kernel_rfl
theorem built36 : prog.built 39 [] = some zT := by kernel_rfl
theorem built38 : prog.built 41 [] = some zG := by kernel_rfl
theorem urz : zT.size = 35 := by kernel_rfl
theorem usz : zG.size = 6 := by kernel_rfl
theorem app3_get {A T E : Array Value} {o n i : Nat} (ha : A.size = o) (ht : T.size = n) : (A ++ T ++ E)[i]? = if i < o then A[i]? else if i < o + n then T[i - o]? else E[i - (o + n)]? := by
 rw [Array.getElem?_append, Array.getElem?_append]
 have : (A ++ T).size = o + n := by simp [ha, ht]
 rw [this, ha]
 by_cases h1 : i < o
 ·rw [if_pos (by omega), if_pos h1, if_pos h1]
 ·by_cases h2 : i < o + n
  ·rw [if_pos h2, if_neg h1, if_neg h1, if_pos h2]
  ·rw [if_neg h2, if_neg h1, if_neg h2]
theorem jsz {A T : Array Value} (h : A.all (·.oneCell') = true) (k : T.all (·.oneCell') = true) : (A ++ T).all (·.oneCell') = true := by
 refine jPz fun j v e => ?_
 rw [Array.getElem?_append] at e
 split at e
 ·exact jOz h e
 ·exact jOz k e
section
variable {D : Nat → Prop} {w : World} {C T G : Array Value} {x : Ob}
theorem ykz {n o i : Nat} (hs : C.size = 51) (hT : T.size = n) (ho : o + n ≤ 51) : (C.extract 0 o ++ T ++ C.extract (o + T.size) C.size)[i]? = if i < o then C[i]? else if i < o + n then T[i - o]? else C[i]? := by
 rw [app3_get (o := o) (n := n) (by simp; omega) hT]
 by_cases h1 : i < o
 ·rw [if_pos h1, if_pos h1, Array.getElem?_extract, if_pos (by omega), Nat.zero_add]
 ·rw [if_neg h1, if_neg h1]
  by_cases h2 : i < o + n
  ·rw [if_pos h2, if_pos h2]
  ·rw [if_neg h2, if_neg h2, Array.getElem?_extract, hT]
   by_cases h3 : i < 51
   ·rw [if_pos (by omega), show o + n + (i - (o + n)) = i by omega]
   ·rw [if_neg (by omega)]; simp; omega
theorem ObD.setT {t : Th} (h : ObD D w C x) (k : ThD D w T t) : ObD D w (C.extract 0 8 ++ T ++ C.extract (8 + T.size) C.size) { x with th := t } := by
 have e : ∀ i, (C.extract 0 8 ++ T ++ C.extract (8 + T.size) C.size)[i]? = if i < 8 then C[i]? else if i < 8 + 35 then T[i - 8]? else C[i]? := fun i => ykz h.size k.size (by omega)
 exact ⟨by simp [h.size, k.size], jsz (jsz (x1z h.one) k.one) (x1z h.one), by rw [e, if_pos (by omega)]; exact h.id, by rw [e, if_pos (by omega)]; exact h.kind, by rw [e, if_pos (by omega)]; exact h.label, by rw [e, if_pos (by omega)]; exact h.quota, by rw [e, if_pos (by omega)]; exact h.fixed, by rw [e, if_pos (by omega)]; exact h.links, by rw [e, if_pos (by omega)]; exact h.data, by rw [e, if_pos (by omega)]; exact h.maps, k.f.congr fun i hi => by rw [e, if_neg (by omega), if_pos (by omega), show 8 + i - 8 = i by omega], h.gt.congr fun i hi => by rw [e, if_neg (by omega), if_neg (by omega)], by rw [e, if_neg (by omega), if_neg (by omega)]; exact h.inn, by rw [e, if_neg (by omega), if_neg (by omega)]; exact h.out⟩
theorem ObD.setG {t : Gt} (h : ObD D w C x) (k : GtD D w T t) : ObD D w (C.extract 0 43 ++ T ++ C.extract (43 + T.size) C.size) { x with gt := t } := by
 have e : ∀ i, (C.extract 0 43 ++ T ++ C.extract (43 + T.size) C.size)[i]? = if i < 43 then C[i]? else if i < 43 + 6 then T[i - 43]? else C[i]? := fun i => ykz h.size k.size (by omega)
 exact ⟨by simp [h.size, k.size], jsz (jsz (x1z h.one) k.one) (x1z h.one), by rw [e, if_pos (by omega)]; exact h.id, by rw [e, if_pos (by omega)]; exact h.kind, by rw [e, if_pos (by omega)]; exact h.label, by rw [e, if_pos (by omega)]; exact h.quota, by rw [e, if_pos (by omega)]; exact h.fixed, by rw [e, if_pos (by omega)]; exact h.links, by rw [e, if_pos (by omega)]; exact h.data, by rw [e, if_pos (by omega)]; exact h.maps, h.th.congr fun i hi => by rw [e, if_pos (by omega)], k.f.congr fun i hi => by rw [e, if_neg (by omega), if_pos (by omega), show 43 + i - 43 = i by omega], by rw [e, if_neg (by omega), if_neg (by omega)]; exact h.inn, by rw [e, if_neg (by omega), if_neg (by omega)]; exact h.out⟩
end
variable {x : Ob}
theorem wit1 (h : x.kind = 1) : witO x = { x with data := [] } := by unfold witO; rw [if_pos h]
theorem alo1 (h : x.kind = 1) : aloO x = { comO x with data := x.data } := by unfold aloO; rw [if_pos h]; rfl
theorem wit2 (h : x.kind = 2) : witO x = { x with links := [] } := by unfold witO; rw [if_neg (by omega), if_pos h]
theorem alo2 (h : x.kind = 2) : aloO x = { comO x with links := x.links } := by unfold aloO; rw [if_neg (by omega), if_pos h]; rfl
theorem wit3 (h : x.kind = 3) : witO x = { x with maps := [] } := by unfold witO; rw [if_neg (by omega), if_neg (by omega), if_pos h]
theorem alo3 (h : x.kind = 3) : aloO x = { comO x with maps := x.maps } := by unfold aloO; rw [if_neg (by omega), if_neg (by omega), if_pos h]; rfl
theorem wit4 (h : x.kind = 4) : witO x = { x with th := zTh } := by unfold witO; rw [if_neg (by omega), if_neg (by omega), if_neg (by omega), if_pos h]
theorem alo4 (h : x.kind = 4) : aloO x = { comO x with th := x.th } := by unfold aloO; rw [if_neg (by omega), if_neg (by omega), if_neg (by omega), if_pos h]; rfl
theorem wit5 (h : x.kind = 5) : witO x = { x with gt := zGt } := by unfold witO; rw [if_neg (by omega), if_neg (by omega), if_neg (by omega), if_neg (by omega), if_pos h]
theorem alo5 (h : x.kind = 5) : aloO x = { comO x with gt := x.gt } := by unfold aloO; rw [if_neg (by omega), if_neg (by omega), if_neg (by omega), if_neg (by omega), if_pos h]; rfl
theorem wit6 (h : x.kind = 6) : witO x = { x with inn := [], out := [] } := by unfold witO; rw [if_neg (by omega), if_neg (by omega), if_neg (by omega), if_neg (by omega), if_neg (by omega), if_pos h]
theorem alo6 (h : x.kind = 6) : aloO x = { comO x with inn := x.inn, out := x.out } := by unfold aloO; rw [if_neg (by omega), if_neg (by omega), if_neg (by omega), if_neg (by omega), if_neg (by omega), if_pos h]; rfl
theorem wit7 (h : ¬ (1 ≤ x.kind ∧ x.kind ≤ 6)) : witO x = x := by unfold witO; rw [if_neg (by omega), if_neg (by omega), if_neg (by omega), if_neg (by omega), if_neg (by omega), if_neg (by omega)]
theorem alo7 (h : ¬ (1 ≤ x.kind ∧ x.kind ≤ 6)) : aloO x = comO x := by unfold aloO; rw [if_neg (by omega), if_neg (by omega), if_neg (by omega), if_neg (by omega), if_neg (by omega), if_neg (by omega)]
theorem vAz {w : World} {C : Array Value} (h : ObD (LtN w) w C x) :
  Calls prog 113 #[.agg C] w fun e w' => ∃ C', e = .returned (.agg C') ∧ ObD (LtN w') w' C' (witO x) ∧ Below w.heap.size w w' := by
 have hz := h.size
 by_cases h1 : x.kind = 1
 ·have c1 : C[1]? = some (.int .i64 1) := h.kind.trans (by rw [h1])
  have hd := h.set6 (CtV.zero _ _) rfl
  rw [wit1 h1]
  clear h1
  go_enter func113, ntmps113
  go_wp2_with (first
   | (with_reducible refine qcz rfl _ _ rfl C rfl ?_; intro B W hB hb hk)
   | (with_reducible refine qfz rfl _ rfl zC qzz ?_; intro B' W' hB' hb' hk'; have q1 := ((hb.next hk').cell 1).trans c1; have hne : B ≠ B' := (by have := hB'.out.1; have := hb.lt; omega); have hbb := hb.next hk'; have b1 := btz hk hk'; have hl : w.heap.size ≤ B := (by have := hB.out.1; omega); have hl' : w.heap.size ≤ B' := (by have := hB'.out.1; have := hk.size; omega))
   | ((with_reducible refine qiz rfl _ _ _ rfl B 6 rfl (.slice none 0 0) rfl rfl _ _ hbb wGz (by simp [hz]) rfl ?_); intro W2 b2 o2; have e2 := hb'.other o2 hne.symm; have k2 := o2.below w.heap.size w hl b1)
   | ((with_reducible refine qlz rfl _ _ rfl B rfl _ b2 _ underlying43 rfl (qez hd.size) ?_))
   | ((with_reducible refine qbz rfl _ _ _ rfl B' rfl _ rfl zC e2 (qez hd.size) (qoz.trans hd.size.symm) hd.one ?_); intro W9 b9 o9))
  have b9' := o9.below w.heap.size w hl' (k2)
  refine bodyPost_ret (v := .agg _) (jpz results113 rfl b9 hd.size) rfl ?_
  exact ⟨_, rfl, hd.next b9', b9'⟩
 by_cases h2 : x.kind = 2
 ·have c1 : C[1]? = some (.int .i64 2) := h.kind.trans (by rw [h2])
  have hd := h.set5 (CtV.zero _ _) rfl
  rw [wit2 h2]
  clear h1 h2
  go_enter func113, ntmps113
  go_wp2_with (first
   | (with_reducible refine qcz rfl _ _ rfl C rfl ?_; intro B W hB hb hk)
   | (with_reducible refine qfz rfl _ rfl zC qzz ?_; intro B' W' hB' hb' hk'; have q1 := ((hb.next hk').cell 1).trans c1; have hne : B ≠ B' := (by have := hB'.out.1; have := hb.lt; omega); have hbb := hb.next hk'; have b1 := btz hk hk'; have hl : w.heap.size ≤ B := (by have := hB.out.1; omega); have hl' : w.heap.size ≤ B' := (by have := hB'.out.1; have := hk.size; omega))
   | ((with_reducible refine qiz rfl _ _ _ rfl B 5 rfl (.slice none 0 0) rfl rfl _ _ hbb wGz (by simp [hz]) rfl ?_); intro W2 b2 o2; have e2 := hb'.other o2 hne.symm; have k2 := o2.below w.heap.size w hl b1)
   | ((with_reducible refine qlz rfl _ _ rfl B rfl _ b2 _ underlying43 rfl (qez hd.size) ?_))
   | ((with_reducible refine qbz rfl _ _ _ rfl B' rfl _ rfl zC e2 (qez hd.size) (qoz.trans hd.size.symm) hd.one ?_); intro W9 b9 o9))
  have b9' := o9.below w.heap.size w hl' (k2)
  refine bodyPost_ret (v := .agg _) (jpz results113 rfl b9 hd.size) rfl ?_
  exact ⟨_, rfl, hd.next b9', b9'⟩
 by_cases h3 : x.kind = 3
 ·have c1 : C[1]? = some (.int .i64 3) := h.kind.trans (by rw [h3])
  have hd := h.set7 (MpV.zero _ _) rfl
  rw [wit3 h3]
  clear h1 h2 h3
  go_enter func113, ntmps113
  go_wp2_with (first
   | (with_reducible refine qcz rfl _ _ rfl C rfl ?_; intro B W hB hb hk)
   | (with_reducible refine qfz rfl _ rfl zC qzz ?_; intro B' W' hB' hb' hk'; have q1 := ((hb.next hk').cell 1).trans c1; have hne : B ≠ B' := (by have := hB'.out.1; have := hb.lt; omega); have hbb := hb.next hk'; have b1 := btz hk hk'; have hl : w.heap.size ≤ B := (by have := hB.out.1; omega); have hl' : w.heap.size ≤ B' := (by have := hB'.out.1; have := hk.size; omega))
   | ((with_reducible refine qiz rfl _ _ _ rfl B 7 rfl (.slice none 0 0) rfl rfl _ _ hbb uKz (by simp [hz]) rfl ?_); intro W2 b2 o2; have e2 := hb'.other o2 hne.symm; have k2 := o2.below w.heap.size w hl b1)
   | ((with_reducible refine qlz rfl _ _ rfl B rfl _ b2 _ underlying43 rfl (qez hd.size) ?_))
   | ((with_reducible refine qbz rfl _ _ _ rfl B' rfl _ rfl zC e2 (qez hd.size) (qoz.trans hd.size.symm) hd.one ?_); intro W9 b9 o9))
  have b9' := o9.below w.heap.size w hl' (k2)
  refine bodyPost_ret (v := .agg _) (jpz results113 rfl b9 hd.size) rfl ?_
  exact ⟨_, rfl, hd.next b9', b9'⟩
 by_cases h4 : x.kind = 4
 ·have c1 : C[1]? = some (.int .i64 4) := h.kind.trans (by rw [h4])
  have hd := h.setT (zTh_d _ _)
  rw [wit4 h4]
  clear h1 h2 h3 h4
  go_enter func113, ntmps113
  go_wp2_with (first
   | (with_reducible refine qcz rfl _ _ rfl C rfl ?_; intro B W hB hb hk)
   | (with_reducible refine qfz rfl _ rfl zC qzz ?_; intro B' W' hB' hb' hk'; have q1 := ((hb.next hk').cell 1).trans c1; have hne : B ≠ B' := (by have := hB'.out.1; have := hb.lt; omega); have hbb := hb.next hk'; have b1 := btz hk hk'; have hl : w.heap.size ≤ B := (by have := hB.out.1; omega); have hl' : w.heap.size ≤ B' := (by have := hB'.out.1; have := hk.size; omega))
   | ((with_reducible refine qLz rfl _ [] rfl zT ?hf ?_); (case hf => exact built36))
   | ((with_reducible refine wkz rfl _ _ _ rfl B 8 rfl zT rfl _ _ hbb (by rw [urz]; exact xbz) (by rw [urz, hz]; omega) zT_one ?_); intro W2 b2 o2; have e2 := hb'.other o2 hne.symm; have k2 := o2.below w.heap.size w hl b1)
   | ((with_reducible refine qlz rfl _ _ rfl B rfl _ b2 _ underlying43 rfl (qez hd.size) ?_))
   | ((with_reducible refine qbz rfl _ _ _ rfl B' rfl _ rfl zC e2 (qez hd.size) (qoz.trans hd.size.symm) hd.one ?_); intro W9 b9 o9))
  have b9' := o9.below w.heap.size w hl' (k2)
  refine bodyPost_ret (v := .agg _) (jpz results113 rfl b9 hd.size) rfl ?_
  exact ⟨_, rfl, hd.next b9', b9'⟩
 by_cases h5 : x.kind = 5
 ·have c1 : C[1]? = some (.int .i64 5) := h.kind.trans (by rw [h5])
  have hd := h.setG (zGt_d _ _)
  rw [wit5 h5]
  clear h1 h2 h3 h4 h5
  go_enter func113, ntmps113
  go_wp2_with (first
   | (with_reducible refine qcz rfl _ _ rfl C rfl ?_; intro B W hB hb hk)
   | (with_reducible refine qfz rfl _ rfl zC qzz ?_; intro B' W' hB' hb' hk'; have q1 := ((hb.next hk').cell 1).trans c1; have hne : B ≠ B' := (by have := hB'.out.1; have := hb.lt; omega); have hbb := hb.next hk'; have b1 := btz hk hk'; have hl : w.heap.size ≤ B := (by have := hB.out.1; omega); have hl' : w.heap.size ≤ B' := (by have := hB'.out.1; have := hk.size; omega))
   | ((with_reducible refine qLz rfl _ [] rfl zG ?hf ?_); (case hf => exact built38))
   | ((with_reducible refine wkz rfl _ _ _ rfl B 43 rfl zG rfl _ _ hbb (by rw [usz]; exact kwz) (by rw [usz, hz]; omega) zG_one ?_); intro W2 b2 o2; have e2 := hb'.other o2 hne.symm; have k2 := o2.below w.heap.size w hl b1)
   | ((with_reducible refine qlz rfl _ _ rfl B rfl _ b2 _ underlying43 rfl (qez hd.size) ?_))
   | ((with_reducible refine qbz rfl _ _ _ rfl B' rfl _ rfl zC e2 (qez hd.size) (qoz.trans hd.size.symm) hd.one ?_); intro W9 b9 o9))
  have b9' := o9.below w.heap.size w hl' (k2)
  refine bodyPost_ret (v := .agg _) (jpz results113 rfl b9 hd.size) rfl ?_
  exact ⟨_, rfl, hd.next b9', b9'⟩
 by_cases h6 : x.kind = 6
 ·have c1 : C[1]? = some (.int .i64 6) := h.kind.trans (by rw [h6])
  have hd := (h.set49 (CtV.zero _ _) rfl).set50 (CtV.zero _ _) rfl
  rw [wit6 h6]
  clear h1 h2 h3 h4 h5 h6
  go_enter func113, ntmps113
  go_wp2_with (first
   | (with_reducible refine qcz rfl _ _ rfl C rfl ?_; intro B W hB hb hk)
   | (with_reducible refine qfz rfl _ rfl zC qzz ?_; intro B' W' hB' hb' hk'; have q1 := ((hb.next hk').cell 1).trans c1; have hne : B ≠ B' := (by have := hB'.out.1; have := hb.lt; omega); have hbb := hb.next hk'; have b1 := btz hk hk'; have hl : w.heap.size ≤ B := (by have := hB.out.1; omega); have hl' : w.heap.size ≤ B' := (by have := hB'.out.1; have := hk.size; omega))
   | ((with_reducible refine qiz rfl _ _ _ rfl B 49 rfl (.slice none 0 0) rfl rfl _ _ hbb wGz (by simp [hz]) rfl ?_); intro W2 b2 o2; have e2 := hb'.other o2 hne.symm; have k2 := o2.below w.heap.size w hl b1)
   | ((with_reducible refine qiz rfl _ _ _ rfl B 50 rfl (.slice none 0 0) rfl rfl _ _ b2 wGz (by simp [hz]) rfl ?_); intro W3 b3 o3; have e3 := e2.other o3 hne.symm; have k3 := o3.below w.heap.size w hl k2)
   | ((with_reducible refine qlz rfl _ _ rfl B rfl _ b3 _ underlying43 rfl (qez hd.size) ?_))
   | ((with_reducible refine qbz rfl _ _ _ rfl B' rfl _ rfl zC e3 (qez hd.size) (qoz.trans hd.size.symm) hd.one ?_); intro W9 b9 o9))
  have b9' := o9.below w.heap.size w hl' (k3)
  refine bodyPost_ret (v := .agg _) (jpz results113 rfl b9 hd.size) rfl ?_
  exact ⟨_, rfl, hd.next b9', b9'⟩
 ·have c1 := h.kind
  have g1 : (x.kind == 1) = false := by rw [beq_eq_false_iff_ne]; exact h1
  have g2 : (x.kind == 2) = false := by rw [beq_eq_false_iff_ne]; exact h2
  have g3 : (x.kind == 3) = false := by rw [beq_eq_false_iff_ne]; exact h3
  have g4 : (x.kind == 4) = false := by rw [beq_eq_false_iff_ne]; exact h4
  have g5 : (x.kind == 5) = false := by rw [beq_eq_false_iff_ne]; exact h5
  have g6 : (x.kind == 6) = false := by rw [beq_eq_false_iff_ne]; exact h6
  have hd := h
  rw [wit7 (by omega)]
  clear h1 h2 h3 h4 h5 h6
  go_enter func113, ntmps113
  go_wp2_with (first
   | (with_reducible refine qcz rfl _ _ rfl C rfl ?_; intro B W hB hb hk)
   | (with_reducible refine qfz rfl _ rfl zC qzz ?_; intro B' W' hB' hb' hk'; have q1 := ((hb.next hk').cell 1).trans c1; have hne : B ≠ B' := (by have := hB'.out.1; have := hb.lt; omega); have hbb := hb.next hk'; have b1 := btz hk hk'; have hl : w.heap.size ≤ B := (by have := hB.out.1; omega); have hl' : w.heap.size ≤ B' := (by have := hB'.out.1; have := hk.size; omega))
   | ((with_reducible refine qlz rfl _ _ rfl B rfl _ hbb _ underlying43 rfl (qez hd.size) ?_))
   | ((with_reducible refine qbz rfl _ _ _ rfl B' rfl _ rfl zC hb' (qez hd.size) (qoz.trans hd.size.symm) hd.one ?_); intro W9 b9 o9))
  have b9' := o9.below w.heap.size w hl' (b1)
  refine bodyPost_ret (v := .agg _) (jpz results113 rfl b9 hd.size) rfl ?_
  exact ⟨_, rfl, hd.next b9', b9'⟩
section
variable {P : Program} {ops : Array Oper} {rest : List Oper} {op : Oper} {a : Act} {Q : Exit → Act → World → Prop} {w : World}
theorem wZz (hw : Region.wanted op (yielded ops a.tmps) = true) (h : op.wp P a w (wpList P ops Q rest) Q) : wpList P ops Q (op :: rest) a w := by
 unfold wpList
 rw [if_pos hw]
 exact .inl h
theorem kpz (hw : Region.wanted op (yielded ops a.tmps) = false) (h : wpList P ops Q rest (a.put op.dst undef) w) : wpList P ops Q (op :: rest) a w := by
 unfold wpList
 rw [if_neg (by rw [hw]; exact Bool.false_ne_true)]
 exact h
theorem q9z {v : Value} (hw : Region.wanted op (yielded ops a.tmps) = true) (hr : (execOp a.eval op).run P w = .ok (.value v) w) (h : wpList P ops Q rest (a.put op.dst v) w) : wpList P ops Q (op :: rest) a w :=
 wZz hw (by unfold Oper.wp; rw [hr]; exact h)
theorem qgz {X : Prop} (hw : Region.wanted op (yielded ops a.tmps) = true) (f : BinOp) (t t' : TypeId) (x y : Operand) (ho : op.op = .binOp f t x y t') (u v : Value) (hx : a.eval x = u) (hy : a.eval y = v)
  (hr : ∃ b : Bool, (do eqGuard f t x y u v; binOp f t u v).run P w = .ok (.bool b) w ∧ (b = true ↔ X))
  (h : Hid X → wpList P ops Q rest (a.put op.dst (.bool true)) w) (h' : Hid (¬ X) → wpList P ops Q rest (a.put op.dst (.bool false)) w) : wpList P ops Q (op :: rest) a w := by
 obtain ⟨b, hr, hb⟩ := hr
 refine q9z hw (by unfold execOp; simp only [ho, hx, hy]; rw [Sem.run_bind, hr]; rfl) ?_
 cases b with
 | true => exact h (hb.1 rfl)
 | false => exact h' fun x => absurd (hb.2 x) Bool.false_ne_true
theorem qpz (hw : Region.wanted op (yielded ops a.tmps) = true) (ty : TypeId) (x : Operand) (ho : op.op = .load ty x) (B o : Nat) (hx : a.eval x = .pointer (some ⟨B, o, none⟩)) (n : Nat) (C : Array Value) (t : TypeId) (hB : Blk w B C t) (V : Array Value) (hV : C.extract o (o + n) = V) (hs : o + n ≤ C.size) (d : TypeDesc)
  (hu : P.underlying ty = some d) (hd : d.isRow = true) (hi : (P.info? ty).map (·.size) = some n) (h : wpList P ops Q rest (a.put op.dst (.agg V)) w) : wpList P ops Q (op :: rest) a w := by
 subst hV
 refine q9z hw ?_ h
 unfold execOp
 simp only [ho, hx, Sem.run_bind, run_loadAt_mid w B o ty (C.extract o (o + n)).toList d (hB.range o n) hu hd (by rw [hi]; simp; omega), Result.andThen_ok, Array.toArray_toList]
 rfl
theorem qaz (hw : Region.wanted op (yielded ops a.tmps) = true) (ty : TypeId) (x : Operand) (ho : op.op = .load ty x) (B o : Nat) (hx : a.eval x = .pointer (some ⟨B, o, none⟩)) (C : Array Value) (t : TypeId) (hB : Blk w B C t) (v : Value) (hv : C[o]? = some v)
  (hg : ∀ w, (isAgg ty).run P w = .ok false w) (h : wpList P ops Q rest (a.put op.dst v) w) : wpList P ops Q (op :: rest) a w := by
 refine q9z hw ?_ h
 have hc : w.cell? ⟨B, o, none⟩ = some v := (hB.cell o).trans hv
 unfold execOp
 simp [ho, hx, Instr.loadAt, Instr.sureAddr, loadVar, hg, hc]
end
section
variable {w : World}
theorem quz (t : TypeId) (x y : Operand) (k : IntKind) (m n : Int) : ∃ b : Bool, (do eqGuard .eql t x y (.int k m) (.int k n); binOp .eql t (.int k m) (.int k n)).run prog w = .ok (.bool b) w ∧ (b = true ↔ m = n) :=
 ⟨m == n, by simp [eqGuard, binOp, Op.intCmp], by simp⟩
theorem q2z (t : TypeId) (x y : Operand) (k : IntKind) (m n : Int) : ∃ b : Bool, (do eqGuard .neq t x y (.int k m) (.int k n); binOp .neq t (.int k m) (.int k n)).run prog w = .ok (.bool b) w ∧ (b = true ↔ ¬ m = n) :=
 ⟨m != n, by simp [eqGuard, binOp, Op.intCmp], by simp⟩
theorem yIz (x y : Operand) (m n : Bool) : ∃ b : Bool, (do eqGuard .eql 4 x y (.bool m) (.bool n); binOp .eql 4 (.bool m) (.bool n)).run prog w = .ok (.bool b) w ∧ (b = true ↔ m = n) :=
 ⟨m == n, by simp [eqGuard, binOp, Op.equal, show Op.maxDepth = 9999 + 1 from rfl, run_equalIn_bool' w 9999 4 m n underlying4], by simp⟩
theorem yvz (x y : Operand) (m n : Bool) : ∃ b : Bool, (do eqGuard .neq 4 x y (.bool m) (.bool n); binOp .neq 4 (.bool m) (.bool n)).run prog w = .ok (.bool b) w ∧ (b = true ↔ ¬ m = n) :=
 ⟨m != n, by simp [eqGuard, binOp, Op.equal, show Op.maxDepth = 9999 + 1 from rfl, run_equalIn_bool' w 9999 4 m n underlying4]; cases m <;> cases n <;> rfl, by simp⟩
theorem kMz {f : BinOp} {t : TypeId} (ht : prog.eqGuardType prog.depth t = false) (x y : Operand) (u v : Array Value) {b : Bool} (h : (binOp f t (.agg u) (.agg v)).run prog w = .ok (.bool b) w) : (do eqGuard f t x y (.agg u) (.agg v); binOp f t (.agg u) (.agg v)).run prog w = .ok (.bool b) w := by
 rw [Sem.run_bind, run_eqGuard_agg w f t x y u v ht]
 exact h
theorem kLz (x y : Operand) (a b c d : Int) : ∃ q : Bool, (do eqGuard .eql 32 x y (.agg #[.int .u64 a, .int .u64 b]) (.agg #[.int .u64 c, .int .u64 d]); binOp .eql 32 (.agg #[.int .u64 a, .int .u64 b]) (.agg #[.int .u64 c, .int .u64 d])).run prog w = .ok (.bool q) w ∧ (q = true ↔ (a = c ∧ b = d)) := by
 refine ⟨a == c && b == d, kMz Tryz.eqGuardType32 x y _ _ ?_, by simp⟩
 by_cases h1 : a = c <;> by_cases h2 : b = d <;> simp [go_sem, h1, h2]
theorem jFz (x y : Operand) (a b c d : Int) : ∃ q : Bool, (do eqGuard .eql 36 x y (.agg #[.int .u64 a, .int .u64 b]) (.agg #[.int .u64 c, .int .u64 d]); binOp .eql 36 (.agg #[.int .u64 a, .int .u64 b]) (.agg #[.int .u64 c, .int .u64 d])).run prog w = .ok (.bool q) w ∧ (q = true ↔ (a = c ∧ b = d)) := by
 refine ⟨a == c && b == d, kMz Tryz.eqGuardType36 x y _ _ ?_, by simp⟩
 by_cases h1 : a = c <;> by_cases h2 : b = d <;> simp [go_sem, h1, h2]
theorem yez (f : BinOp) (hf : f = .eql ∨ f = .neq) (a1 a2 a3 a4 b1 b2 b3 b4 : Int) (a5 b5 : Bool) : ∃ q : Bool, (binOp f 34 (.agg #[.int .u64 a1, .int .u64 a2, .int .u64 a3, .int .u64 a4, .bool a5]) (.agg #[.int .u64 b1, .int .u64 b2, .int .u64 b3, .int .u64 b4, .bool b5])).run prog w = .ok (.bool (if f = .eql then q else !q)) w ∧ (q = true ↔ (a1 = b1 ∧ a2 = b2 ∧ a3 = b3 ∧ a4 = b4 ∧ a5 = b5)) := by
 refine ⟨a1 == b1 && (a2 == b2 && (a3 == b3 && (a4 == b4 && a5 == b5))), ?_, by simp⟩
 rcases hf with rfl | rfl <;> (by_cases h1 : a1 = b1 <;> by_cases h2 : a2 = b2 <;> by_cases h3 : a3 = b3 <;> by_cases h4 : a4 = b4 <;> first | (simp [go_sem, h1, h2, h3, h4]; done) | (cases a5 <;> cases b5 <;> simp [go_sem, h1, h2, h3, h4]))
theorem knz (x y : Operand) (a1 a2 a3 a4 b1 b2 b3 b4 : Int) (a5 b5 : Bool) : ∃ q : Bool, (do eqGuard .eql 34 x y (.agg #[.int .u64 a1, .int .u64 a2, .int .u64 a3, .int .u64 a4, .bool a5]) (.agg #[.int .u64 b1, .int .u64 b2, .int .u64 b3, .int .u64 b4, .bool b5]); binOp .eql 34 (.agg #[.int .u64 a1, .int .u64 a2, .int .u64 a3, .int .u64 a4, .bool a5]) (.agg #[.int .u64 b1, .int .u64 b2, .int .u64 b3, .int .u64 b4, .bool b5])).run prog w = .ok (.bool q) w ∧ (q = true ↔ (a1 = b1 ∧ a2 = b2 ∧ a3 = b3 ∧ a4 = b4 ∧ a5 = b5)) := by
 obtain ⟨q, h1, h2⟩ := yez (w := w) .eql (.inl rfl) a1 a2 a3 a4 b1 b2 b3 b4 a5 b5
 exact ⟨q, kMz Tryz.eqGuardType34 x y _ _ h1, h2⟩
theorem neg_wait (x y : Operand) (a1 a2 a3 a4 b1 b2 b3 b4 : Int) (a5 b5 : Bool) : ∃ q : Bool, (do eqGuard .neq 34 x y (.agg #[.int .u64 a1, .int .u64 a2, .int .u64 a3, .int .u64 a4, .bool a5]) (.agg #[.int .u64 b1, .int .u64 b2, .int .u64 b3, .int .u64 b4, .bool b5]); binOp .neq 34 (.agg #[.int .u64 a1, .int .u64 a2, .int .u64 a3, .int .u64 a4, .bool a5]) (.agg #[.int .u64 b1, .int .u64 b2, .int .u64 b3, .int .u64 b4, .bool b5])).run prog w = .ok (.bool q) w ∧ (q = true ↔ ¬ (a1 = b1 ∧ a2 = b2 ∧ a3 = b3 ∧ a4 = b4 ∧ a5 = b5)) := by
 obtain ⟨q, h1, h2⟩ := yez (w := w) .neq (.inr rfl) a1 a2 a3 a4 b1 b2 b3 b4 a5 b5
 exact ⟨!q, kMz Tryz.eqGuardType34 x y _ _ h1, by rw [← h2]; cases q <;> simp⟩
theorem jHz : ∀ (n : Nat) (d : Nat) (l m : List Int), n ≤ l.length → n ≤ m.length → ∀ (is : List Nat), (∀ i ∈ is, i < n) → (Op.eqItems (d + 1) 22 1 (l.map (Value.int .u64)).toArray (m.map (Value.int .u64)).toArray is).run prog w = .ok (is.all fun i => l.getD i 0 == m.getD i 0) w := by
 intro n d l m hl hm is
 induction is with
 | nil => intro _; simp [Op.eqItems]
 | cons i is ih =>
  intro h
  have hi := h i (by simp)
  have p1 : (part 22 (l.map (Value.int .u64)).toArray (i * 1)).run prog w = .ok (.int .u64 (l.getD i 0)) w := by
   simp [part, isAgg22, List.getD, List.getElem?_eq_getElem (show i < l.length by omega)]
  have p2 : (part 22 (m.map (Value.int .u64)).toArray (i * 1)).run prog w = .ok (.int .u64 (m.getD i 0)) w := by
   simp [part, isAgg22, List.getD, List.getElem?_eq_getElem (show i < m.length by omega)]
  simp only [Op.eqItems, Sem.run_bind, p1, p2, Result.andThen_ok, run_equalIn_int w d 22 .u64 .u64 _ _ underlying22]
  cases hb : (l.getD i 0 == m.getD i 0)
  ·simp only [Bool.not_false, if_true, List.all_cons, hb, Bool.false_and, Sem.run_pure]
  ·simp only [Bool.not_true, Bool.false_eq_true, if_false, List.all_cons, hb, Bool.true_and]
   exact ih fun j hj => h j (by simp [hj])
theorem vxz : ∀ (l m : List Int), l.length = m.length → (((List.range l.length).all fun i => l.getD i 0 == m.getD i 0) = true ↔ l = m)
 | [], [], _ => by simp
 | x :: xs, y :: ys, h => by
  have ih := vxz xs ys (by simpa using h)
  rw [List.length_cons, List.range_succ_eq_map, List.all_cons, List.all_map]
  simp only [List.getD_cons_zero, Function.comp_def, List.getD_cons_succ, Bool.and_eq_true, ih]
  simp
 | [], _ :: _, h => by simp at h
 | _ :: _, [], h => by simp at h
theorem jGz (x y : Operand) (l m : List Int) (hl : l.length = 16) (hm : m.length = 16) : ∃ q : Bool, (do eqGuard .eql 30 x y (.agg (l.map (Value.int .u64)).toArray) (.agg (m.map (Value.int .u64)).toArray); binOp .eql 30 (.agg (l.map (Value.int .u64)).toArray) (.agg (m.map (Value.int .u64)).toArray)).run prog w = .ok (.bool q) w ∧ (q = true ↔ l = m) := by
 refine ⟨(List.range 16).all fun i => l.getD i 0 == m.getD i 0, kMz Tryz.eqGuardType30 x y _ _ ?_, by have := vxz l m (by rw [hl, hm]); rw [hl] at this; exact this⟩
 obtain ⟨i0, hi0⟩ : ∃ i0, prog.info? 22 = some i0 := Option.isSome_iff_exists.1 (by kernel_rfl)
 have hcells : prog.cellsOf 22 = 1 := by kernel_rfl
 rw [run_eql_struct, show 10000 = 9999 + 1 from rfl, run_equalIn_array w 9999 _ _ underlying30 hi0, hcells, show 9999 = 9998 + 1 from rfl, jHz 16 9998 l m (by omega) (by omega) (List.range 16) (fun i hi => List.mem_range.1 hi)]
 rfl
end
def AskP (X : Prop) (W : World) (e : Ending) (w' : World) : Prop := ∃ b : Bool, e = .returned (.bool b) ∧ Hid (b = true ↔ X) ∧ Below W.heap.size W w'
def Asks (f : FuncId) (args : Array Value) (X : Prop) (W : World) : Prop := Calls prog f args W (AskP X W)
theorem Asks.on {f : FuncId} {args : Array Value} {X : Prop} {W : World} {R : Ending → World → Prop} (h : Asks f args X W) (k : ∀ w', Hid X → Below W.heap.size W w' → R (.returned (.bool true)) w') (k' : ∀ w', Hid (¬ X) → Below W.heap.size W w' → R (.returned (.bool false)) w') : Calls prog f args W R := by
 refine Calls.mono h ?_
 rintro e w' ⟨b, rfl, hb, hk⟩
 cases b with
 | true => exact k w' (hb.out.1 rfl) hk
 | false => exact k' w' (fun x => absurd (hb.out.2 x) Bool.false_ne_true) hk
theorem qkz {X Y : Prop} {W w' : World} (h : Hid (¬ Y)) (hk : Below W.heap.size W w') (k : X → Y) : AskP X W (.returned (.bool false)) w' := ⟨false, rfl, ⟨fun e => absurd e Bool.false_ne_true, fun e => absurd (k e) h.out⟩, hk⟩
theorem qrz {X : Prop} {W w' : World} (k : X) (hk : Below W.heap.size W w') : AskP X W (.returned (.bool true)) w' := ⟨true, rfl, ⟨fun _ => k, fun _ => rfl⟩, hk⟩
theorem x5z : (prog.info? 32).map (·.size) = some 2 := by kernel_rfl
theorem kZz : (prog.info? 36).map (·.size) = some 2 := by kernel_rfl
theorem k0z : (prog.info? 34).map (·.size) = some 5 := by kernel_rfl
theorem ycz : (prog.info? 30).map (·.size) = some 16 := by kernel_rfl
section
variable {w0 W : World} {ao ao' : Option Addr} {n n' cap cap' : Nat}
theorem LabD.lab' {L : Lb} (h : LabD (LtN w0) w0 ao n cap L) (k : Below w0.heap.size w0 W) : Lab W.heap.size W ao n cap L := (h.laterK fun b hb => k.block b hb).wide fun b hb => ltz hb k.size
theorem CtD.ct' {L : List Int} (h : CtD (LtN w0) w0 ao n cap L) (k : Below w0.heap.size w0 W) : CtD (LtN W) W ao n cap L := (h.laterK fun b hb => k.block b hb).wide fun b hb => ltz hb k.size
theorem MpD.mp' {L : List PgM.Pg.Mp} (h : MpD (LtN w0) w0 ao n cap L) (k : Below w0.heap.size w0 W) : PgM.Mps W.heap.size W ao n cap L := PgM.MpsD.wide (PgM.MpsD.laterK h fun b hb => k.block b hb) fun b hb => ltz hb k.size
theorem eqL {L L' : Lb} (h : LabD (LtN w0) w0 ao n cap L) (h' : LabD (LtN w0) w0 ao' n' cap' L') (k : Below w0.heap.size w0 W) : Asks 143 #[.slice ao n cap, .slice ao' n' cap'] (L = L') W := by
 refine (same_any (h.lab' k) (lrz _) (h'.lab' k) (lrz _)).mono ?_
 rintro e w' ⟨rfl, hb⟩
 exact ⟨_, rfl, by unfold sameB; exact decide_eq_true_iff, hb⟩
theorem reqL {L L' : Lb} (h : LabD (LtN w0) w0 ao n cap L) (h' : LabD (LtN w0) w0 ao' n' cap' L') (k : Below w0.heap.size w0 W) : Asks 76 #[.slice ao n cap, .slice ao' n' cap'] (L = L') W := by
 refine (rsame_any (h.lab' k) (lrz _) (h'.lab' k) (lrz _)).mono ?_
 rintro e w' ⟨rfl, hb⟩
 exact ⟨_, rfl, by unfold sameB; exact decide_eq_true_iff, hb⟩
theorem yjz {L M : List PgM.Pg.Mp} : PgM.Pg.sameB L M = true ↔ L = M := by
 constructor
 ·intro h
  unfold PgM.Pg.sameB at h
  rw [Bool.and_eq_true, beq_iff_eq, List.all_eq_true] at h
  obtain ⟨h1, h2⟩ := h
  apply List.ext_getElem h1
  intro i q1 q2
  have := PgM.Pg.eqB_iff.1 (h2 i (List.mem_range.2 q1))
  rwa [PgM.Pg.mat_get q1, PgM.Pg.mat_get q2] at this
 ·rintro rfl; exact PgM.Pg.sameB_refl _
theorem eqM {L L' : List PgM.Pg.Mp} (h : MpD (LtN w0) w0 ao n cap L) (h' : MpD (LtN w0) w0 ao' n' cap' L') (k : Below w0.heap.size w0 W) : Asks 145 #[.slice ao n cap, .slice ao' n' cap'] (L = L') W := by
 refine (PgM.same_any (MpD.mp' h k) (MpD.mp' h' k)).mono ?_
 rintro e w' ⟨rfl, hb⟩
 exact ⟨_, rfl, yjz, hb⟩
theorem reqM {L L' : List PgM.Pg.Mp} (h : MpD (LtN w0) w0 ao n cap L) (h' : MpD (LtN w0) w0 ao' n' cap' L') (k : Below w0.heap.size w0 W) : Asks 78 #[.slice ao n cap, .slice ao' n' cap'] (L = L') W := by
 refine (PgM.rsame_any (MpD.mp' h k) (MpD.mp' h' k)).mono ?_
 rintro e w' ⟨rfl, hb⟩
 exact ⟨_, rfl, yjz, hb⟩
end
section
variable {D : Nat → Prop} {w : World} {T : Array Value} {t : Th} {g : Gt}
theorem ext2 {C : Array Value} {o : Nat} {u v : Value} (h : C[o]? = some u) (h' : C[o + 1]? = some v) : C.extract o (o + 2) = #[u, v] := by
 have hs : o + 1 < C.size := (Array.getElem?_eq_some_iff.1 h').1
 apply Array.ext_getElem?
 intro i
 rcases i with _ | _ | i
 ·rw [wpz (n := 2) (by omega) (by omega)]; exact h
 ·rw [wpz (n := 2) (by omega) (by omega)]; exact h'
 ·rw [Array.getElem?_extract, if_neg (by omega)]; simp
end
variable {w : World}
theorem j2z {G G' : Array Value} {g g' : Gt} (h : GtD (LtN w) w G g) (h' : GtD (LtN w) w G' g') :
  Asks 147 #[.agg G, .agg G'] (g = g') w := by
 have hz := h.size
 have hz' := h'.size
 obtain ⟨a0, n0, k0, c0, l0⟩ := h.f.grant
 obtain ⟨a1, n1, k1, c1, l1⟩ := h.f.clear
 obtain ⟨a0', n0', k0', c0', l0'⟩ := h'.f.grant
 obtain ⟨a1', n1', k1', c1', l1'⟩ := h'.f.clear
 have x2 := ext2 h.f.sc h.f.si
 have x2' := ext2 h'.f.sc h'.f.si
 have c4 := h.f.pc
 have c5 := h.f.arg
 have c4' := h'.f.pc
 have c5' := h'.f.arg
 have g24 := isAgg27
 have g22 := isAgg22
 unfold Asks
 go_enter func147, ntmps147
 go_wp2_with (first
  | go_skip
  | (with_reducible refine qcz rfl _ _ rfl G rfl ?_; intro B W hB hb hk)
  | (with_reducible refine qcz rfl _ _ rfl G' rfl ?_; intro B' W' hB' hb' hk'; replace hb := hb.next hk'; replace hk := btz hk hk'; clear hk')
  | (with_reducible refine qaz (by kernel_rfl) _ _ rfl B _ rfl _ _ hb _ (by assumption) (by assumption) ?_)
  | (with_reducible refine qaz (by kernel_rfl) _ _ rfl B' _ rfl _ _ hb' _ (by assumption) (by assumption) ?_)
  | (with_reducible refine qpz (by kernel_rfl) 32 _ rfl B _ rfl 2 _ _ hb _ (by assumption) (by omega) _ underlying32 (by kernel_rfl) x5z ?_)
  | (with_reducible refine qpz (by kernel_rfl) 32 _ rfl B' _ rfl 2 _ _ hb' _ (by assumption) (by omega) _ underlying32 (by kernel_rfl) x5z ?_)
  | ((with_reducible refine qgz (by kernel_rfl) .eql _ _ _ _ rfl _ _ rfl rfl (quz _ _ _ _ _ _) ?_ ?_) <;> intro hq)
  | ((with_reducible refine qgz (by kernel_rfl) .eql _ _ _ _ rfl _ _ rfl rfl (kLz _ _ _ _ _ _) ?_ ?_) <;> intro hq)
  | (go_at_call 143; (with_reducible refine (eqL (by assumption) (by assumption) hk).on ?_ ?_) <;> (intro w1 hq hb1; replace hb := hb.next hb1; replace hb' := hb'.next hb1; replace hk := btz hk hb1; clear hb1)))
 all_goals go_ret
 all_goals first
  | exact qkz (by assumption) hk (fun e => by rw [e]; exact ⟨rfl, rfl⟩)
  | exact qkz (by assumption) hk (fun e => by rw [e])
  | (exact qrz (gAz.1 ⟨Hid.out (by assumption), Hid.out (by assumption), Hid.out (by assumption), Hid.out (by assumption), Hid.out (by assumption)⟩) hk)
theorem CtD.at {D : Nat → Prop} {ao : Option Addr} {n cap : Nat} {L : List Int} (h : CtD D w ao n cap L) {i : Nat} (hi : i < n) : ∃ (b off : Nat) (x : Int), ao = some ⟨b, off, none⟩ ∧ D b ∧ Hid (L.getD i 0 = x) ∧ w.cell? ⟨b, off + i, none⟩ = some (.int .u64 x) := by
 obtain ⟨b, off, e, hb, hc⟩ := h.2.2.2 (by omega)
 exact ⟨b, off, _, e, hb, rfl, hc i hi⟩
theorem yGz {p q : Nat → Int} {k : Nat} (h : ∀ i, i < k → p i = q i) (hk : p k = q k) : ∀ i, i < k + 1 → p i = q i := fun i hi => by
 rcases Nat.lt_or_ge i k with h' | h'
 ·exact h i h'
 ·have : i = k := by omega
  rw [this]; exact hk
variable {L M : List Int}
theorem jTz (h : L.length = M.length) (k : ∀ i, i < L.length → L.getD i 0 = M.getD i 0) : L = M := by
 apply List.ext_getElem h
 intro i h1 h2
 have := k i h1
 simpa [List.getD_eq_getElem?_getD, List.getElem?_eq_getElem h1, List.getElem?_eq_getElem h2] using this
theorem eqU {w0 w : World} {a a' : Option Addr} {n c n' c' : Nat} (h0 : CtD (LtN w0) w0 a n c L) (h0' : CtD (LtN w0) w0 a' n' c' M) (k : Below w0.heap.size w0 w) :
  Asks 144 #[.slice a n c, .slice a' n' c'] (L = M) w := by
 have h := h0.ct' k
 have h' := h0'.ct' k
 clear h0 h0' k
 have hn : Hid (L.length = n) := h.1
 have hn' : Hid (M.length = n') := h'.1
 have hnc := h.2.1
 have hcm := h.2.2.1.1
 have hnc' := h'.2.1
 have hcm' := h'.2.2.1.1
 unfold Asks
 by_cases hnn : n = n'
 ·subst hnn
  go_enter func144, ntmps144
  go_wp2
  go_loopw [13] (fun i wr => ∃ k : Nat, k ≤ n ∧ i = .int .i64 k ∧ Hid (∀ j, j < k → L.getD j 0 = M.getD j 0) ∧ Below w.heap.size w wr) (fun i _ => n - (intOf i).toNat)
  case atStart => exact ⟨0, Nat.zero_le _, rfl, fun j hj => absurd hj (by omega), brz _ _⟩
  case round =>
   obtain ⟨k, hk, rfl, hal, hb⟩ := hrel
   by_cases hkn : k < n
   ·obtain ⟨b, off, x, rfl, hB, hx, c0⟩ := (h.laterK fun b hb' => hb.block b hb').at hkn
    obtain ⟨b', off', y, rfl, hB', hy, d0⟩ := (h'.laterK fun b hb' => hb.block b hb').at hkn
    have hkn' : (k : Int) < n := by omega
    by_cases hxx : x = y
    ·have hal2 : Hid (∀ j, j < k + 1 → L.getD j 0 = M.getD j 0) := yGz hal.out (by rw [hx.out, hy.out, hxx])
     subst hxx
     go_wp2
     go_quiet (fail)
     go_wp2
     go_roundw
     case rel => exact ⟨k + 1, by omega, by go_num, hal2, PgM.below_drewN hb _⟩
     case measure => simp [intOf]; omega
    ·have hf : Hid (¬ L = M) := by
      refine (?_ : ¬ L = M)
      intro e; apply hxx; rw [← hx.out, ← hy.out, e]
     have hd : (x == y) = false := by rw [beq_eq_false_iff_ne]; exact hxx
     clear hxx
     go_wp2
     go_quiet (fail)
     go_wp2
     go_ret
     exact qkz hf (PgM.below_drewN hb _) id
   ·obtain rfl : k = n := by omega
    have hf : Hid (L = M) := jTz (by rw [hn.out, hn'.out]) (fun i hi => hal.out i (by rw [hn.out] at hi; exact hi))
    go_wp2
    go_ret
    exact qrz hf.out hb
 ·have hf : Hid (¬ L = M) := by
   refine (?_ : ¬ L = M)
   intro e; apply hnn; rw [← hn.out, ← hn'.out, e]
  have hne : ((n : Int) == (n' : Int)) = false := by simp; omega
  go_enter func144, ntmps144
  go_wp2
  go_ret
  exact qkz hf (brz _ _) id
theorem reqU {w0 w : World} {a a' : Option Addr} {n c n' c' : Nat} (h0 : CtD (LtN w0) w0 a n c L) (h0' : CtD (LtN w0) w0 a' n' c' M) (k : Below w0.heap.size w0 w) :
  Asks 77 #[.slice a n c, .slice a' n' c'] (L = M) w := by
 have h := h0.ct' k
 have h' := h0'.ct' k
 clear h0 h0' k
 have hn : Hid (L.length = n) := h.1
 have hn' : Hid (M.length = n') := h'.1
 have hnc := h.2.1
 have hcm := h.2.2.1.1
 have hnc' := h'.2.1
 have hcm' := h'.2.2.1.1
 unfold Asks
 by_cases hnn : n = n'
 ·subst hnn
  go_enter func77, ntmps77
  go_wp2
  go_loopw [5] (fun i wr => ∃ k : Nat, k ≤ n ∧ i = .int .i64 k ∧ Hid (∀ j, j < k → L.getD j 0 = M.getD j 0) ∧ Below w.heap.size w wr) (fun i _ => n - (intOf i).toNat)
  case atStart => exact ⟨0, Nat.zero_le _, rfl, fun j hj => absurd hj (by omega), brz _ _⟩
  case round =>
   obtain ⟨k, hk, rfl, hal, hb⟩ := hrel
   by_cases hkn : k < n
   ·obtain ⟨b, off, x, rfl, hB, hx, c0⟩ := (h.laterK fun b hb' => hb.block b hb').at hkn
    obtain ⟨b', off', y, rfl, hB', hy, d0⟩ := (h'.laterK fun b hb' => hb.block b hb').at hkn
    have hkn' : (k : Int) < n := by omega
    by_cases hxx : x = y
    ·have hal2 : Hid (∀ j, j < k + 1 → L.getD j 0 = M.getD j 0) := yGz hal.out (by rw [hx.out, hy.out, hxx])
     subst hxx
     go_wp2
     go_quiet (fail)
     go_wp2
     go_roundw
     case rel => exact ⟨k + 1, by omega, by go_num, hal2, PgM.below_drewN hb _⟩
     case measure => simp [intOf]; omega
    ·have hf : Hid (¬ L = M) := by
      refine (?_ : ¬ L = M)
      intro e; apply hxx; rw [← hx.out, ← hy.out, e]
     have hd : (x == y) = false := by rw [beq_eq_false_iff_ne]; exact hxx
     clear hxx
     go_wp2
     go_quiet (fail)
     go_wp2
     go_ret
     exact qkz hf (PgM.below_drewN hb _) id
   ·obtain rfl : k = n := by omega
    have hf : Hid (L = M) := jTz (by rw [hn.out, hn'.out]) (fun i hi => hal.out i (by rw [hn.out] at hi; exact hi))
    go_wp2
    go_ret
    exact qrz hf.out hb
 ·have hf : Hid (¬ L = M) := by
   refine (?_ : ¬ L = M)
   intro e; apply hnn; rw [← hn.out, ← hn'.out, e]
  have hne : ((n : Int) == (n' : Int)) = false := by simp; omega
  go_enter func77, ntmps77
  go_wp2
  go_ret
  exact qkz hf (brz _ _) id
def Four (w : World) (b o : Nat) (R : Nat → Lb) : Prop := b < w.heap.size ∧ ∀ i, i < 4 → LbV (LtN w) w (w.cell? ⟨b, o + i, none⟩) (R i)
theorem Four.next {w w' : World} {b o : Nat} {R : Nat → Lb} (h : Four w b o R) (k : Below w.heap.size w w') : Four w' b o R :=
 ⟨ltz h.1 k.size, fun i hi => by rw [k.cell (p := ⟨b, o + i, none⟩) h.1]; exact (h.2 i hi).next k⟩
def labs (t : Th) : Nat → Lb
 | 0 => t.l0
 | 1 => t.l1
 | 2 => t.l2
 | _ => t.l3
theorem yxz {a b : Th} : (∀ i, i < 4 → labs a i = labs b i) ↔ (a.l0 = b.l0 ∧ a.l1 = b.l1 ∧ a.l2 = b.l2 ∧ a.l3 = b.l3) :=
 ⟨fun h => ⟨h 0 (by omega), h 1 (by omega), h 2 (by omega), h 3 (by omega)⟩, fun h i hi => by
  rcases i with _ | _ | _ | _ | i
  ·exact h.1
  ·exact h.2.1
  ·exact h.2.2.1
  ·exact h.2.2.2
  ·omega⟩
theorem ThD.four {B : Nat} {T : Array Value} {t : Th} {ty : TypeId} (h : ThD (LtN w) w T t) (hb : Blk w B T ty) : Four w B 31 (labs t) := by
 refine ⟨hb.lt, fun i hi => ?_⟩
 rw [hb.cell]
 rcases i with _ | _ | _ | _ | i
 ·exact h.f.l0
 ·exact h.f.l1
 ·exact h.f.l2
 ·exact h.f.l3
 ·omega
theorem gtz {w w' : World} {ao : Option Addr} {n cap : Nat} {L : Lb} (h : LabD (LtN w) w ao n cap L) (k : Below w.heap.size w w') : LabD (LtN w') w' ao n cap L := (h.laterK fun b hb => k.block b hb).wide fun b hb => ltz hb k.size
theorem four_any {b b' o o' : Nat} {R R' : Nat → Lb} (h : Four w b o R) (h' : Four w b' o' R') :
  Asks 169 #[.slice (some ⟨b, o, none⟩) 4 4, .slice (some ⟨b', o', none⟩) 4 4, .func (.func 143) #[] #[]] (∀ i, i < 4 → R i = R' i) w := by
 unfold Asks
 go_enter func169, ntmps169
 go_wp2
 go_loopw [17] (fun i wr => ∃ k : Nat, k ≤ 4 ∧ i = .int .i64 k ∧ Hid (∀ j, j < k → R j = R' j) ∧ Below w.heap.size w wr) (fun i _ => 4 - (intOf i).toNat)
 case atStart => exact ⟨0, Nat.zero_le _, rfl, fun j hj => absurd hj (by omega), brz _ _⟩
 case round =>
  obtain ⟨k, hk, rfl, hal, hb⟩ := hrel
  by_cases hkn : k < 4
  ·have hh := h.next hb
   have hh' := h'.next hb
   obtain ⟨ai, ni, ci, q1, q2⟩ := hh.2 k hkn
   obtain ⟨ai', ni', ci', q1', q2'⟩ := hh'.2 k hkn
   have hkn' : (k : Int) < 4 := by omega
   clear hh hh'
   go_wp2_with (go_at_call 143; (with_reducible refine (eqL q2 q2' (brz _ _)).on ?_ ?_) <;> intro w1 hq hb1)
   ·go_roundw
    case rel => exact ⟨k + 1, by omega, by go_num, fun j hj => by
      rcases Nat.lt_or_ge j k with h | h
      ·exact hal.out j h
      ·obtain rfl : j = k := by omega
       exact hq.out, btz hb hb1⟩
    case measure => simp [intOf]; omega
   ·go_ret
    exact qkz hq (btz hb hb1) (fun e => e k hkn)
  ·obtain rfl : k = 4 := by omega
   go_wp2
   go_ret
   exact qrz hal.out hb
theorem kmz {D : Nat → Prop} {T : Array Value} {t : Th} (h : ThD D w T t) : T.extract 0 (0 + 16) = (t.regs.map (Value.int .u64)).toArray := by
 apply Array.ext_getElem?
 intro i
 by_cases hi : i < 16
 ·have hl : i < t.regs.length := by rw [h.f.rlen]; exact hi
  rw [wpz (by rw [h.size]; omega) hi, Nat.zero_add]
  refine (h.f.regs i hi).trans ?_
  simp [List.getD_eq_getElem?_getD, List.getElem?_eq_getElem hl]
 ·rw [Array.getElem?_extract, if_neg (by omega)]
  exact (Array.getElem?_eq_none (by simp [h.f.rlen]; omega)).symm
theorem ext5 {C : Array Value} {o : Nat} {a b c d e : Value} (h0 : C[o]? = some a) (h1 : C[o + 1]? = some b) (h2 : C[o + 2]? = some c) (h3 : C[o + 3]? = some d) (h4 : C[o + 4]? = some e) : C.extract o (o + 5) = #[a, b, c, d, e] := by
 have hs : o + 4 < C.size := (Array.getElem?_eq_some_iff.1 h4).1
 apply Array.ext_getElem?
 intro i
 rcases i with _ | _ | _ | _ | _ | i
 ·rw [wpz (n := 5) (by omega) (by omega)]; exact h0
 ·rw [wpz (n := 5) (by omega) (by omega)]; exact h1
 ·rw [wpz (n := 5) (by omega) (by omega)]; exact h2
 ·rw [wpz (n := 5) (by omega) (by omega)]; exact h3
 ·rw [wpz (n := 5) (by omega) (by omega)]; exact h4
 ·rw [Array.getElem?_extract, if_neg (by omega)]; simp
theorem jlz {G G' : Array Value} {g g' : Gt} (h : GtD (LtN w) w G g) (h' : GtD (LtN w) w G' g') :
  Asks 80 #[.agg G, .agg G'] (g = g') w := by
 have hz := h.size
 have hz' := h'.size
 obtain ⟨a0, n0, k0, c0, l0⟩ := h.f.grant
 obtain ⟨a1, n1, k1, c1, l1⟩ := h.f.clear
 have x2 := ext2 h.f.sc h.f.si
 have c4 := h.f.pc
 have c5 := h.f.arg
 obtain ⟨a0', n0', k0', c0', l0'⟩ := h'.f.grant
 obtain ⟨a1', n1', k1', c1', l1'⟩ := h'.f.clear
 have x2' := ext2 h'.f.sc h'.f.si
 have c4' := h'.f.pc
 have c5' := h'.f.arg
 have ga0 := isAgg27
 have ga1 := isAgg22
 have ga2 := isAgg3
 have ga3 := isAgg4
 have ga4 := isAgg28
 have ga5 := isAgg29
 unfold Asks
 go_enter func80, ntmps80
 go_wp2_with (first
  | go_skip
  | (with_reducible refine qcz rfl _ _ rfl G rfl ?_; intro B W hB hb hk)
  | (with_reducible refine qcz rfl _ _ rfl G' rfl ?_; intro B' W' hB' hb' hk'; replace hb := hb.next hk'; replace hk := btz hk hk'; clear hk')
  | (with_reducible refine qaz (by kernel_rfl) _ _ rfl B _ rfl _ _ hb _ (by assumption) (by assumption) ?_)
  | (with_reducible refine qaz (by kernel_rfl) _ _ rfl B' _ rfl _ _ hb' _ (by assumption) (by assumption) ?_)
  | (with_reducible refine qpz (by kernel_rfl) 32 _ rfl B _ rfl 2 _ _ hb _ (by assumption) (by omega) _ underlying32 (by kernel_rfl) x5z ?_)
  | (with_reducible refine qpz (by kernel_rfl) 32 _ rfl B' _ rfl 2 _ _ hb' _ (by assumption) (by omega) _ underlying32 (by kernel_rfl) x5z ?_)
  | ((with_reducible refine qgz (by kernel_rfl) .eql _ _ _ _ rfl _ _ rfl rfl (quz _ _ _ _ _ _) ?_ ?_) <;> intro hq)
  | ((with_reducible refine qgz (by kernel_rfl) .eql _ _ _ _ rfl _ _ rfl rfl (kLz _ _ _ _ _ _) ?_ ?_) <;> intro hq)
  | (go_at_call 76; (with_reducible refine (reqL (by assumption) (by assumption) hk).on ?_ ?_) <;> (intro w1 hq hb1; replace hb := hb.next hb1; replace hb' := hb'.next hb1; replace hk := btz hk hb1; clear hb1)))
 all_goals go_ret
 all_goals first
  | (refine qkz (by assumption) hk ?_; intro e; rw [e]; done)
  | (refine qkz (by assumption) hk ?_; intro e; rw [e]; exact ⟨rfl, rfl⟩)
  | (refine qkz (by assumption) hk ?_; intro e; rw [e]; exact ⟨rfl, rfl, rfl, rfl, rfl⟩)
  | (refine qkz (by assumption) hk ?_; intro e; rw [e]; exact fun _ _ => rfl)
  | (refine qrz ?_ hk; exact gAz.1 ⟨Hid.out (by assumption), Hid.out (by assumption), Hid.out (by assumption), Hid.out (by assumption), Hid.out (by assumption)⟩)
  | fail
theorem putQ {Q : Exit → Act → World → Prop} (hQ : ∀ c a d v w, Q (.panic c) (Act.put a (some d) v) w → Q (.panic c) a w) {c : List PanicEntry} {a : Act} {d : Option Tmp} {v : Value} (h : Q (.panic c) (a.put d v) w) : Q (.panic c) a w := by
 cases d with
 | none => exact h
 | some d => exact hQ c a d v w h
section
variable {P : Program} {md : Region.Mode} {ops : Array Oper} {Q : Exit → Act → World → Prop} {S : World → Prop} {w : World}
theorem vzz {i : Nat} {o : Oper} {fuel : Nat} {listed : Array Bool} {a : Act} {f : FuncId} {args : Array Value} {R : Ending → World → Prop} (hr : Region.ready md ops listed = [i]) (hi : ops[i]? = some o) (hw : Region.wanted o (yielded ops a.tmps) = true)
  (hrun : (execOp a.eval o).run P w = .ok (.enter f args) w) (hc : Calls P f args w R)
  (h : ∀ e w', R e w' → ∃ v, e = .returned v ∧ S w' ∧ wpAnyH P md ops Q S fuel (listed.setIfInBounds i true) (a.put o.dst v) w') : wpAnyH P md ops Q S (fuel + 1) listed a w := by
 refine wpAnyH_all hr (by simp) ?_
 intro j hj
 obtain rfl : j = i := by simpa using hj
 unfold wpOp
 simp only [hi, hw, if_true]
 left
 unfold Oper.wp
 rw [hrun, Oper.upon_enter]
 refine hc.mono ?_
 intro e w' hR
 obtain ⟨v, rfl, h1, h2⟩ := h e w' hR
 exact ⟨h1, h2⟩
end
inductive Obl where
 | load (ty : TypeId) (b o : Nat) (v : Value)
 | test (f : BinOp) (t : TypeId) (x y : Operand) (u v r : Value)
 | sl (t : TypeId) (x : Value) (lo hi mx : Option Value) (v : Value)
 | ia (t : TypeId) (x i v : Value)
 | ix (t : TypeId) (x i v : Value)
 | ln (t u : TypeId) (x v : Value)
def Obl.holds (P : Program) (S : World → Prop) : Obl → Prop
 | .load ty b o v => ∀ w, S w → (loadVar ty ⟨b, o, none⟩).run P w = .ok v w
 | .test f t x y u v r => ∀ w, S w → (do eqGuard f t x y u v; binOp f t u v).run P w = .ok r w
 | .sl t x lo hi mx v => ∀ w, S w → (Instr.sliceAt t x lo hi mx).run P w = .ok v w
 | .ia t x i v => ∀ w, S w → (Instr.indexAt t x i).run P w = .ok v w
 | .ix t x i v => ∀ w, S w → (Instr.index t x i).run P w = .ok v w
 | .ln t u x v => ∀ w, S w → (invoke (.builtin .len #[t] u #[false]) #[x]).run P w = .ok (.value v) w
def Obls (P : Program) (S : World → Prop) : List Obl → Prop
 | [] => True
 | o :: r => o.holds P S ∧ Obls P S r
theorem Obls.app {P : Program} {S : World → Prop} : ∀ {l m : List Obl}, Obls P S (l ++ m) → Obls P S l ∧ Obls P S m
 | [], m, h => ⟨trivial, h⟩
 | o :: r, m, h => ⟨⟨h.1, (Obls.app h.2).1⟩, (Obls.app h.2).2⟩
def symf (P : Program) (s f : Nat) (v : Value) : Option Value :=
 match v with
 | .pointer (some ⟨b, off, none⟩) =>
  match P.underlying s with
  | some (.struct fs) =>
   match fs[f]? with
   | some fd =>
    match P.info? fd.type with
    | some i => if i.size = 0 then none else some (.pointer (some ⟨b, off + fd.offset, none⟩))
    | none => none
   | none => none
  | _ => none
 | _ => none
def symw (P : Program) (g : Option Value) (o : Oper) (a : Act) : Option (Value × List Obl) :=
 match o.op with
 | .move x => some (a.eval x, [])
 | .assign x => some (a.eval x, [])
 | .pick c x y =>
  match a.eval c with
  | .bool true => some (a.eval x, [])
  | .bool false => some (a.eval y, [])
  | _ => none
 | .fieldAddr s x f => (symf P s f (a.eval x)).map fun v => (v, [])
 | .load ty x =>
  match a.eval x, g with
  | .pointer (some ⟨b, off, none⟩), some v => some (v, [.load ty b off v])
  | _, _ => none
 | .binOp f t x y _ => g.map fun v => (v, [.test f t x y (a.eval x) (a.eval y) v])
 | .unOp .not _ x =>
  match a.eval x with
  | .bool b => some (.bool (!b), [])
  | _ => none
 | .slice t x lo hi mx => g.map fun v => (v, [.sl t (a.eval x) (lo.map a.eval) (hi.map a.eval) (mx.map a.eval) v])
 | .indexAddr t x i => g.map fun v => (v, [.ia t (a.eval x) (a.eval i) v])
 | .index t x i => g.map fun v => (v, [.ix t (a.eval x) (a.eval i) v])
 | .call c =>
  match c.callee, c.args.toList, c.argTypes.toList with
  | .builtin .len, [.tmp x], [t] => g.map fun v => (v, [.ln t o.type (a.eval (.tmp x)) v])
  | _, _, _ => none
 | _ => none
def symv (P : Program) (ops : Array Oper) (g : Option Value) (o : Oper) (a : Act) : Option (Value × List Obl) :=
 if Region.wanted o (yielded ops a.tmps) then symw P g o a else some (undef, [])
section
variable {P : Program} {ops : Array Oper} {S : World → Prop}
theorem symf_run {s f : Nat} {u v : Value} (h : symf P s f u = some v) (w : World) : (Instr.fieldAt s u f).run P w = .ok v w := by
 unfold symf at h
 split at h
 ·split at h
  ·rename_i fs hu
   split at h
   ·rename_i fd hf
    split at h
    ·rename_i i hi
     split at h
     ·cases h
     ·rename_i hz
      cases h
      simp [Instr.fieldAt, run_underlying hu, hf, Instr.sureAddr, fieldPlace, sizeOf, typeInfo, hi, hz, Addr.add_mid]
    ·cases h
   ·cases h
  ·cases h
 ·cases h
theorem symw_run {g : Option Value} {o : Oper} {a : Act} {v : Value} {obs : List Obl} (h : symw P g o a = some (v, obs)) (k : Obls P S obs) {w : World} (hS : S w) : (execOp a.eval o).run P w = .ok (.value v) w := by
 unfold symw at h
 split at h
 ·rename_i x ho; cases h; unfold execOp; simp [ho]
 ·rename_i x ho; cases h; unfold execOp; simp [ho]
 ·rename_i c x y ho
  split at h
  ·rename_i hc; cases h; unfold execOp; simp [ho, hc, asBool]
  ·rename_i hc; cases h; unfold execOp; simp [ho, hc, asBool]
  ·cases h
 ·rename_i s x f ho
  cases hq : symf P s f (a.eval x) with
  | none => rw [hq] at h; cases h
  | some u =>
   rw [hq] at h; cases h
   unfold execOp; simp [ho, symf_run hq w]
 ·rename_i ty x ho
  split at h
  ·rename_i b off u hx
   cases h
   have := k.1 w hS
   unfold execOp
   simp [ho, hx, Instr.loadAt, Instr.sureAddr, this]
  ·cases h
 ·rename_i f t x y t' ho
  cases g with
  | none => cases h
  | some u =>
   cases h
   have := k.1 w hS
   unfold execOp
   simp only [ho]
   rw [Sem.run_bind, this]
   rfl
 ·rename_i t x ho
  split at h
  ·rename_i b hx; cases h; unfold execOp; simp [ho, hx, Op.unary]
  ·cases h
 ·rename_i t x lo hi mx ho
  cases g with
  | none => cases h
  | some u => cases h; unfold execOp; simp only [ho]; rw [Sem.run_bind, k.1 w hS]; rfl
 ·rename_i t x i ho
  cases g with
  | none => cases h
  | some u => cases h; unfold execOp; simp only [ho]; rw [Sem.run_bind, k.1 w hS]; rfl
 ·rename_i t x i ho
  cases g with
  | none => cases h
  | some u => cases h; unfold execOp; simp only [ho]; rw [Sem.run_bind, k.1 w hS]; rfl
 ·rename_i c ho
  split at h
  ·rename_i x t hc ha ht
   cases g with
   | none => cases h
   | some u =>
    cases h
    have e1 : c.args = #[.tmp x] := by rw [← Array.toArray_toList (xs := c.args), ha]
    have e2 : c.argTypes = #[t] := by rw [← Array.toArray_toList (xs := c.argTypes), ht]
    have := k.1 w hS
    unfold execOp
    simp only [ho, resolve, hc, e1, e2, Sem.run_bind, Sem.run_pure, Result.andThen_ok]
    simpa using this
  ·cases h
 ·cases h
theorem xxz {g : Option Value} {o : Oper} {a : Act} {v : Value} {obs : List Obl} (h : symv P ops g o a = some (v, obs)) (k : Obls P S obs) : YieldsIf P ops S o v a := by
 unfold symv at h
 split at h
 ·rename_i hw; exact .inl ⟨hw, fun w hS => symw_run h k hS⟩
 ·rename_i hw; cases h; exact .inr ⟨by simpa using hw, rfl⟩
end
def symL (P : Program) (ops : Array Oper) : List (Option Value) → List Oper → Act → Option (List Oper × Act × List Obl)
 | [], r, a => some (r, a, [])
 | _ :: _, [], _ => none
 | g :: gs, o :: r, a =>
  match symv P ops g o a with
  | none => none
  | some (v, obs) =>
   match symL P ops gs r (a.put o.dst v) with
   | none => none
   | some (r', a', obs') => some (r', a', obs ++ obs')
def symH (P : Program) (md : Region.Mode) (ops : Array Oper) : List (Nat × Option Value) → Array Bool → Act → Option (Array Bool × Act × List Obl)
 | [], l, a => some (l, a, [])
 | (i, g) :: gs, l, a =>
  match ops[i]? with
  | none => none
  | some o =>
   if (Region.free md ops l i && (Region.ready md ops l).contains i) = true then
    match symv P ops g o a with
    | none => none
    | some (v, obs) =>
     match symH P md ops gs (l.setIfInBounds i true) (a.put o.dst v) with
     | none => none
     | some (l', a', obs') => some (l', a', obs ++ obs')
   else none
section
variable {P : Program} {ops : Array Oper} {Q : Exit → Act → World → Prop} {w : World}
theorem xMz : ∀ (gs : List (Option Value)) {rest : List Oper} {a : Act} {rest' : List Oper} {a' : Act} {obs : List Obl}, symL P ops gs rest a = some (rest', a', obs) → Obls P (fun W => W = w) obs → wpList P ops Q rest' a' w → wpList P ops Q rest a w
 | [], rest, a, rest', a', obs, h, k, q => by cases h; exact q
 | g :: gs, [], a, rest', a', obs, h, k, q => by cases h
 | g :: gs, o :: r, a, rest', a', obs, h, k, q => by
  unfold symL at h
  split at h
  ·cases h
  ·rename_i v obs1 hv
   split at h
   ·cases h
   ·rename_i r2 a2 obs2 h2
    cases h
    obtain ⟨k1, k2⟩ := Obls.app k
    rcases xxz hv k1 with ⟨hw, hr⟩ | ⟨hw, rfl⟩
    ·exact q9z hw (hr w rfl) (xMz gs h2 k2 q)
    ·exact kpz hw (xMz gs h2 k2 q)
variable {md : Region.Mode} {S : World → Prop}
theorem qjz (hs : Region.noSelect ops = true) (hQ : ∀ c a d v w, Q (.panic c) (Act.put a (some d) v) w → Q (.panic c) a w) (hS : S w) : ∀ (gs : List (Nat × Option Value)) {l l' : Array Bool} {a a' : Act} {obs : List Obl} {n m : Nat}, m = n + gs.length → symH P md ops gs l a = some (l', a', obs) → Obls P S obs → wpAnyH P md ops Q S n l' a' w → wpAnyH P md ops Q S m l a w
 | [], l, l', a, a', obs, n, m, hm, h, k, q => by cases h; subst hm; exact q
 | (i, g) :: gs, l, l', a, a', obs, n, m, hm, h, k, q => by
  subst hm
  unfold symH at h
  split at h
  ·cases h
  ·rename_i o ho
   split at h
   ·rename_i hf
    rw [Bool.and_eq_true] at hf
    split at h
    ·cases h
    ·rename_i v obs1 hv
     split at h
     ·cases h
     ·rename_i l2 a2 obs2 h2
      cases h
      obtain ⟨k1, k2⟩ := Obls.app k
      exact wpAnyH_take ho hs hf.1 hf.2 (fun c a w h => putQ hQ h) (xxz hv k1) hS (qjz hs hQ hS gs rfl h2 k2 q)
   ·cases h
end
def lU (r : Option (Array Bool × Act × List Obl)) : Array Bool := match r with | some r => r.1 | none => #[]
def aU (r : Option (Array Bool × Act × List Obl)) : Act := match r with | some r => r.2.1 | none => { tmps := #[], defers := [] }
theorem qvz {P : Program} {md : Region.Mode} {ops : Array Oper} {Q : Exit → Act → World → Prop} {S : World → Prop} {w : World} (hs : Region.noSelect ops = true) (hQ : ∀ c a d v w, Q (.panic c) (Act.put a (some d) v) w → Q (.panic c) a w) (hS : S w) (gs : List (Nat × Option Value)) {l : Array Bool} {a : Act} {obs : List Obl} {n m : Nat} (hm : m = n + gs.length) (h : (symH P md ops gs l a).map (fun r => r.2.2) = some obs) (k : Obls P S obs) (q : wpAnyH P md ops Q S n (lU (symH P md ops gs l a)) (aU (symH P md ops gs l a)) w) : wpAnyH P md ops Q S m l a w := by
 cases e : symH P md ops gs l a with
 | none => rw [e] at h; cases h
 | some r =>
  obtain ⟨l', a', obs'⟩ := r
  rw [e] at h q
  cases h
  exact qjz hs hQ hS gs hm e k q
def pre (n i : Nat) : Array Bool := ((List.range n).map fun j => decide (j < i)).toArray
def jVz (md : Region.Mode) (ops : Array Oper) : Bool := Region.noSelect ops && (List.range ops.size).all fun i => Region.free md ops (pre ops.size i) i && (Region.ready md ops (pre ops.size i)).contains i
theorem xIz (n i : Nat) : (pre n i).size = n := by simp [pre]
theorem xSz {n i j : Nat} (h : j < n) : (pre n i)[j]? = some (decide (j < i)) := by simp [pre, h]
theorem u4z (n i : Nat) : (pre n i).setIfInBounds i true = pre n (i + 1) := by
 apply Array.ext_getElem?
 intro j
 rw [Array.getElem?_setIfInBounds]
 by_cases hj : j < n
 ·rw [xSz hj, xSz hj, xIz]
  by_cases e : i = j
  ·subst e; simp [hj]
  ·rw [if_neg e]
   congr 1
   rw [decide_eq_decide]; omega
 ·have h1 : (pre n i)[j]? = none := Array.getElem?_eq_none (by rw [xIz]; omega)
  have h2 : (pre n (i + 1))[j]? = none := Array.getElem?_eq_none (by rw [xIz]; omega)
  rw [h1, h2, xIz]
  split
  ·rw [if_neg (by omega)]
  ·rfl
theorem pre_zero (n : Nat) : Array.replicate n false = pre n 0 := by
 apply Array.ext_getElem?
 intro j
 by_cases hj : j < n
 ·rw [xSz hj]; simp [hj]
 ·rw [Array.getElem?_eq_none (by simp; omega), Array.getElem?_eq_none (by rw [xIz]; omega)]
section
variable {P : Program} {ops : Array Oper} {Q : Exit → Act → World → Prop} {w : World} {md : Region.Mode} {S : World → Prop}
theorem txt_at (hT : jVz md ops = true) {i : Nat} (hi : i < ops.size) : Region.noSelect ops = true ∧ Region.free md ops (pre ops.size i) i = true ∧ (Region.ready md ops (pre ops.size i)).contains i = true := by
 unfold jVz at hT
 rw [Bool.and_eq_true, List.all_eq_true] at hT
 have := hT.2 i (List.mem_range.2 hi)
 rw [Bool.and_eq_true] at this
 exact ⟨hT.1, this.1, this.2⟩
theorem krz (hT : jVz md ops = true) (hQ : ∀ c a d v w, Q (.panic c) (Act.put a (some d) v) w → Q (.panic c) a w) (hS : S w) : ∀ (gs : List (Option Value)) (i : Nat) {rest' : List Oper} {a a' : Act} {obs : List Obl} {n m : Nat}, m = n + gs.length → symL P ops gs (ops.toList.drop i) a = some (rest', a', obs) → Obls P S obs → wpAnyH P md ops Q S n (pre ops.size (i + gs.length)) a' w → wpAnyH P md ops Q S m (pre ops.size i) a w
 | [], i, rest', a, a', obs, n, m, hm, h, k, q => by unfold symL at h; cases h; subst hm; exact q
 | g :: gs, i, rest', a, a', obs, n, m, hm, h, k, q => by
  subst hm
  by_cases hi : i < ops.size
  ·have ed : ops.toList.drop i = ops[i] :: ops.toList.drop (i + 1) := by
    rw [List.drop_eq_getElem_cons (by simpa using hi)]
    simp
   rw [ed] at h
   unfold symL at h
   split at h
   ·cases h
   ·rename_i v obs1 hv
    split at h
    ·cases h
    ·rename_i r2 a2 obs2 h2
     cases h
     obtain ⟨k1, k2⟩ := Obls.app k
     obtain ⟨t1, t2, t3⟩ := txt_at hT hi
     refine wpAnyH_take (i := i) (Array.getElem?_eq_getElem hi) t1 t2 t3 (fun c a w h => putQ hQ h) (xxz hv k1) hS ?_
     rw [u4z]
     exact krz hT hQ hS gs (i + 1) rfl h2 k2 (by rw [show i + 1 + gs.length = i + (g :: gs).length by simp; omega]; exact q)
  ·rw [List.drop_eq_nil_of_le (by simp; omega)] at h
   unfold symL at h
   cases h
theorem qCz (hT : jVz md ops = true) (hQ : ∀ c a d v w, Q (.panic c) (Act.put a (some d) v) w → Q (.panic c) a w) (hS : S w) (gs : List (Option Value)) (i : Nat) {a a' : Act} {obs : List Obl} {n m : Nat} (hm : m = n + gs.length) (h : (symL P ops gs (ops.toList.drop i) a).map (fun r => r.2) = some (a', obs)) (k : Obls P S obs) (q : wpAnyH P md ops Q S n (pre ops.size (i + gs.length)) a' w) : wpAnyH P md ops Q S m (pre ops.size i) a w := by
 cases hs : symL P ops gs (ops.toList.drop i) a with
 | none => rw [hs] at h; cases h
 | some r =>
  obtain ⟨r1, r2, r3⟩ := r
  rw [hs] at h
  cases h
  exact krz hT hQ hS gs i hm hs k q
def opI (md : Region.Mode) (ops : Array Oper) (o : Oper) : Option Nat × List Nat × List Nat := (o.dst, o.looksAt ops, (o.after.toList.filter (Region.binds md)).map (·.on))
def apI (x y : Option Nat × List Nat × List Nat) : Bool :=
  (match x.1 with
   | some d => !y.2.1.contains d && y.1 != some d
   | none => true) &&
  (match y.1 with
   | some d => !x.2.1.contains d
   | none => true)
def chkI : List (Option Nat × List Nat × List Nat) → Nat → Bool
 | [], _ => true
 | x :: r, i => x.2.2.all (fun e => Nat.blt e i) && (r.all (fun y => apI x y || y.2.2.contains i) && chkI r (i + 1))
theorem gSz : ∀ {l : List (Option Nat × List Nat × List Nat)} {i : Nat}, chkI l i = true → ∀ k x, l[k]? = some x → (∀ e ∈ x.2.2, e < i + k) ∧ ∀ j y, k < j → l[j]? = some y → apI x y = true ∨ (i + k) ∈ y.2.2
 | [], i, h, k, x, hx => by simp at hx
 | z :: r, i, h, 0, x, hx => by
  unfold chkI at h
  rw [Bool.and_eq_true, Bool.and_eq_true, List.all_eq_true, List.all_eq_true] at h
  have : z = x := by simpa using hx
  subst this
  refine ⟨fun e he => by have := h.1 e he; simpa [Nat.blt_eq] using this, fun j y hj hy => ?_⟩
  obtain ⟨j', rfl⟩ : ∃ j', j = j' + 1 := ⟨j - 1, by omega⟩
  have hm : y ∈ r := List.mem_of_getElem? (by simpa using hy)
  have := h.2.1 y hm
  rw [Bool.or_eq_true] at this
  rcases this with h | h
  ·exact .inl h
  ·exact .inr (by simpa using h)
 | z :: r, i, h, k + 1, x, hx => by
  unfold chkI at h
  rw [Bool.and_eq_true, Bool.and_eq_true] at h
  obtain ⟨h1, h2⟩ := gSz h.2.2 k x (by simpa using hx)
  refine ⟨fun e he => by have := h1 e he; omega, fun j y hj hy => ?_⟩
  obtain ⟨j', rfl⟩ : ∃ j', j = j' + 1 := ⟨j - 1, by omega⟩
  have := h2 j' y (by omega) (by simpa using hy)
  rwa [show i + (k + 1) = i + 1 + k by omega]
theorem txt_of {inf : List (Option Nat × List Nat × List Nat)} (hn : Region.noSelect ops = true) (h1 : ops.toList.map (opI md ops) = inf) (h2 : chkI inf 0 = true) : jVz md ops = true := by
 unfold jVz
 rw [hn, Bool.true_and, List.all_eq_true]
 intro i hi
 have hi' := List.mem_range.1 hi
 have hx : inf[i]? = some (opI md ops ops[i]) := by rw [← h1, List.getElem?_map]; simp [hi']
 obtain ⟨q1, q2⟩ := gSz h2 i _ hx
 rw [Nat.zero_add] at q1 q2
 rw [Bool.and_eq_true]
 constructor
 ·unfold Region.free
  rw [Array.getElem?_eq_getElem hi']
  simp only
  rw [List.all_eq_true]
  intro j hj
  have hj' := List.mem_range.1 hj
  rw [Array.getElem?_eq_getElem hj']
  by_cases e : j = i
  ·subst e; simp
  ·by_cases hji : j < i
   ·have : (pre ops.size i).getD j true = true := by rw [Array.getD_eq_getD_getElem?, xSz hj']; simp [hji]
    rw [this]; simp
   ·have hy : inf[j]? = some (opI md ops ops[j]) := by rw [← h1, List.getElem?_map]; simp [hj']
    have hap := q2 j _ (by omega) hy
    rcases hap with h | h
    ·have : Oper.apart ops ops[i] ops[j] = true := h
     simp [this]
    ·have : (ops[j].after.any fun e => Region.binds md e && e.on == i) = true := by
      rw [Array.any_eq_true']
      simp only [opI, List.mem_map, List.mem_filter] at h
      obtain ⟨e, ⟨he1, he2⟩, he3⟩ := h
      exact ⟨e, by simpa using he1, by simp [he2, he3]⟩
     simp [this]
 ·rw [List.contains_iff_mem, mem_ready]
  refine ⟨by rw [Array.getD_eq_getD_getElem?, xSz hi']; simp, ops[i], Array.getElem?_eq_getElem hi', fun e he hb => ?_⟩
  have : e.on < i := q1 e.on (by simp only [opI, List.mem_map, List.mem_filter]; exact ⟨e, ⟨by simpa using he, hb⟩, rfl⟩)
  rw [Array.getD_eq_getD_getElem?, xSz (by omega)]
  simp [this]
theorem y4z {id : Nat} {a : Act} (hm : P.follows .mixedOrders = true) (hT : jVz .any ops = true)
  (hS : S w.drew) (h : jVz .any ops = true → S w.drew → wpAnyH P .any ops Q S ops.size (pre ops.size 0) a w.drew) : (Code.region id ops true).wp P Q a w :=
 PgM.region_out hm hS fun hS => by rw [pre_zero]; exact h hT hS
end
def wXz (ops : Array Oper) (o : Oper) (a : Act) : Option (FuncId × List Value × Option Tmp) :=
 if Region.wanted o (yielded ops a.tmps) then
  match o.op with
  | .call c =>
   match c.callee with
   | .value x =>
    match a.eval x with
    | .func (.func f) fs cs => if (fs.isEmpty && cs.isEmpty) = true then some (f, c.args.toList.map a.eval, o.dst) else none
    | _ => none
   | _ => none
  | _ => none
 else none
variable {ops : Array Oper} {vs : List Value} {d : Option Tmp} {f : FuncId} {a : Act}
theorem x3z {o : Oper} (h : wXz ops o a = some (f, vs, d)) (hc : ∀ args w, (callFunc f args).run prog w = .ok (.enter f args) w) (w : World) : Region.wanted o (yielded ops a.tmps) = true ∧ o.dst = d ∧ (execOp a.eval o).run prog w = .ok (.enter f vs.toArray) w := by
 unfold wXz at h
 split at h
 ·rename_i hw
  split at h
  ·rename_i c ho
   split at h
   ·rename_i x hx
    split at h
    ·rename_i f' fs cs hv
     split at h
     ·rename_i he
      rw [Bool.and_eq_true, Array.isEmpty_iff, Array.isEmpty_iff] at he
      obtain ⟨rfl, rfl⟩ := he
      cases h
      refine ⟨hw, rfl, ?_⟩
      unfold execOp
      simp [ho, resolve, hx, hv, invoke, Deferred.ofValue, hc]
      rw [← Array.toList_map, Array.toArray_toList]
     ·cases h
    ·cases h
   ·cases h
  ·cases h
 ·cases h
variable {Q : Exit → Act → World → Prop} {R : Ending → World → Prop} {w : World}
theorem jSz {S : World → Prop} {i : Nat} {fuel m : Nat} (hm : m = fuel + 1) (hr : Region.ready .any ops (pre ops.size i) = [i]) (hi : (ops[i]?).bind (fun o => wXz ops o a) = some (f, vs, d))
  (hf : ∀ args w, (callFunc f args).run prog w = .ok (.enter f args) w) (hc : Calls prog f vs.toArray w R)
  (h : ∀ e w', R e w' → ∃ v, e = .returned v ∧ S w' ∧ wpAnyH prog .any ops Q S fuel (pre ops.size (i + 1)) (a.put d v) w') : wpAnyH prog .any ops Q S m (pre ops.size i) a w := by
 subst hm
 cases ho : ops[i]? with
 | none => rw [ho] at hi; cases hi
 | some o =>
  rw [ho] at hi
  obtain ⟨h1, h2, h3⟩ := x3z (show wXz ops o a = _ from hi) hf w
  refine vzz hr ho h1 h3 hc ?_
  rw [h2, u4z]
  exact h
theorem xwz {S : World → Prop} {X : Prop} {i : Nat} {fuel m : Nat} (hm : m = fuel + 1) (hr : Region.ready .any ops (pre ops.size i) = [i]) (hi : (ops[i]?).bind (fun o => wXz ops o a) = some (f, vs, d))
  (hf : ∀ args w, (callFunc f args).run prog w = .ok (.enter f args) w) (hc : Asks f vs.toArray X w) (hS : ∀ w', Below w.heap.size w w' → S w')
  (h1 : ∀ w', Hid X → Below w.heap.size w w' → S w' → wpAnyH prog .any ops Q S fuel (pre ops.size (i + 1)) (a.put d (.bool true)) w')
  (h0 : ∀ w', Hid (¬ X) → Below w.heap.size w w' → S w' → wpAnyH prog .any ops Q S fuel (pre ops.size (i + 1)) (a.put d (.bool false)) w') : wpAnyH prog .any ops Q S m (pre ops.size i) a w := by
 refine jSz hm hr hi hf hc ?_
 rintro e w' ⟨b, rfl, hb, hk⟩
 refine ⟨_, rfl, hS w' hk, ?_⟩
 cases b with
 | true => exact h1 w' (hb.out.1 rfl) hk (hS w' hk)
 | false => exact h0 w' (fun x => absurd (hb.out.2 x) Bool.false_ne_true) hk (hS w' hk)
theorem jRz {o : Oper} {rest : List Oper} (hi : wXz ops o a = some (f, vs, d))
  (hf : ∀ args w, (callFunc f args).run prog w = .ok (.enter f args) w) (hc : Calls prog f vs.toArray w R)
  (h : ∀ e w', R e w' → ∃ v, e = .returned v ∧ wpList prog ops Q rest (a.put d v) w') : wpList prog ops Q (o :: rest) a w := by
 obtain ⟨h1, h2, h3⟩ := x3z hi hf w
 refine wZz h1 ?_
 unfold Oper.wp
 rw [h3, Oper.upon_enter]
 refine hc.mono ?_
 intro e w' hR
 obtain ⟨v, rfl, h⟩ := h e w' hR
 rw [h2]
 exact h
def wpT (ops : Array Oper) (Q : Exit → Act → World → Prop) (i : Nat) (a : Act) (w : World) : Prop := wpList prog ops Q (ops.toList.drop i) a w ∧ True
def v2z (ops : Array Oper) (o : Oper) (a : Act) : Option (TypeId × Option Tmp) :=
 if Region.wanted o (yielded ops a.tmps) then
  match o.op with
  | .alloc t => some (t, o.dst)
  | _ => none
 else none
def vEz (ops : Array Oper) (o : Oper) (a : Act) : Option (TypeId × Nat × Nat × Value × Option Tmp) :=
 if Region.wanted o (yielded ops a.tmps) then
  match o.op with
  | .store t x y =>
   match a.eval x with
   | .pointer (some ⟨b, off, none⟩) => some (t, b, off, a.eval y, o.dst)
   | _ => none
  | _ => none
 else none
section
variable {ops : Array Oper} {Q : Exit → Act → World → Prop} {w : World} {a a' : Act} {i : Nat}
theorem xjz {id : Nat} (h : wpT ops Q 0 a w) : (Code.region id ops false).wp prog Q a w := wp_region_list (by unfold wpT at h; simpa using h)
theorem qJz (hi : Nat.ble ops.size i = true) (h : Q .normal a w) : wpT ops Q i a w := by
 refine ⟨?_, trivial⟩
 rw [Nat.ble_eq] at hi
 rw [List.drop_eq_nil_of_le (by simpa using hi)]
 exact h
theorem wpT_drop {o : Oper} (ho : ops[i]? = some o) : ops.toList.drop i = o :: ops.toList.drop (i + 1) := by
 obtain ⟨hi, e⟩ := Array.getElem?_eq_some_iff.1 ho
 rw [List.drop_eq_getElem_cons (by simpa using hi)]
 simp [← e]
theorem jZz {P : Program} : ∀ (gs : List (Option Value)) (r : List Oper) (a : Act) {r' : List Oper} {a' : Act} {obs : List Obl}, symL P ops gs r a = some (r', a', obs) → r' = r.drop gs.length
 | [], r, a, r', a', obs, h => by unfold symL at h; cases h; rfl
 | g :: gs, [], a, r', a', obs, h => by unfold symL at h; cases h
 | g :: gs, o :: r, a, r', a', obs, h => by
  unfold symL at h
  split at h
  ·cases h
  ·split at h
   ·cases h
   ·rename_i h2
    cases h
    have := jZz gs r _ h2
    rw [this]; rfl
theorem qIz (gs : List (Option Value)) (i : Nat) {obs : List Obl} (h : (symL prog ops gs (ops.toList.drop i) a).map (fun r => r.2) = some (a', obs)) (k : Obls prog (fun W => W = w) obs) (q : wpT ops Q (i + gs.length) a' w) : wpT ops Q i a w := by
 cases hs : symL prog ops gs (ops.toList.drop i) a with
 | none => rw [hs] at h; cases h
 | some r =>
  obtain ⟨r1, r2, r3⟩ := r
  rw [hs] at h
  cases h
  have := jZz gs _ _ hs
  subst this
  exact ⟨xMz gs hs k (by rw [List.drop_drop]; exact q.1), trivial⟩
def aT {α : Type} (r : Option (α × Act × List Obl)) : Act := match r with | some r => r.2.1 | none => { tmps := #[], defers := [] }
theorem qDz (gs : List (Option Value)) (i : Nat) {obs : List Obl} (h : (symL prog ops gs (ops.toList.drop i) a).map (fun r => r.2.2) = some obs) (k : Obls prog (fun W => W = w) obs) (q : wpT ops Q (i + gs.length) (aT (symL prog ops gs (ops.toList.drop i) a)) w) : wpT ops Q i a w := by
 cases e : symL prog ops gs (ops.toList.drop i) a with
 | none => rw [e] at h; cases h
 | some r =>
  obtain ⟨r1, r2, r3⟩ := r
  rw [e] at h q
  cases h
  exact qIz gs i (by rw [e]; rfl) k q
theorem wpT_call {f : FuncId} {vs : List Value} {d : Option Tmp} {R : Ending → World → Prop} (hi : (ops[i]?).bind (fun o => wXz ops o a) = some (f, vs, d))
  (hf : ∀ args w, (callFunc f args).run prog w = .ok (.enter f args) w) (hc : Calls prog f vs.toArray w R)
  (h : ∀ e w', R e w' → ∃ v, e = .returned v ∧ wpT ops Q (i + 1) (a.put d v) w') : wpT ops Q i a w := by
 cases ho : ops[i]? with
 | none => rw [ho] at hi; cases hi
 | some o =>
  rw [ho] at hi
  refine ⟨?_, trivial⟩
  rw [wpT_drop ho]
  exact jRz (show wXz ops o a = _ from hi) hf hc fun e w' r => have ⟨v, a, b⟩ := h e w' r; ⟨v, a, b.1⟩
theorem q4z {X : Prop} {f : FuncId} {vs : List Value} {d : Option Tmp} (hi : (ops[i]?).bind (fun o => wXz ops o a) = some (f, vs, d))
  (hf : ∀ args w, (callFunc f args).run prog w = .ok (.enter f args) w) (hc : Asks f vs.toArray X w)
  (h1 : ∀ w', Hid X → Below w.heap.size w w' → wpT ops Q (i + 1) (a.put d (.bool true)) w')
  (h0 : ∀ w', Hid (¬ X) → Below w.heap.size w w' → wpT ops Q (i + 1) (a.put d (.bool false)) w') : wpT ops Q i a w := by
 refine wpT_call hi hf hc ?_
 rintro e w' ⟨b, rfl, hb, hk⟩
 refine ⟨_, rfl, ?_⟩
 cases b with
 | true => exact h1 w' (hb.out.1 rfl) hk
 | false => exact h0 w' (fun x => absurd (hb.out.2 x) Bool.false_ne_true) hk
theorem wlz {ty : TypeId} {B : Nat} {C old : Array Value} (hB : Blk w B old ty) (hi : (prog.info? ty).map (·.size) = some C.size) (hs : old.size = C.size) (h1 : C.all (·.oneCell') = true) : ∃ W, (storeVar ty ⟨B, 0, none⟩ (.agg C)).run prog w = .ok () W ∧ Blk W B C ty ∧ Oth B w W := by
 have hrow := run_storeVar_row (P := prog) w B ty ty old C hB hi hs h1
 have ht : w.there B 0 C.size := fun j hj => ⟨by rw [hB.cell, Nat.zero_add, Array.getElem?_eq_getElem (by omega)]; rfl, hB.frozen _⟩
 have hmid := run_storeVar_mid (P := prog) w B 0 ty C ht hi h1
 refine ⟨_, hmid, ?_, Oth.setCells B _ _ _⟩
 rw [hrow] at hmid
 have e : w.setRow B C = w.setCells B 0 C.toList := by injection hmid
 rw [← e]
 show (w.heap.modify B _)[B]? = _
 rw [Array.getElem?_modify, if_pos rfl, show w.heap[B]? = _ from hB]
 rfl
theorem kSz {ty t : TypeId} {B o : Nat} {C old : Array Value} (hB : Blk w B old t) (hi : (prog.info? ty).map (·.size) = some C.size) (hs : o + C.size ≤ old.size) (h1 : C.all (·.oneCell') = true) : ∃ W, (storeVar ty ⟨B, o, none⟩ (.agg C)).run prog w = .ok () W ∧ Blk W B (old.extract 0 o ++ C ++ old.extract (o + C.size) old.size) t ∧ Oth B w W := by
 have ht : w.there B o C.size := fun j hj => ⟨by rw [hB.cell, Array.getElem?_eq_getElem (by omega)]; rfl, hB.frozen _⟩
 exact ⟨_, run_storeVar_mid (P := prog) w B o ty C ht hi h1, Blk.part hB hs, Oth.setCells B _ _ _⟩
theorem kTz {ty t : TypeId} {B j : Nat} {v : Value} {C : Array Value} (hB : Blk w B C t) (hv : v.cells = #[v]) (hi : (prog.info? ty).map (·.size) = some 1) (hs : j < C.size) (h1 : v.oneCell' = true) : ∃ W, (storeVar ty ⟨B, j, none⟩ v).run prog w = .ok () W ∧ Blk W B (C.setIfInBounds j v) t ∧ Oth B w W := by
 have ht : w.there B j 1 := fun i hi => ⟨by rw [hB.cell, Array.getElem?_eq_getElem (by omega)]; rfl, hB.frozen _⟩
 have := run_storeCells_cells (P := prog) B j [v] 0 w (fun i hi => by simpa using (ht i (by simpa using hi)).1) (fun i hi => by simpa using (ht i (by simpa using hi)).2) (fun u hu => by simp at hu; rw [hu]; exact h1)
 cases hq : prog.info? ty with
 | none => simp [hq] at hi
 | some i =>
  have hs : i.size = 1 := by simpa [hq] using hi
  simp only [Nat.add_zero] at this
  exact ⟨w.setCells B j [v], by simp [storeVar, sizeOf, typeInfo, hq, hv, hs, this], hB.set j v, Oth.setCell w B j v⟩
end
section
variable {S : World → Prop}
theorem qhz {P : Program} {ty : TypeId} {B o : Nat} {v : Value} {C : Array Value} {t : TypeId} (hB : ∀ w, S w → Blk w B C t) (hv : C[o]? = some v) (hg : ∀ w, (isAgg ty).run P w = .ok false w) : Obl.holds P S (.load ty B o v) := fun w hS => by
 have hc : w.cell? ⟨B, o, none⟩ = some v := ((hB w hS).cell o).trans hv
 simp [loadVar, hg, hc]
theorem qXz {P : Program} {ty : TypeId} {B o : Nat} (n : Nat) {C : Array Value} {t : TypeId} (hB : ∀ w, S w → Blk w B C t) {V : Array Value} (hV : C.extract o (o + n) = V) (hs : o + n ≤ C.size) {d : TypeDesc} (hu : P.underlying ty = some d) (hd : d.isRow = true) (hi : (P.info? ty).map (·.size) = some n) : Obl.holds P S (.load ty B o (.agg V)) := fun w hS => by
 subst hV
 have := run_loadVar_mid (P := P) w B o ty (C.extract o (o + n)).toList d ((hB w hS).range o n) hu hd (by rw [hi]; simp; omega)
 rw [Array.toArray_toList] at this
 exact this
theorem qyz {P : Program} {ty : TypeId} {B : Nat} {C : Array Value} {t : TypeId} (hB : ∀ w, S w → Blk w B C t) {d : TypeDesc} (hu : P.underlying ty = some d) (hd : d.isRow = true) (hi : (P.info? ty).map (·.size) = some C.size) : Obl.holds P S (.load ty B 0 (.agg C)) := fun w hS => by
 have := run_loadVar_mid (P := P) w B 0 ty C.toList d (hB w hS).range0 hu hd (by simpa using hi)
 rw [Array.toArray_toList] at this
 exact this
theorem qEz {X : Prop} {f : BinOp} {t : TypeId} {x y : Operand} {u v : Value} (hr : ∀ w, ∃ b : Bool, (do eqGuard f t x y u v; binOp f t u v).run prog w = .ok (.bool b) w ∧ (b = true ↔ X)) (hX : Hid X) : Obl.holds prog S (.test f t x y u v (.bool true)) := fun w hS => by
 obtain ⟨b, h1, h2⟩ := hr w
 rw [h1, h2.2 hX.out]
theorem qVz {X : Prop} {f : BinOp} {t : TypeId} {x y : Operand} {u v : Value} (hr : ∀ w, ∃ b : Bool, (do eqGuard f t x y u v; binOp f t u v).run prog w = .ok (.bool b) w ∧ (b = true ↔ X)) (hX : Hid (¬ X)) : Obl.holds prog S (.test f t x y u v (.bool false)) := fun w hS => by
 obtain ⟨b, h1, h2⟩ := hr w
 cases b with
 | true => exact absurd (h2.1 rfl) hX.out
 | false => exact h1
end
theorem slice4 {S : World → Prop} (B o : Nat) : Obl.holds prog S (.sl 37 (.pointer (some ⟨B, o, none⟩)) none none none (.slice (some ⟨B, o, none⟩) 4 4)) := fun w hS => by
 go_simp
def TwoT (W : World) (B B' : Nat) (T T' : Array Value) : Prop := Blk W B T 39 ∧ Blk W B' T' 39 ∧ True
variable {T T' : Array Value}
theorem TwoT.next {W W' : World} {B B' : Nat} (h : TwoT W B B' T T') (k : Below W.heap.size W W') : TwoT W' B B' T T' := ⟨h.1.next k, h.2.1.next k, trivial⟩
theorem kRz {w : World} {t t' : Th} (h : ThD (LtN w) w T t) (h' : ThD (LtN w) w T' t') :
  Asks 146 #[.agg T, .agg T'] (t = t') w := by
 have hmx : prog.follows .mixedOrders = true := by kernel_rfl
 have hz := h.size
 have hz' := h'.size
 obtain ⟨a17, n17, k17, c17, l17⟩ := h.f.clear
 obtain ⟨a28, n28, k28, c28, l28⟩ := h.f.alerts
 have x0 := kmz h
 have r0 := h.f.rlen
 have x18 := ext2 h.f.sc h.f.si
 have x29 := ext2 h.f.lo h.f.hi
 have x23 := ext5 h.f.wc h.f.wi h.f.wx h.f.wv h.f.wd
 have c16 := h.f.pc
 have c20 := h.f.handler
 have c21 := h.f.vector
 have c22 := h.f.state
 obtain ⟨a17', n17', k17', c17', l17'⟩ := h'.f.clear
 obtain ⟨a28', n28', k28', c28', l28'⟩ := h'.f.alerts
 have x0' := kmz h'
 have r0' := h'.f.rlen
 have x18' := ext2 h'.f.sc h'.f.si
 have x29' := ext2 h'.f.lo h'.f.hi
 have x23' := ext5 h'.f.wc h'.f.wi h'.f.wx h'.f.wv h'.f.wd
 have c16' := h'.f.pc
 have c20' := h'.f.handler
 have c21' := h'.f.vector
 have c22' := h'.f.state
 have ga0 := isAgg27
 have ga1 := isAgg22
 have ga2 := isAgg3
 have ga3 := isAgg4
 have ga4 := isAgg28
 have ga5 := isAgg29
 unfold Asks
 go_enter func146, ntmps146
 simp only [List.append]
 go_wp2_with (first
  | go_skip
  | (with_reducible refine qcz rfl _ _ rfl T rfl ?_; intro B W hB hb hk)
  | (with_reducible refine qcz rfl _ _ rfl T' rfl ?_; intro B' W' hB' hb' hk'; replace hb := hb.next hk'; replace hk := btz hk hk'; clear hk'))
 refine y4z (S := fun W => TwoT W B B' T T') hmx (txt_of (by kernel_rfl) rfl (by kernel_rfl)) (TwoT.next ⟨hb, hb', trivial⟩ (brz _ _).drew) (fun hT hS => ?_)
 replace hk := hk.trans ((brz _ W').drew.mono hk.size)
 generalize W'.drew = W3 at hS hk ⊢
 clear hb hb' hB hB'
 refine qCz hT (fun _ _ _ _ _ h => h) hS [none, some (.agg (t.regs.map (Value.int .u64)).toArray), none, some (.agg (t'.regs.map (Value.int .u64)).toArray)] 0 (a' := { tmps := #[.agg T, .agg T', pt B 0, pt B' 0, .bool false, pt B 0, .agg (t.regs.map (Value.int .u64)).toArray, pt B' 0, .agg (t'.regs.map (Value.int .u64)).toArray, ud, ud, ud, ud, ud, ud, ud, ud, ud, ud, ud, ud, ud, ud, ud, ud, ud, ud, ud, ud, ud, ud, ud, ud, ud, ud, ud, ud, ud, ud, ud, ud, ud, ud, ud, ud, ud, ud, ud, ud, ud, ud, ud, ud, ud, ud, ud, ud, ud, ud, ud, ud, ud, ud, ud, ud, ud, ud, ud, ud, ud, ud, ud, ud, ud, ud, ud, ud, ud, ud, ud], defers := [] }) (obs := [.load 30 (B) (0) (.agg (t.regs.map (Value.int .u64)).toArray), .load 30 (B') (0) (.agg (t'.regs.map (Value.int .u64)).toArray)]) (n := 72) (by kernel_rfl) (by kernel_rfl) ⟨qXz 16 (fun _ h => h.1) x0 (by omega) underlying30 (by kernel_rfl) ycz, qXz 16 (fun _ h => h.2.1) x0' (by omega) underlying30 (by kernel_rfl) ycz, trivial⟩ ?_
 by_cases q0 : t.regs = t'.regs
 ·replace q0 : Hid (t.regs = t'.regs) := q0
  refine qCz hT (fun _ _ _ _ _ h => h) hS [some (.bool true), none, none, some (.int .u64 t.pc), none, some (.int .u64 t'.pc)] 4 (a' := { tmps := #[.agg T, .agg T', pt B 0, pt B' 0, .bool false, pt B 0, .agg (t.regs.map (Value.int .u64)).toArray, pt B' 0, .agg (t'.regs.map (Value.int .u64)).toArray, .bool true, .bool true, pt B 16, .int .u64 t.pc, pt B' 16, .int .u64 t'.pc, ud, ud, ud, ud, ud, ud, ud, ud, ud, ud, ud, ud, ud, ud, ud, ud, ud, ud, ud, ud, ud, ud, ud, ud, ud, ud, ud, ud, ud, ud, ud, ud, ud, ud, ud, ud, ud, ud, ud, ud, ud, ud, ud, ud, ud, ud, ud, ud, ud, ud, ud, ud, ud, ud, ud, ud, ud, ud, ud, ud, ud, ud, ud, ud, ud], defers := [] }) (obs := [.test .eql 30 (.tmp 6) (.tmp 8) (.agg (t.regs.map (Value.int .u64)).toArray) (.agg (t'.regs.map (Value.int .u64)).toArray) (.bool true), .load 22 (B) (16) (.int .u64 t.pc), .load 22 (B') (16) (.int .u64 t'.pc)]) (n := 66) (by kernel_rfl) (by kernel_rfl) ⟨qEz (fun _ => jGz _ _ _ _ r0 r0') q0, qhz (fun _ h => h.1) c16 ga1, qhz (fun _ h => h.2.1) c16' ga1, trivial⟩ ?_
  by_cases q1 : t.pc = t'.pc
  ·replace q1 : Hid (t.pc = t'.pc) := q1
   refine qCz hT (fun _ _ _ _ _ h => h) hS [some (.bool true), none, none, none, some (.slice a17 n17 k17), none, some (.slice a17' n17' k17')] 10 (a' := { tmps := #[.agg T, .agg T', pt B 0, pt B' 0, .bool false, pt B 0, .agg (t.regs.map (Value.int .u64)).toArray, pt B' 0, .agg (t'.regs.map (Value.int .u64)).toArray, .bool true, .bool true, pt B 16, .int .u64 t.pc, pt B' 16, .int .u64 t'.pc, .bool true, .bool true, .bool true, pt B 17, .slice a17 n17 k17, pt B' 17, .slice a17' n17' k17', ud, ud, ud, ud, ud, ud, ud, ud, ud, ud, ud, ud, ud, ud, ud, ud, ud, ud, ud, ud, ud, ud, ud, ud, ud, ud, ud, ud, ud, ud, ud, ud, ud, ud, ud, ud, ud, ud, ud, ud, ud, ud, ud, ud, ud, ud, ud, ud, ud, ud, ud, ud, ud, ud, ud, ud, ud, ud], defers := [] }) (obs := [.test .eql 22 (.tmp 12) (.tmp 14) (.int .u64 t.pc) (.int .u64 t'.pc) (.bool true), .load 27 (B) (17) (.slice a17 n17 k17), .load 27 (B') (17) (.slice a17' n17' k17')]) (n := 59) (by kernel_rfl) (by kernel_rfl) ⟨qEz (fun _ => quz _ _ _ _ _ _) q1, qhz (fun _ h => h.1) c17 ga0, qhz (fun _ h => h.2.1) c17' ga0, trivial⟩ ?_
   refine xwz (i := 17) (fuel := 58) (f := 143) (vs := [.slice a17 n17 k17, .slice a17' n17' k17']) (d := some 22) (by kernel_rfl) (by kernel_rfl) (by kernel_rfl) call143 (eqL l17 l17' hk) (fun _ hb => TwoT.next hS hb) ?_ ?_
   ·intro w2 q2 hb1 hS; replace hk := btz hk hb1; clear hb1
    refine qCz hT (fun _ _ _ _ _ h => h) hS [none, none, none, some (.agg #[.int .u64 t.sc, .int .u64 t.si]), none, some (.agg #[.int .u64 t'.sc, .int .u64 t'.si])] 18 (a' := { tmps := #[.agg T, .agg T', pt B 0, pt B' 0, .bool false, pt B 0, .agg (t.regs.map (Value.int .u64)).toArray, pt B' 0, .agg (t'.regs.map (Value.int .u64)).toArray, .bool true, .bool true, pt B 16, .int .u64 t.pc, pt B' 16, .int .u64 t'.pc, .bool true, .bool true, .bool true, pt B 17, .slice a17 n17 k17, pt B' 17, .slice a17' n17' k17', .bool true, .bool true, .bool true, pt B 18, .agg #[.int .u64 t.sc, .int .u64 t.si], pt B' 18, .agg #[.int .u64 t'.sc, .int .u64 t'.si], ud, ud, ud, ud, ud, ud, ud, ud, ud, ud, ud, ud, ud, ud, ud, ud, ud, ud, ud, ud, ud, ud, ud, ud, ud, ud, ud, ud, ud, ud, ud, ud, ud, ud, ud, ud, ud, ud, ud, ud, ud, ud, ud, ud, ud, ud, ud, ud, ud, ud, ud], defers := [] }) (obs := [.load 32 (B) (18) (.agg #[.int .u64 t.sc, .int .u64 t.si]), .load 32 (B') (18) (.agg #[.int .u64 t'.sc, .int .u64 t'.si])]) (n := 52) (by kernel_rfl) (by kernel_rfl) ⟨qXz 2 (fun _ h => h.1) x18 (by omega) underlying32 (by kernel_rfl) x5z, qXz 2 (fun _ h => h.2.1) x18' (by omega) underlying32 (by kernel_rfl) x5z, trivial⟩ ?_
    by_cases q3 : (t.sc = t'.sc ∧ t.si = t'.si)
    ·replace q3 : Hid ((t.sc = t'.sc ∧ t.si = t'.si)) := q3
     refine qCz hT (fun _ _ _ _ _ h => h) hS [some (.bool true), none, none, none, some (.int .u64 t.handler), none, some (.int .u64 t'.handler)] 24 (a' := { tmps := #[.agg T, .agg T', pt B 0, pt B' 0, .bool false, pt B 0, .agg (t.regs.map (Value.int .u64)).toArray, pt B' 0, .agg (t'.regs.map (Value.int .u64)).toArray, .bool true, .bool true, pt B 16, .int .u64 t.pc, pt B' 16, .int .u64 t'.pc, .bool true, .bool true, .bool true, pt B 17, .slice a17 n17 k17, pt B' 17, .slice a17' n17' k17', .bool true, .bool true, .bool true, pt B 18, .agg #[.int .u64 t.sc, .int .u64 t.si], pt B' 18, .agg #[.int .u64 t'.sc, .int .u64 t'.si], .bool true, .bool true, .bool true, pt B 20, .int .u64 t.handler, pt B' 20, .int .u64 t'.handler, ud, ud, ud, ud, ud, ud, ud, ud, ud, ud, ud, ud, ud, ud, ud, ud, ud, ud, ud, ud, ud, ud, ud, ud, ud, ud, ud, ud, ud, ud, ud, ud, ud, ud, ud, ud, ud, ud, ud, ud, ud, ud, ud, ud], defers := [] }) (obs := [.test .eql 32 (.tmp 26) (.tmp 28) (.agg #[.int .u64 t.sc, .int .u64 t.si]) (.agg #[.int .u64 t'.sc, .int .u64 t'.si]) (.bool true), .load 22 (B) (20) (.int .u64 t.handler), .load 22 (B') (20) (.int .u64 t'.handler)]) (n := 45) (by kernel_rfl) (by kernel_rfl) ⟨qEz (fun _ => kLz _ _ _ _ _ _) q3, qhz (fun _ h => h.1) c20 ga1, qhz (fun _ h => h.2.1) c20' ga1, trivial⟩ ?_
     by_cases q4 : t.handler = t'.handler
     ·replace q4 : Hid (t.handler = t'.handler) := q4
      refine qCz hT (fun _ _ _ _ _ h => h) hS [some (.bool true), none, none, none, some (.int .u64 t.vector), none, some (.int .u64 t'.vector)] 31 (a' := { tmps := #[.agg T, .agg T', pt B 0, pt B' 0, .bool false, pt B 0, .agg (t.regs.map (Value.int .u64)).toArray, pt B' 0, .agg (t'.regs.map (Value.int .u64)).toArray, .bool true, .bool true, pt B 16, .int .u64 t.pc, pt B' 16, .int .u64 t'.pc, .bool true, .bool true, .bool true, pt B 17, .slice a17 n17 k17, pt B' 17, .slice a17' n17' k17', .bool true, .bool true, .bool true, pt B 18, .agg #[.int .u64 t.sc, .int .u64 t.si], pt B' 18, .agg #[.int .u64 t'.sc, .int .u64 t'.si], .bool true, .bool true, .bool true, pt B 20, .int .u64 t.handler, pt B' 20, .int .u64 t'.handler, .bool true, .bool true, .bool true, pt B 21, .int .u64 t.vector, pt B' 21, .int .u64 t'.vector, ud, ud, ud, ud, ud, ud, ud, ud, ud, ud, ud, ud, ud, ud, ud, ud, ud, ud, ud, ud, ud, ud, ud, ud, ud, ud, ud, ud, ud, ud, ud, ud, ud, ud, ud, ud, ud], defers := [] }) (obs := [.test .eql 22 (.tmp 33) (.tmp 35) (.int .u64 t.handler) (.int .u64 t'.handler) (.bool true), .load 22 (B) (21) (.int .u64 t.vector), .load 22 (B') (21) (.int .u64 t'.vector)]) (n := 38) (by kernel_rfl) (by kernel_rfl) ⟨qEz (fun _ => quz _ _ _ _ _ _) q4, qhz (fun _ h => h.1) c21 ga1, qhz (fun _ h => h.2.1) c21' ga1, trivial⟩ ?_
      by_cases q5 : t.vector = t'.vector
      ·replace q5 : Hid (t.vector = t'.vector) := q5
       refine qCz hT (fun _ _ _ _ _ h => h) hS [some (.bool true), none, none, none, some (.int .i64 t.state), none, some (.int .i64 t'.state)] 38 (a' := { tmps := #[.agg T, .agg T', pt B 0, pt B' 0, .bool false, pt B 0, .agg (t.regs.map (Value.int .u64)).toArray, pt B' 0, .agg (t'.regs.map (Value.int .u64)).toArray, .bool true, .bool true, pt B 16, .int .u64 t.pc, pt B' 16, .int .u64 t'.pc, .bool true, .bool true, .bool true, pt B 17, .slice a17 n17 k17, pt B' 17, .slice a17' n17' k17', .bool true, .bool true, .bool true, pt B 18, .agg #[.int .u64 t.sc, .int .u64 t.si], pt B' 18, .agg #[.int .u64 t'.sc, .int .u64 t'.si], .bool true, .bool true, .bool true, pt B 20, .int .u64 t.handler, pt B' 20, .int .u64 t'.handler, .bool true, .bool true, .bool true, pt B 21, .int .u64 t.vector, pt B' 21, .int .u64 t'.vector, .bool true, .bool true, .bool true, pt B 22, .int .i64 t.state, pt B' 22, .int .i64 t'.state, ud, ud, ud, ud, ud, ud, ud, ud, ud, ud, ud, ud, ud, ud, ud, ud, ud, ud, ud, ud, ud, ud, ud, ud, ud, ud, ud, ud, ud, ud], defers := [] }) (obs := [.test .eql 22 (.tmp 40) (.tmp 42) (.int .u64 t.vector) (.int .u64 t'.vector) (.bool true), .load 3 (B) (22) (.int .i64 t.state), .load 3 (B') (22) (.int .i64 t'.state)]) (n := 31) (by kernel_rfl) (by kernel_rfl) ⟨qEz (fun _ => quz _ _ _ _ _ _) q5, qhz (fun _ h => h.1) c22 ga2, qhz (fun _ h => h.2.1) c22' ga2, trivial⟩ ?_
       by_cases q6 : t.state = t'.state
       ·replace q6 : Hid (t.state = t'.state) := q6
        refine qCz hT (fun _ _ _ _ _ h => h) hS [some (.bool true), none, none, none, some (.agg #[.int .u64 t.wc, .int .u64 t.wi, .int .u64 t.wx, .int .u64 t.wv, .bool t.wd]), none, some (.agg #[.int .u64 t'.wc, .int .u64 t'.wi, .int .u64 t'.wx, .int .u64 t'.wv, .bool t'.wd])] 45 (a' := { tmps := #[.agg T, .agg T', pt B 0, pt B' 0, .bool false, pt B 0, .agg (t.regs.map (Value.int .u64)).toArray, pt B' 0, .agg (t'.regs.map (Value.int .u64)).toArray, .bool true, .bool true, pt B 16, .int .u64 t.pc, pt B' 16, .int .u64 t'.pc, .bool true, .bool true, .bool true, pt B 17, .slice a17 n17 k17, pt B' 17, .slice a17' n17' k17', .bool true, .bool true, .bool true, pt B 18, .agg #[.int .u64 t.sc, .int .u64 t.si], pt B' 18, .agg #[.int .u64 t'.sc, .int .u64 t'.si], .bool true, .bool true, .bool true, pt B 20, .int .u64 t.handler, pt B' 20, .int .u64 t'.handler, .bool true, .bool true, .bool true, pt B 21, .int .u64 t.vector, pt B' 21, .int .u64 t'.vector, .bool true, .bool true, .bool true, pt B 22, .int .i64 t.state, pt B' 22, .int .i64 t'.state, .bool true, .bool true, .bool true, pt B 23, .agg #[.int .u64 t.wc, .int .u64 t.wi, .int .u64 t.wx, .int .u64 t.wv, .bool t.wd], pt B' 23, .agg #[.int .u64 t'.wc, .int .u64 t'.wi, .int .u64 t'.wx, .int .u64 t'.wv, .bool t'.wd], ud, ud, ud, ud, ud, ud, ud, ud, ud, ud, ud, ud, ud, ud, ud, ud, ud, ud, ud, ud, ud, ud, ud], defers := [] }) (obs := [.test .eql 3 (.tmp 47) (.tmp 49) (.int .i64 t.state) (.int .i64 t'.state) (.bool true), .load 34 (B) (23) (.agg #[.int .u64 t.wc, .int .u64 t.wi, .int .u64 t.wx, .int .u64 t.wv, .bool t.wd]), .load 34 (B') (23) (.agg #[.int .u64 t'.wc, .int .u64 t'.wi, .int .u64 t'.wx, .int .u64 t'.wv, .bool t'.wd])]) (n := 24) (by kernel_rfl) (by kernel_rfl) ⟨qEz (fun _ => quz _ _ _ _ _ _) q6, qXz 5 (fun _ h => h.1) x23 (by omega) underlying34 (by kernel_rfl) k0z, qXz 5 (fun _ h => h.2.1) x23' (by omega) underlying34 (by kernel_rfl) k0z, trivial⟩ ?_
        by_cases q7 : (t.wc = t'.wc ∧ t.wi = t'.wi ∧ t.wx = t'.wx ∧ t.wv = t'.wv ∧ t.wd = t'.wd)
        ·replace q7 : Hid ((t.wc = t'.wc ∧ t.wi = t'.wi ∧ t.wx = t'.wx ∧ t.wv = t'.wv ∧ t.wd = t'.wd)) := q7
         refine qCz hT (fun _ _ _ _ _ h => h) hS [some (.bool true), none, none, none, some (.slice a28 n28 k28), none, some (.slice a28' n28' k28')] 52 (a' := { tmps := #[.agg T, .agg T', pt B 0, pt B' 0, .bool false, pt B 0, .agg (t.regs.map (Value.int .u64)).toArray, pt B' 0, .agg (t'.regs.map (Value.int .u64)).toArray, .bool true, .bool true, pt B 16, .int .u64 t.pc, pt B' 16, .int .u64 t'.pc, .bool true, .bool true, .bool true, pt B 17, .slice a17 n17 k17, pt B' 17, .slice a17' n17' k17', .bool true, .bool true, .bool true, pt B 18, .agg #[.int .u64 t.sc, .int .u64 t.si], pt B' 18, .agg #[.int .u64 t'.sc, .int .u64 t'.si], .bool true, .bool true, .bool true, pt B 20, .int .u64 t.handler, pt B' 20, .int .u64 t'.handler, .bool true, .bool true, .bool true, pt B 21, .int .u64 t.vector, pt B' 21, .int .u64 t'.vector, .bool true, .bool true, .bool true, pt B 22, .int .i64 t.state, pt B' 22, .int .i64 t'.state, .bool true, .bool true, .bool true, pt B 23, .agg #[.int .u64 t.wc, .int .u64 t.wi, .int .u64 t.wx, .int .u64 t.wv, .bool t.wd], pt B' 23, .agg #[.int .u64 t'.wc, .int .u64 t'.wi, .int .u64 t'.wx, .int .u64 t'.wv, .bool t'.wd], .bool true, .bool true, .bool true, pt B 28, .slice a28 n28 k28, pt B' 28, .slice a28' n28' k28', ud, ud, ud, ud, ud, ud, ud, ud, ud, ud, ud, ud, ud, ud, ud, ud], defers := [] }) (obs := [.test .eql 34 (.tmp 54) (.tmp 56) (.agg #[.int .u64 t.wc, .int .u64 t.wi, .int .u64 t.wx, .int .u64 t.wv, .bool t.wd]) (.agg #[.int .u64 t'.wc, .int .u64 t'.wi, .int .u64 t'.wx, .int .u64 t'.wv, .bool t'.wd]) (.bool true), .load 28 (B) (28) (.slice a28 n28 k28), .load 28 (B') (28) (.slice a28' n28' k28')]) (n := 17) (by kernel_rfl) (by kernel_rfl) ⟨qEz (fun _ => knz _ _ _ _ _ _ _ _ _ _ _ _) q7, qhz (fun _ h => h.1) c28 ga4, qhz (fun _ h => h.2.1) c28' ga4, trivial⟩ ?_
         refine xwz (i := 59) (fuel := 16) (f := 144) (vs := [.slice a28 n28 k28, .slice a28' n28' k28']) (d := some 64) (by kernel_rfl) (by kernel_rfl) (by kernel_rfl) call144 (eqU l28 l28' hk) (fun _ hb => TwoT.next hS hb) ?_ ?_
         ·intro w8 q8 hb1 hS; replace hk := btz hk hb1; clear hb1
          refine qCz hT (fun _ _ _ _ _ h => h) hS [none, none, none, some (.agg #[.int .u64 t.lo, .int .u64 t.hi]), none, some (.agg #[.int .u64 t'.lo, .int .u64 t'.hi])] 60 (a' := { tmps := #[.agg T, .agg T', pt B 0, pt B' 0, .bool false, pt B 0, .agg (t.regs.map (Value.int .u64)).toArray, pt B' 0, .agg (t'.regs.map (Value.int .u64)).toArray, .bool true, .bool true, pt B 16, .int .u64 t.pc, pt B' 16, .int .u64 t'.pc, .bool true, .bool true, .bool true, pt B 17, .slice a17 n17 k17, pt B' 17, .slice a17' n17' k17', .bool true, .bool true, .bool true, pt B 18, .agg #[.int .u64 t.sc, .int .u64 t.si], pt B' 18, .agg #[.int .u64 t'.sc, .int .u64 t'.si], .bool true, .bool true, .bool true, pt B 20, .int .u64 t.handler, pt B' 20, .int .u64 t'.handler, .bool true, .bool true, .bool true, pt B 21, .int .u64 t.vector, pt B' 21, .int .u64 t'.vector, .bool true, .bool true, .bool true, pt B 22, .int .i64 t.state, pt B' 22, .int .i64 t'.state, .bool true, .bool true, .bool true, pt B 23, .agg #[.int .u64 t.wc, .int .u64 t.wi, .int .u64 t.wx, .int .u64 t.wv, .bool t.wd], pt B' 23, .agg #[.int .u64 t'.wc, .int .u64 t'.wi, .int .u64 t'.wx, .int .u64 t'.wv, .bool t'.wd], .bool true, .bool true, .bool true, pt B 28, .slice a28 n28 k28, pt B' 28, .slice a28' n28' k28', .bool true, .bool true, .bool true, pt B 29, .agg #[.int .u64 t.lo, .int .u64 t.hi], pt B' 29, .agg #[.int .u64 t'.lo, .int .u64 t'.hi], ud, ud, ud, ud, ud, ud, ud, ud, ud], defers := [] }) (obs := [.load 36 (B) (29) (.agg #[.int .u64 t.lo, .int .u64 t.hi]), .load 36 (B') (29) (.agg #[.int .u64 t'.lo, .int .u64 t'.hi])]) (n := 10) (by kernel_rfl) (by kernel_rfl) ⟨qXz 2 (fun _ h => h.1) x29 (by omega) underlying36 (by kernel_rfl) kZz, qXz 2 (fun _ h => h.2.1) x29' (by omega) underlying36 (by kernel_rfl) kZz, trivial⟩ ?_
          by_cases q9 : (t.lo = t'.lo ∧ t.hi = t'.hi)
          ·replace q9 : Hid ((t.lo = t'.lo ∧ t.hi = t'.hi)) := q9
           refine qCz hT (fun _ _ _ _ _ h => h) hS [some (.bool true), none, none, none, some (.slice (some ⟨B, 31, none⟩) 4 4), none, some (.slice (some ⟨B', 31, none⟩) 4 4)] 66 (a' := { tmps := #[.agg T, .agg T', pt B 0, pt B' 0, .bool false, pt B 0, .agg (t.regs.map (Value.int .u64)).toArray, pt B' 0, .agg (t'.regs.map (Value.int .u64)).toArray, .bool true, .bool true, pt B 16, .int .u64 t.pc, pt B' 16, .int .u64 t'.pc, .bool true, .bool true, .bool true, pt B 17, .slice a17 n17 k17, pt B' 17, .slice a17' n17' k17', .bool true, .bool true, .bool true, pt B 18, .agg #[.int .u64 t.sc, .int .u64 t.si], pt B' 18, .agg #[.int .u64 t'.sc, .int .u64 t'.si], .bool true, .bool true, .bool true, pt B 20, .int .u64 t.handler, pt B' 20, .int .u64 t'.handler, .bool true, .bool true, .bool true, pt B 21, .int .u64 t.vector, pt B' 21, .int .u64 t'.vector, .bool true, .bool true, .bool true, pt B 22, .int .i64 t.state, pt B' 22, .int .i64 t'.state, .bool true, .bool true, .bool true, pt B 23, .agg #[.int .u64 t.wc, .int .u64 t.wi, .int .u64 t.wx, .int .u64 t.wv, .bool t.wd], pt B' 23, .agg #[.int .u64 t'.wc, .int .u64 t'.wi, .int .u64 t'.wx, .int .u64 t'.wv, .bool t'.wd], .bool true, .bool true, .bool true, pt B 28, .slice a28 n28 k28, pt B' 28, .slice a28' n28' k28', .bool true, .bool true, .bool true, pt B 29, .agg #[.int .u64 t.lo, .int .u64 t.hi], pt B' 29, .agg #[.int .u64 t'.lo, .int .u64 t'.hi], .bool true, .bool true, .bool true, pt B 31, .slice (some ⟨B, 31, none⟩) 4 4, pt B' 31, .slice (some ⟨B', 31, none⟩) 4 4, ud, ud], defers := [] }) (obs := [.test .eql 36 (.tmp 68) (.tmp 70) (.agg #[.int .u64 t.lo, .int .u64 t.hi]) (.agg #[.int .u64 t'.lo, .int .u64 t'.hi]) (.bool true), .sl 37 (pt B 31) (none) (none) (none) (.slice (some ⟨B, 31, none⟩) 4 4), .sl 37 (pt B' 31) (none) (none) (none) (.slice (some ⟨B', 31, none⟩) 4 4)]) (n := 3) (by kernel_rfl) (by kernel_rfl) ⟨qEz (fun _ => jFz _ _ _ _ _ _) q9, slice4 _ _, slice4 _ _, trivial⟩ ?_
           refine xwz (i := 73) (fuel := 2) (f := 169) (vs := [.slice (some ⟨B, 31, none⟩) 4 4, .slice (some ⟨B', 31, none⟩) 4 4, .func (.func 143) #[] #[]]) (d := some 78) (by kernel_rfl) (by kernel_rfl) (by kernel_rfl) call169 (four_any (ThD.four (h.next hk) hS.1) (ThD.four (h'.next hk) hS.2.1)) (fun _ hb => TwoT.next hS hb) ?_ ?_
           ·intro w10 q10 hb1 hS; replace hk := btz hk hb1; clear hb1
            refine qCz hT (fun _ _ _ _ _ h => h) hS [none, none] 74 (a' := { tmps := #[.agg T, .agg T', pt B 0, pt B' 0, .bool true, pt B 0, .agg (t.regs.map (Value.int .u64)).toArray, pt B' 0, .agg (t'.regs.map (Value.int .u64)).toArray, .bool true, .bool true, pt B 16, .int .u64 t.pc, pt B' 16, .int .u64 t'.pc, .bool true, .bool true, .bool true, pt B 17, .slice a17 n17 k17, pt B' 17, .slice a17' n17' k17', .bool true, .bool true, .bool true, pt B 18, .agg #[.int .u64 t.sc, .int .u64 t.si], pt B' 18, .agg #[.int .u64 t'.sc, .int .u64 t'.si], .bool true, .bool true, .bool true, pt B 20, .int .u64 t.handler, pt B' 20, .int .u64 t'.handler, .bool true, .bool true, .bool true, pt B 21, .int .u64 t.vector, pt B' 21, .int .u64 t'.vector, .bool true, .bool true, .bool true, pt B 22, .int .i64 t.state, pt B' 22, .int .i64 t'.state, .bool true, .bool true, .bool true, pt B 23, .agg #[.int .u64 t.wc, .int .u64 t.wi, .int .u64 t.wx, .int .u64 t.wv, .bool t.wd], pt B' 23, .agg #[.int .u64 t'.wc, .int .u64 t'.wi, .int .u64 t'.wx, .int .u64 t'.wv, .bool t'.wd], .bool true, .bool true, .bool true, pt B 28, .slice a28 n28 k28, pt B' 28, .slice a28' n28' k28', .bool true, .bool true, .bool true, pt B 29, .agg #[.int .u64 t.lo, .int .u64 t.hi], pt B' 29, .agg #[.int .u64 t'.lo, .int .u64 t'.hi], .bool true, .bool true, .bool true, pt B 31, .slice (some ⟨B, 31, none⟩) 4 4, pt B' 31, .slice (some ⟨B', 31, none⟩) 4 4, .bool true, .bool true], defers := [] }) (obs := []) (n := 0) (by kernel_rfl) (by kernel_rfl) trivial ?_
            refine wpAnyH_done (by kernel_rfl) ?_ _
            go_wp2
            go_ret
            exact qrz (uyz.1 ⟨q0.out, q1.out, q2.out, q3.out, q4.out, q5.out, q6.out, q7.out, q8.out, q9.out, yxz.1 q10.out⟩) hk
           ·intro w10 q10 hb1 hS; replace hk := btz hk hb1; clear hb1
            refine qCz hT (fun _ _ _ _ _ h => h) hS [none, none] 74 (a' := { tmps := #[.agg T, .agg T', pt B 0, pt B' 0, .bool false, pt B 0, .agg (t.regs.map (Value.int .u64)).toArray, pt B' 0, .agg (t'.regs.map (Value.int .u64)).toArray, .bool true, .bool true, pt B 16, .int .u64 t.pc, pt B' 16, .int .u64 t'.pc, .bool true, .bool true, .bool true, pt B 17, .slice a17 n17 k17, pt B' 17, .slice a17' n17' k17', .bool true, .bool true, .bool true, pt B 18, .agg #[.int .u64 t.sc, .int .u64 t.si], pt B' 18, .agg #[.int .u64 t'.sc, .int .u64 t'.si], .bool true, .bool true, .bool true, pt B 20, .int .u64 t.handler, pt B' 20, .int .u64 t'.handler, .bool true, .bool true, .bool true, pt B 21, .int .u64 t.vector, pt B' 21, .int .u64 t'.vector, .bool true, .bool true, .bool true, pt B 22, .int .i64 t.state, pt B' 22, .int .i64 t'.state, .bool true, .bool true, .bool true, pt B 23, .agg #[.int .u64 t.wc, .int .u64 t.wi, .int .u64 t.wx, .int .u64 t.wv, .bool t.wd], pt B' 23, .agg #[.int .u64 t'.wc, .int .u64 t'.wi, .int .u64 t'.wx, .int .u64 t'.wv, .bool t'.wd], .bool true, .bool true, .bool true, pt B 28, .slice a28 n28 k28, pt B' 28, .slice a28' n28' k28', .bool true, .bool true, .bool true, pt B 29, .agg #[.int .u64 t.lo, .int .u64 t.hi], pt B' 29, .agg #[.int .u64 t'.lo, .int .u64 t'.hi], .bool true, .bool true, .bool true, pt B 31, .slice (some ⟨B, 31, none⟩) 4 4, pt B' 31, .slice (some ⟨B', 31, none⟩) 4 4, .bool false, .bool false], defers := [] }) (obs := []) (n := 0) (by kernel_rfl) (by kernel_rfl) trivial ?_
            refine wpAnyH_done (by kernel_rfl) ?_ _
            go_wp2
            go_ret
            refine qkz q10 hk ?_; intro e; rw [e]; exact fun _ _ => rfl
          ·replace q9 : Hid (¬ ((t.lo = t'.lo ∧ t.hi = t'.hi))) := q9
           refine qCz hT (fun _ _ _ _ _ h => h) hS (some (.bool false) :: nl 9) 66 (a' := { tmps := #[.agg T, .agg T', pt B 0, pt B' 0, .bool false, pt B 0, .agg (t.regs.map (Value.int .u64)).toArray, pt B' 0, .agg (t'.regs.map (Value.int .u64)).toArray, .bool true, .bool true, pt B 16, .int .u64 t.pc, pt B' 16, .int .u64 t'.pc, .bool true, .bool true, .bool true, pt B 17, .slice a17 n17 k17, pt B' 17, .slice a17' n17' k17', .bool true, .bool true, .bool true, pt B 18, .agg #[.int .u64 t.sc, .int .u64 t.si], pt B' 18, .agg #[.int .u64 t'.sc, .int .u64 t'.si], .bool true, .bool true, .bool true, pt B 20, .int .u64 t.handler, pt B' 20, .int .u64 t'.handler, .bool true, .bool true, .bool true, pt B 21, .int .u64 t.vector, pt B' 21, .int .u64 t'.vector, .bool true, .bool true, .bool true, pt B 22, .int .i64 t.state, pt B' 22, .int .i64 t'.state, .bool true, .bool true, .bool true, pt B 23, .agg #[.int .u64 t.wc, .int .u64 t.wi, .int .u64 t.wx, .int .u64 t.wv, .bool t.wd], pt B' 23, .agg #[.int .u64 t'.wc, .int .u64 t'.wi, .int .u64 t'.wx, .int .u64 t'.wv, .bool t'.wd], .bool true, .bool true, .bool true, pt B 28, .slice a28 n28 k28, pt B' 28, .slice a28' n28' k28', .bool true, .bool true, .bool true, pt B 29, .agg #[.int .u64 t.lo, .int .u64 t.hi], pt B' 29, .agg #[.int .u64 t'.lo, .int .u64 t'.hi], .bool false, .bool false, .bool false, ud, ud, ud, ud, ud, .bool false], defers := [] }) (obs := [.test .eql 36 (.tmp 68) (.tmp 70) (.agg #[.int .u64 t.lo, .int .u64 t.hi]) (.agg #[.int .u64 t'.lo, .int .u64 t'.hi]) (.bool false)]) (n := 0) (by kernel_rfl) (by kernel_rfl) ⟨qVz (fun _ => jFz _ _ _ _ _ _) q9, trivial⟩ ?_
           refine wpAnyH_done (by kernel_rfl) ?_ _
           go_wp2
           go_ret
           refine qkz q9 hk ?_; intro e; rw [e]; exact ⟨rfl, rfl⟩
         ·intro w8 q8 hb1 hS; replace hk := btz hk hb1; clear hb1
          refine qCz hT (fun _ _ _ _ _ h => h) hS (nl 16) 60 (a' := { tmps := #[.agg T, .agg T', pt B 0, pt B' 0, .bool false, pt B 0, .agg (t.regs.map (Value.int .u64)).toArray, pt B' 0, .agg (t'.regs.map (Value.int .u64)).toArray, .bool true, .bool true, pt B 16, .int .u64 t.pc, pt B' 16, .int .u64 t'.pc, .bool true, .bool true, .bool true, pt B 17, .slice a17 n17 k17, pt B' 17, .slice a17' n17' k17', .bool true, .bool true, .bool true, pt B 18, .agg #[.int .u64 t.sc, .int .u64 t.si], pt B' 18, .agg #[.int .u64 t'.sc, .int .u64 t'.si], .bool true, .bool true, .bool true, pt B 20, .int .u64 t.handler, pt B' 20, .int .u64 t'.handler, .bool true, .bool true, .bool true, pt B 21, .int .u64 t.vector, pt B' 21, .int .u64 t'.vector, .bool true, .bool true, .bool true, pt B 22, .int .i64 t.state, pt B' 22, .int .i64 t'.state, .bool true, .bool true, .bool true, pt B 23, .agg #[.int .u64 t.wc, .int .u64 t.wi, .int .u64 t.wx, .int .u64 t.wv, .bool t.wd], pt B' 23, .agg #[.int .u64 t'.wc, .int .u64 t'.wi, .int .u64 t'.wx, .int .u64 t'.wv, .bool t'.wd], .bool true, .bool true, .bool true, pt B 28, .slice a28 n28 k28, pt B' 28, .slice a28' n28' k28', .bool false, .bool false, .bool false, ud, ud, ud, ud, ud, .bool false, .bool false, ud, ud, ud, ud, ud, .bool false], defers := [] }) (obs := []) (n := 0) (by kernel_rfl) (by kernel_rfl) trivial ?_
          refine wpAnyH_done (by kernel_rfl) ?_ _
          go_wp2
          go_ret
          refine qkz q8 hk ?_; intro e; rw [e]; done
        ·replace q7 : Hid (¬ ((t.wc = t'.wc ∧ t.wi = t'.wi ∧ t.wx = t'.wx ∧ t.wv = t'.wv ∧ t.wd = t'.wd))) := q7
         refine qCz hT (fun _ _ _ _ _ h => h) hS (some (.bool false) :: nl 23) 52 (a' := { tmps := #[.agg T, .agg T', pt B 0, pt B' 0, .bool false, pt B 0, .agg (t.regs.map (Value.int .u64)).toArray, pt B' 0, .agg (t'.regs.map (Value.int .u64)).toArray, .bool true, .bool true, pt B 16, .int .u64 t.pc, pt B' 16, .int .u64 t'.pc, .bool true, .bool true, .bool true, pt B 17, .slice a17 n17 k17, pt B' 17, .slice a17' n17' k17', .bool true, .bool true, .bool true, pt B 18, .agg #[.int .u64 t.sc, .int .u64 t.si], pt B' 18, .agg #[.int .u64 t'.sc, .int .u64 t'.si], .bool true, .bool true, .bool true, pt B 20, .int .u64 t.handler, pt B' 20, .int .u64 t'.handler, .bool true, .bool true, .bool true, pt B 21, .int .u64 t.vector, pt B' 21, .int .u64 t'.vector, .bool true, .bool true, .bool true, pt B 22, .int .i64 t.state, pt B' 22, .int .i64 t'.state, .bool true, .bool true, .bool true, pt B 23, .agg #[.int .u64 t.wc, .int .u64 t.wi, .int .u64 t.wx, .int .u64 t.wv, .bool t.wd], pt B' 23, .agg #[.int .u64 t'.wc, .int .u64 t'.wi, .int .u64 t'.wx, .int .u64 t'.wv, .bool t'.wd], .bool false, .bool false, .bool false, ud, ud, ud, ud, ud, .bool false, .bool false, ud, ud, ud, ud, ud, .bool false, .bool false, ud, ud, ud, ud, ud, .bool false], defers := [] }) (obs := [.test .eql 34 (.tmp 54) (.tmp 56) (.agg #[.int .u64 t.wc, .int .u64 t.wi, .int .u64 t.wx, .int .u64 t.wv, .bool t.wd]) (.agg #[.int .u64 t'.wc, .int .u64 t'.wi, .int .u64 t'.wx, .int .u64 t'.wv, .bool t'.wd]) (.bool false)]) (n := 0) (by kernel_rfl) (by kernel_rfl) ⟨qVz (fun _ => knz _ _ _ _ _ _ _ _ _ _ _ _) q7, trivial⟩ ?_
         refine wpAnyH_done (by kernel_rfl) ?_ _
         go_wp2
         go_ret
         refine qkz q7 hk ?_; intro e; rw [e]; exact ⟨rfl, rfl, rfl, rfl, rfl⟩
       ·replace q6 : Hid (¬ (t.state = t'.state)) := q6
        refine qCz hT (fun _ _ _ _ _ h => h) hS (some (.bool false) :: nl 30) 45 (a' := { tmps := #[.agg T, .agg T', pt B 0, pt B' 0, .bool false, pt B 0, .agg (t.regs.map (Value.int .u64)).toArray, pt B' 0, .agg (t'.regs.map (Value.int .u64)).toArray, .bool true, .bool true, pt B 16, .int .u64 t.pc, pt B' 16, .int .u64 t'.pc, .bool true, .bool true, .bool true, pt B 17, .slice a17 n17 k17, pt B' 17, .slice a17' n17' k17', .bool true, .bool true, .bool true, pt B 18, .agg #[.int .u64 t.sc, .int .u64 t.si], pt B' 18, .agg #[.int .u64 t'.sc, .int .u64 t'.si], .bool true, .bool true, .bool true, pt B 20, .int .u64 t.handler, pt B' 20, .int .u64 t'.handler, .bool true, .bool true, .bool true, pt B 21, .int .u64 t.vector, pt B' 21, .int .u64 t'.vector, .bool true, .bool true, .bool true, pt B 22, .int .i64 t.state, pt B' 22, .int .i64 t'.state, .bool false, .bool false, .bool false, ud, ud, ud, ud, ud, .bool false, .bool false, ud, ud, ud, ud, ud, .bool false, .bool false, ud, ud, ud, ud, ud, .bool false, .bool false, ud, ud, ud, ud, ud, .bool false], defers := [] }) (obs := [.test .eql 3 (.tmp 47) (.tmp 49) (.int .i64 t.state) (.int .i64 t'.state) (.bool false)]) (n := 0) (by kernel_rfl) (by kernel_rfl) ⟨qVz (fun _ => quz _ _ _ _ _ _) q6, trivial⟩ ?_
        refine wpAnyH_done (by kernel_rfl) ?_ _
        go_wp2
        go_ret
        refine qkz q6 hk ?_; intro e; rw [e]; done
      ·replace q5 : Hid (¬ (t.vector = t'.vector)) := q5
       refine qCz hT (fun _ _ _ _ _ h => h) hS (some (.bool false) :: nl 37) 38 (a' := { tmps := #[.agg T, .agg T', pt B 0, pt B' 0, .bool false, pt B 0, .agg (t.regs.map (Value.int .u64)).toArray, pt B' 0, .agg (t'.regs.map (Value.int .u64)).toArray, .bool true, .bool true, pt B 16, .int .u64 t.pc, pt B' 16, .int .u64 t'.pc, .bool true, .bool true, .bool true, pt B 17, .slice a17 n17 k17, pt B' 17, .slice a17' n17' k17', .bool true, .bool true, .bool true, pt B 18, .agg #[.int .u64 t.sc, .int .u64 t.si], pt B' 18, .agg #[.int .u64 t'.sc, .int .u64 t'.si], .bool true, .bool true, .bool true, pt B 20, .int .u64 t.handler, pt B' 20, .int .u64 t'.handler, .bool true, .bool true, .bool true, pt B 21, .int .u64 t.vector, pt B' 21, .int .u64 t'.vector, .bool false, .bool false, .bool false, ud, ud, ud, ud, ud, .bool false, .bool false, ud, ud, ud, ud, ud, .bool false, .bool false, ud, ud, ud, ud, ud, .bool false, .bool false, ud, ud, ud, ud, ud, .bool false, .bool false, ud, ud, ud, ud, ud, .bool false], defers := [] }) (obs := [.test .eql 22 (.tmp 40) (.tmp 42) (.int .u64 t.vector) (.int .u64 t'.vector) (.bool false)]) (n := 0) (by kernel_rfl) (by kernel_rfl) ⟨qVz (fun _ => quz _ _ _ _ _ _) q5, trivial⟩ ?_
       refine wpAnyH_done (by kernel_rfl) ?_ _
       go_wp2
       go_ret
       refine qkz q5 hk ?_; intro e; rw [e]; done
     ·replace q4 : Hid (¬ (t.handler = t'.handler)) := q4
      refine qCz hT (fun _ _ _ _ _ h => h) hS (some (.bool false) :: nl 44) 31 (a' := { tmps := #[.agg T, .agg T', pt B 0, pt B' 0, .bool false, pt B 0, .agg (t.regs.map (Value.int .u64)).toArray, pt B' 0, .agg (t'.regs.map (Value.int .u64)).toArray, .bool true, .bool true, pt B 16, .int .u64 t.pc, pt B' 16, .int .u64 t'.pc, .bool true, .bool true, .bool true, pt B 17, .slice a17 n17 k17, pt B' 17, .slice a17' n17' k17', .bool true, .bool true, .bool true, pt B 18, .agg #[.int .u64 t.sc, .int .u64 t.si], pt B' 18, .agg #[.int .u64 t'.sc, .int .u64 t'.si], .bool true, .bool true, .bool true, pt B 20, .int .u64 t.handler, pt B' 20, .int .u64 t'.handler, .bool false, .bool false, .bool false, ud, ud, ud, ud, ud, .bool false, .bool false, ud, ud, ud, ud, ud, .bool false, .bool false, ud, ud, ud, ud, ud, .bool false, .bool false, ud, ud, ud, ud, ud, .bool false, .bool false, ud, ud, ud, ud, ud, .bool false, .bool false, ud, ud, ud, ud, ud, .bool false], defers := [] }) (obs := [.test .eql 22 (.tmp 33) (.tmp 35) (.int .u64 t.handler) (.int .u64 t'.handler) (.bool false)]) (n := 0) (by kernel_rfl) (by kernel_rfl) ⟨qVz (fun _ => quz _ _ _ _ _ _) q4, trivial⟩ ?_
      refine wpAnyH_done (by kernel_rfl) ?_ _
      go_wp2
      go_ret
      refine qkz q4 hk ?_; intro e; rw [e]; done
    ·replace q3 : Hid (¬ ((t.sc = t'.sc ∧ t.si = t'.si))) := q3
     refine qCz hT (fun _ _ _ _ _ h => h) hS (some (.bool false) :: nl 51) 24 (a' := { tmps := #[.agg T, .agg T', pt B 0, pt B' 0, .bool false, pt B 0, .agg (t.regs.map (Value.int .u64)).toArray, pt B' 0, .agg (t'.regs.map (Value.int .u64)).toArray, .bool true, .bool true, pt B 16, .int .u64 t.pc, pt B' 16, .int .u64 t'.pc, .bool true, .bool true, .bool true, pt B 17, .slice a17 n17 k17, pt B' 17, .slice a17' n17' k17', .bool true, .bool true, .bool true, pt B 18, .agg #[.int .u64 t.sc, .int .u64 t.si], pt B' 18, .agg #[.int .u64 t'.sc, .int .u64 t'.si], .bool false, .bool false, .bool false, ud, ud, ud, ud, ud, .bool false, .bool false, ud, ud, ud, ud, ud, .bool false, .bool false, ud, ud, ud, ud, ud, .bool false, .bool false, ud, ud, ud, ud, ud, .bool false, .bool false, ud, ud, ud, ud, ud, .bool false, .bool false, ud, ud, ud, ud, ud, .bool false, .bool false, ud, ud, ud, ud, ud, .bool false], defers := [] }) (obs := [.test .eql 32 (.tmp 26) (.tmp 28) (.agg #[.int .u64 t.sc, .int .u64 t.si]) (.agg #[.int .u64 t'.sc, .int .u64 t'.si]) (.bool false)]) (n := 0) (by kernel_rfl) (by kernel_rfl) ⟨qVz (fun _ => kLz _ _ _ _ _ _) q3, trivial⟩ ?_
     refine wpAnyH_done (by kernel_rfl) ?_ _
     go_wp2
     go_ret
     refine qkz q3 hk ?_; intro e; rw [e]; exact ⟨rfl, rfl⟩
   ·intro w2 q2 hb1 hS; replace hk := btz hk hb1; clear hb1
    refine qCz hT (fun _ _ _ _ _ h => h) hS (nl 58) 18 (a' := { tmps := #[.agg T, .agg T', pt B 0, pt B' 0, .bool false, pt B 0, .agg (t.regs.map (Value.int .u64)).toArray, pt B' 0, .agg (t'.regs.map (Value.int .u64)).toArray, .bool true, .bool true, pt B 16, .int .u64 t.pc, pt B' 16, .int .u64 t'.pc, .bool true, .bool true, .bool true, pt B 17, .slice a17 n17 k17, pt B' 17, .slice a17' n17' k17', .bool false, .bool false, .bool false, ud, ud, ud, ud, ud, .bool false, .bool false, ud, ud, ud, ud, ud, .bool false, .bool false, ud, ud, ud, ud, ud, .bool false, .bool false, ud, ud, ud, ud, ud, .bool false, .bool false, ud, ud, ud, ud, ud, .bool false, .bool false, ud, ud, ud, ud, ud, .bool false, .bool false, ud, ud, ud, ud, ud, .bool false, .bool false, ud, ud, ud, ud, ud, .bool false], defers := [] }) (obs := []) (n := 0) (by kernel_rfl) (by kernel_rfl) trivial ?_
    refine wpAnyH_done (by kernel_rfl) ?_ _
    go_wp2
    go_ret
    refine qkz q2 hk ?_; intro e; rw [e]; done
  ·replace q1 : Hid (¬ (t.pc = t'.pc)) := q1
   refine qCz hT (fun _ _ _ _ _ h => h) hS (some (.bool false) :: nl 65) 10 (a' := { tmps := #[.agg T, .agg T', pt B 0, pt B' 0, .bool false, pt B 0, .agg (t.regs.map (Value.int .u64)).toArray, pt B' 0, .agg (t'.regs.map (Value.int .u64)).toArray, .bool true, .bool true, pt B 16, .int .u64 t.pc, pt B' 16, .int .u64 t'.pc, .bool false, .bool false, .bool false, ud, ud, ud, ud, ud, .bool false, .bool false, ud, ud, ud, ud, ud, .bool false, .bool false, ud, ud, ud, ud, ud, .bool false, .bool false, ud, ud, ud, ud, ud, .bool false, .bool false, ud, ud, ud, ud, ud, .bool false, .bool false, ud, ud, ud, ud, ud, .bool false, .bool false, ud, ud, ud, ud, ud, .bool false, .bool false, ud, ud, ud, ud, ud, .bool false, .bool false, ud, ud, ud, ud, ud, .bool false], defers := [] }) (obs := [.test .eql 22 (.tmp 12) (.tmp 14) (.int .u64 t.pc) (.int .u64 t'.pc) (.bool false)]) (n := 0) (by kernel_rfl) (by kernel_rfl) ⟨qVz (fun _ => quz _ _ _ _ _ _) q1, trivial⟩ ?_
   refine wpAnyH_done (by kernel_rfl) ?_ _
   go_wp2
   go_ret
   refine qkz q1 hk ?_; intro e; rw [e]; done
 ·replace q0 : Hid (¬ (t.regs = t'.regs)) := q0
  refine qCz hT (fun _ _ _ _ _ h => h) hS (some (.bool false) :: nl 71) 4 (a' := { tmps := #[.agg T, .agg T', pt B 0, pt B' 0, .bool false, pt B 0, .agg (t.regs.map (Value.int .u64)).toArray, pt B' 0, .agg (t'.regs.map (Value.int .u64)).toArray, .bool false, .bool false, ud, ud, ud, ud, ud, .bool false, .bool false, ud, ud, ud, ud, ud, .bool false, .bool false, ud, ud, ud, ud, ud, .bool false, .bool false, ud, ud, ud, ud, ud, .bool false, .bool false, ud, ud, ud, ud, ud, .bool false, .bool false, ud, ud, ud, ud, ud, .bool false, .bool false, ud, ud, ud, ud, ud, .bool false, .bool false, ud, ud, ud, ud, ud, .bool false, .bool false, ud, ud, ud, ud, ud, .bool false, .bool false, ud, ud, ud, ud, ud, .bool false], defers := [] }) (obs := [.test .eql 30 (.tmp 6) (.tmp 8) (.agg (t.regs.map (Value.int .u64)).toArray) (.agg (t'.regs.map (Value.int .u64)).toArray) (.bool false)]) (n := 0) (by kernel_rfl) (by kernel_rfl) ⟨qVz (fun _ => jGz _ _ _ _ r0 r0') q0, trivial⟩ ?_
  refine wpAnyH_done (by kernel_rfl) ?_ _
  go_wp2
  go_ret
  refine qkz q0 hk ?_; intro e; rw [e]; done
theorem Asks.yes {f : FuncId} {args : Array Value} {X : Prop} {W : World} (h : Asks f args X W) (hX : X) : Calls prog f args W fun e w' => e = .returned (.bool true) ∧ Below W.heap.size W w' :=
 h.on (fun _ _ k => ⟨rfl, k⟩) (fun _ q _ => absurd hX q.out)
theorem Asks.no {f : FuncId} {args : Array Value} {X : Prop} {W : World} (h : Asks f args X W) (hX : ¬ X) : Calls prog f args W fun e w' => e = .returned (.bool false) ∧ Below W.heap.size W w' :=
 h.on (fun _ q _ => absurd q.out hX) (fun _ _ k => ⟨rfl, k⟩)
theorem kyz {w : World} {t t' : Th} (h : ThD (LtN w) w T t) (h' : ThD (LtN w) w T' t') :
  Asks 79 #[.agg T, .agg T'] (t = t') w := by
 have hz := h.size
 have hz' := h'.size
 obtain ⟨a17, n17, k17, c17, l17⟩ := h.f.clear
 obtain ⟨a28, n28, k28, c28, l28⟩ := h.f.alerts
 have x0 := kmz h
 have r0 := h.f.rlen
 have x18 := ext2 h.f.sc h.f.si
 have x29 := ext2 h.f.lo h.f.hi
 have x23 := ext5 h.f.wc h.f.wi h.f.wx h.f.wv h.f.wd
 have c16 := h.f.pc
 have c20 := h.f.handler
 have c21 := h.f.vector
 have c22 := h.f.state
 obtain ⟨a17', n17', k17', c17', l17'⟩ := h'.f.clear
 obtain ⟨a28', n28', k28', c28', l28'⟩ := h'.f.alerts
 have x0' := kmz h'
 have r0' := h'.f.rlen
 have x18' := ext2 h'.f.sc h'.f.si
 have x29' := ext2 h'.f.lo h'.f.hi
 have x23' := ext5 h'.f.wc h'.f.wi h'.f.wx h'.f.wv h'.f.wd
 have c16' := h'.f.pc
 have c20' := h'.f.handler
 have c21' := h'.f.vector
 have c22' := h'.f.state
 have ga0 := isAgg27
 have ga1 := isAgg22
 have ga2 := isAgg3
 have ga3 := isAgg4
 have ga4 := isAgg28
 have ga5 := isAgg29
 unfold Asks
 go_enter func79, ntmps79
 simp only [List.append]
 go_wp2_with (first
  | go_skip
  | (with_reducible refine qcz rfl _ _ rfl T rfl ?_; intro B W hB hb hk)
  | (with_reducible refine qcz rfl _ _ rfl T' rfl ?_; intro B' W' hB' hb' hk'; replace hb := hb.next hk'; replace hk := btz hk hk'; clear hk'))
 have hf := ThD.four (h.next hk) hb
 have hf' := ThD.four (h'.next hk) hb'
 go_loopw [5] (fun i wr => ∃ k : Nat, k ≤ 4 ∧ i = .int .i64 k ∧ Hid (∀ j, j < k → labs t j = labs t' j) ∧ Below W'.heap.size W' wr) (fun i _ => 4 - (intOf i).toNat)
 case atStart => exact ⟨0, Nat.zero_le _, rfl, fun j hj => absurd hj (by omega), brz _ _⟩
 case round =>
  obtain ⟨k, hk4, rfl, hal, hbw⟩ := hrel
  by_cases hkn : k < 4
  ·obtain ⟨ai, ni, ci, d1, q2⟩ := (hf.next hbw).2 k hkn
   obtain ⟨ai', ni', ci', d1', q2'⟩ := (hf'.next hbw).2 k hkn
   have hkn' : (k : Int) < 4 := by omega
   have hbz := hb.next hbw
   have hbz' := hb'.next hbw
   have hd0 := (hb.next hbw).lt
   have hd0' := (hb'.next hbw).lt
   clear hb hb' hbz hbz' hf hf'
   by_cases hq : labs t k = labs t' k
   ·replace hq : Hid (labs t k = labs t' k) := hq
    go_wp2
    go_region_held3 (fun w' => w'.cell? ⟨B, 31 + k, none⟩ = some (.slice ai ni ci) ∧ w'.cell? ⟨B', 31 + k, none⟩ = some (.slice ai' ni' ci')) (first | go_keep | (exact ⟨(hb1.cell (p := ⟨B, 31 + k, none⟩) hd0).trans d1, (hb1.cell (p := ⟨B', 31 + k, none⟩) hd0').trans d1'⟩) | fail) (first | (go_at_call 76; (with_reducible refine ((reqL q2 q2' (brz _ _).drew).yes hq.out).mono ?_); rintro e w1 ⟨rfl, hb1⟩) | fail)
    have hb2 := (brz wr.heap.size wr).drew.trans hb1
    go_wp2
    go_roundw
    case rel => exact ⟨k + 1, by omega, by go_num, fun j hj => by
      rcases Nat.lt_or_ge j k with h | h
      ·exact hal.out j h
      ·obtain rfl : j = k := by omega
       exact hq.out, btz hbw hb2⟩
    case measure => simp [intOf]; omega
   ·replace hq : Hid (¬ labs t k = labs t' k) := hq
    go_wp2
    go_region_held3 (fun w' => w'.cell? ⟨B, 31 + k, none⟩ = some (.slice ai ni ci) ∧ w'.cell? ⟨B', 31 + k, none⟩ = some (.slice ai' ni' ci')) (first | go_keep | (exact ⟨(hb1.cell (p := ⟨B, 31 + k, none⟩) hd0).trans d1, (hb1.cell (p := ⟨B', 31 + k, none⟩) hd0').trans d1'⟩) | fail) (first | (go_at_call 76; (with_reducible refine ((reqL q2 q2' (brz _ _).drew).no hq.out).mono ?_); rintro e w1 ⟨rfl, hb1⟩) | fail)
    have hb2 := (brz wr.heap.size wr).drew.trans hb1
    go_wp2
    go_ret
    exact qkz hq (hk.trans ((btz hbw hb2).mono hk.size)) (fun e => by rw [e])
  ·obtain rfl : k = 4 := by omega
   replace hb := hb.next hbw
   replace hb' := hb'.next hbw
   replace hk := btz hk hbw
   clear hf hf' hbw
   simp only [show ((4 : Nat) : Int) = 4 from rfl]
   go_wp2_with (first
    | go_skip
    | (with_reducible refine qaz (by kernel_rfl) _ _ rfl B _ rfl _ _ hb _ (by assumption) (by assumption) ?_)
    | (with_reducible refine qaz (by kernel_rfl) _ _ rfl B' _ rfl _ _ hb' _ (by assumption) (by assumption) ?_)
    | (with_reducible refine qpz (by kernel_rfl) 32 _ rfl B _ rfl 2 _ _ hb _ (by assumption) (by omega) _ underlying32 (by kernel_rfl) x5z ?_)
    | (with_reducible refine qpz (by kernel_rfl) 32 _ rfl B' _ rfl 2 _ _ hb' _ (by assumption) (by omega) _ underlying32 (by kernel_rfl) x5z ?_)
    | (with_reducible refine qpz (by kernel_rfl) 36 _ rfl B _ rfl 2 _ _ hb _ (by assumption) (by omega) _ underlying36 (by kernel_rfl) kZz ?_)
    | (with_reducible refine qpz (by kernel_rfl) 36 _ rfl B' _ rfl 2 _ _ hb' _ (by assumption) (by omega) _ underlying36 (by kernel_rfl) kZz ?_)
    | (with_reducible refine qpz (by kernel_rfl) 34 _ rfl B _ rfl 5 _ _ hb _ (by assumption) (by omega) _ underlying34 (by kernel_rfl) k0z ?_)
    | (with_reducible refine qpz (by kernel_rfl) 34 _ rfl B' _ rfl 5 _ _ hb' _ (by assumption) (by omega) _ underlying34 (by kernel_rfl) k0z ?_)
    | (with_reducible refine qpz (by kernel_rfl) 30 _ rfl B _ rfl 16 _ _ hb _ (by assumption) (by omega) _ underlying30 (by kernel_rfl) ycz ?_)
    | (with_reducible refine qpz (by kernel_rfl) 30 _ rfl B' _ rfl 16 _ _ hb' _ (by assumption) (by omega) _ underlying30 (by kernel_rfl) ycz ?_)
    | ((with_reducible refine qgz (by kernel_rfl) .eql _ _ _ _ rfl _ _ rfl rfl (quz _ _ _ _ _ _) ?_ ?_) <;> intro hq)
    | ((with_reducible refine qgz (by kernel_rfl) .eql _ _ _ _ rfl _ _ rfl rfl (kLz _ _ _ _ _ _) ?_ ?_) <;> intro hq)
    | ((with_reducible refine qgz (by kernel_rfl) .eql _ _ _ _ rfl _ _ rfl rfl (jFz _ _ _ _ _ _) ?_ ?_) <;> intro hq)
    | ((with_reducible refine qgz (by kernel_rfl) .eql _ _ _ _ rfl _ _ rfl rfl (knz _ _ _ _ _ _ _ _ _ _ _ _) ?_ ?_) <;> intro hq)
    | ((with_reducible refine qgz (by kernel_rfl) .eql _ _ _ _ rfl _ _ rfl rfl (jGz _ _ _ _ r0 r0') ?_ ?_) <;> intro hq)
    | (go_at_call 76; (with_reducible refine (reqL (by assumption) (by assumption) hk).on ?_ ?_) <;> (intro w1 hq hb1; replace hb := hb.next hb1; replace hb' := hb'.next hb1; replace hk := btz hk hb1; clear hb1))
    | (go_at_call 77; (with_reducible refine (reqU (by assumption) (by assumption) hk).on ?_ ?_) <;> (intro w1 hq hb1; replace hb := hb.next hb1; replace hb' := hb'.next hb1; replace hk := btz hk hb1; clear hb1)))
   all_goals go_ret
   all_goals first
    | (refine qkz (by assumption) hk ?_; intro e; rw [e]; done)
    | (refine qkz (by assumption) hk ?_; intro e; rw [e]; exact ⟨rfl, rfl⟩)
    | (refine qkz (by assumption) hk ?_; intro e; rw [e]; exact ⟨rfl, rfl, rfl, rfl, rfl⟩)
    | (refine qkz (by assumption) hk ?_; intro e; rw [e]; exact fun _ _ => rfl)
    | (refine qrz ?_ hk; exact uyz.1 ⟨Hid.out (by assumption), Hid.out (by assumption), Hid.out (by assumption), Hid.out (by assumption), Hid.out (by assumption), Hid.out (by assumption), Hid.out (by assumption), Hid.out (by assumption), Hid.out (by assumption), Hid.out (by assumption), yxz.1 hal.out⟩)
    | fail
end
end Go.Proofs.YtchgingkmkhbhaaGreat
