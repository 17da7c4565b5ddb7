/-
 PROVED HERE: plain facts on objects and worlds as records of numbers and lists (no Go text); memory's words for objects and. What is asked stands at each.
-/
import Derived.RangeFuncNested
import Derived.RangeFuncBound
import Derived.RangeFuncBox
import Derived.Shelf.Abstract
import Derived.Shelf.RegionOpen
import Derived.WalkKit
import Derived.Below
import Derived.OwnWalk
import Derived.WalkSmall
import Derived.Laws.EntriesVeiled
import Derived.Deep.QuietTactic
import Derived.Deep.MidRow
import Derived.Deep.WholeRow
import Derived.Deep.RegionHeld3
import Derived.Test.YtloghnpfplljgaaGreatRows
import Derived.ChangeKeysEq
import Derived.Laws.StructEq
import Derived.Deep.DeepCutAuto
import Derived.Test.YtloghnpfplljgaaGreatZ1
import Derived.Test.YtloghnpfplljgaaGreatZ2
namespace Go.Proofs.YtloghnpfplljgaaGreat
set_option maxRecDepth 100000
set_option maxHeartbeats 8000000
set_option linter.unusedVariables false
open Go.Proofs.Tryz
section
open PgM.Pg (Mp eqB eqB_iff)
instance : DecidableEq Mp := fun x y => decidable_of_decidable_of_iff (p := eqB x y = true) eqB_iff
abbrev Lb := List (Int × Int)
structure Th where
 regs : List Int
 pc : Int
 clear : Lb
 sc : Int
 si : Int
 handler : Int
 vector : Int
 state : Int
 wc : Int
 wi : Int
 wx : Int
 wv : Int
 wd : Bool
 alerts : List Int
 lo : Int
 hi : Int
 l0 : Lb
 l1 : Lb
 l2 : Lb
 l3 : Lb
structure Gt where
 grant : Lb
 clear : Lb
 sc : Int
 si : Int
 pc : Int
 arg : Int
structure Ob where
 id : Int
 kind : Int
 label : Lb
 quota : Int
 fixed : Bool
 links : List Int
 data : List Int
 maps : List Mp
 th : Th
 gt : Gt
 inn : List Int
 out : List Int
structure Wd where
 time : Int
 key : Int
 root : Int
 obs : List Ob
def zTh : Th := ⟨[0, 0, 0, 0, 0, 0, 0, 0, 0, 0, 0, 0, 0, 0, 0, 0], 0, [], 0, 0, 0, 0, 0, 0, 0, 0, 0, false, [], 0, 0, [], [], [], []⟩
def zGt : Gt := ⟨[], [], 0, 0, 0, 0⟩
def zOb : Ob := ⟨0, 0, [], 0, false, [], [], [], zTh, zGt, [], []⟩
instance : Inhabited Ob := ⟨zOb⟩
theorem nxz {p : Prop} [Decidable p] {a b c v : Option Value} (e : a = if p then b else c) (h : ¬p) (q : c = v) : a = v := e.trans ((if_neg h).trans q)
theorem gqz {a b : Th} : (a.regs = b.regs ∧ a.pc = b.pc ∧ a.clear = b.clear ∧ (a.sc = b.sc ∧ a.si = b.si) ∧ a.handler = b.handler ∧ a.vector = b.vector ∧ a.state = b.state ∧ (a.wc = b.wc ∧ a.wi = b.wi ∧ a.wx = b.wx ∧ a.wv = b.wv ∧ a.wd = b.wd) ∧ a.alerts = b.alerts ∧ (a.lo = b.lo ∧ a.hi = b.hi) ∧ (a.l0 = b.l0 ∧ a.l1 = b.l1 ∧ a.l2 = b.l2 ∧ a.l3 = b.l3)) ↔ a = b := by
 cases a; cases b
 simp only [Th.mk.injEq]
 constructor
 ·rintro ⟨h1, h2, h3, ⟨h4, h5⟩, h6, h7, h8, ⟨h9, h10, h11, h12, h13⟩, h14, ⟨h15, h16⟩, h17, h18, h19, h20⟩
  exact ⟨h1, h2, h3, h4, h5, h6, h7, h8, h9, h10, h11, h12, h13, h14, h15, h16, h17, h18, h19, h20⟩
 ·rintro ⟨h1, h2, h3, h4, h5, h6, h7, h8, h9, h10, h11, h12, h13, h14, h15, h16, h17, h18, h19, h20⟩
  exact ⟨h1, h2, h3, ⟨h4, h5⟩, h6, h7, h8, ⟨h9, h10, h11, h12, h13⟩, h14, ⟨h15, h16⟩, h17, h18, h19, h20⟩
theorem bwz {a b : Gt} : (a.grant = b.grant ∧ a.clear = b.clear ∧ (a.sc = b.sc ∧ a.si = b.si) ∧ a.pc = b.pc ∧ a.arg = b.arg) ↔ a = b := by
 cases a; cases b
 simp only [Gt.mk.injEq]
 constructor
 ·rintro ⟨h1, h2, ⟨h3, h4⟩, h5, h6⟩; exact ⟨h1, h2, h3, h4, h5, h6⟩
 ·rintro ⟨h1, h2, h3, h4, h5, h6⟩; exact ⟨h1, h2, ⟨h3, h4⟩, h5, h6⟩
instance : DecidableEq Th := fun _ _ => decidable_of_decidable_of_iff gqz
instance : DecidableEq Gt := fun _ _ => decidable_of_decidable_of_iff bwz
theorem g4z {a b : Ob} : (a.id = b.id ∧ a.kind = b.kind ∧ a.label = b.label ∧ a.quota = b.quota ∧ a.fixed = b.fixed ∧ a.links = b.links ∧ a.data = b.data ∧ a.maps = b.maps ∧ a.th = b.th ∧ a.gt = b.gt ∧ a.inn = b.inn ∧ a.out = b.out) ↔ a = b := by
 cases a; cases b
 simp only [Ob.mk.injEq]
instance : DecidableEq Ob := fun _ _ => decidable_of_decidable_of_iff g4z
theorem wd_iff {a b : Wd} : (a.time = b.time ∧ a.key = b.key ∧ a.root = b.root ∧ a.obs = b.obs) ↔ a = b := by
 cases a; cases b
 simp only [Wd.mk.injEq]
instance : DecidableEq Wd := fun _ _ => decidable_of_decidable_of_iff wd_iff
def sameO (a b : Ob) : Bool := decide (a = b)
theorem gBz {a b : Ob} : sameO a b = true ↔ a = b := by unfold sameO; rw [decide_eq_true_iff]
def idB (n : Int) : Bool := decide (1 ≤ n) && decide (n ≤ 2305843009213693952)
def qYz (L : Lb) : Bool := decide (L.length ≤ 16) && (fitB L && L.all fun p => !decide (p.2 = 5))
def vbz (l b : Lb) : Bool := qYz l && (qYz b && leqB l b)
def risB (l : List Int) : Bool := decide (l.Pairwise (· < ·))
def waitB (t : Th) : Bool := decide (t.state = 1) || decide (t.wc = 0 ∧ t.wi = 0 ∧ t.wx = 0 ∧ t.wv = 0 ∧ t.wd = false)
def spanB (t : Th) : Bool := decide (t.lo ≤ t.hi) && decide (t.hi ≤ 2305843009213693952)
def thrB (t : Th) : Bool := qYz t.l0 && (qYz t.l1 && (qYz t.l2 && (qYz t.l3 && (decide (0 ≤ t.state) && (decide (t.state ≤ 2) && (decide (t.alerts.length ≤ 8) && (spanB t && waitB t)))))))
def comB (x : Ob) : Bool := idB x.id && (decide (1 ≤ x.quota) && (decide (x.quota ≤ 4096) && (qYz x.label && (decide (x.kind = 4) || decide (wOz x.label = [])))))
def ownB (x : Ob) : Bool :=
 if x.kind = 1 then decide ((x.data.length : Int) ≤ 16 * (x.quota - 1)) else
 if x.kind = 2 then decide (x.links.length ≤ 64) && (x.links.all idB && risB x.links) else
 if x.kind = 3 then PgM.Pg.fitB x.maps else
 if x.kind = 4 then !x.fixed && (vbz x.label x.th.clear && thrB x.th) else
 if x.kind = 5 then vbz x.gt.grant x.gt.clear else
 if x.kind = 6 then decide (x.inn.length ≤ 64) && decide (x.out.length ≤ 1024) else false
def comO (x : Ob) : Ob := ⟨x.id, x.kind, x.label, x.quota, x.fixed, [], [], [], zTh, zGt, [], []⟩
def witO (x : Ob) : Ob :=
 if x.kind = 1 then ⟨x.id, x.kind, x.label, x.quota, x.fixed, x.links, [], x.maps, x.th, x.gt, x.inn, x.out⟩ else
 if x.kind = 2 then ⟨x.id, x.kind, x.label, x.quota, x.fixed, [], x.data, x.maps, x.th, x.gt, x.inn, x.out⟩ else
 if x.kind = 3 then ⟨x.id, x.kind, x.label, x.quota, x.fixed, x.links, x.data, [], x.th, x.gt, x.inn, x.out⟩ else
 if x.kind = 4 then ⟨x.id, x.kind, x.label, x.quota, x.fixed, x.links, x.data, x.maps, zTh, x.gt, x.inn, x.out⟩ else
 if x.kind = 5 then ⟨x.id, x.kind, x.label, x.quota, x.fixed, x.links, x.data, x.maps, x.th, zGt, x.inn, x.out⟩ else
 if x.kind = 6 then ⟨x.id, x.kind, x.label, x.quota, x.fixed, x.links, x.data, x.maps, x.th, x.gt, [], []⟩ else x
def aloO (x : Ob) : Ob :=
 if x.kind = 1 then ⟨x.id, x.kind, x.label, x.quota, x.fixed, [], x.data, [], zTh, zGt, [], []⟩ else
 if x.kind = 2 then ⟨x.id, x.kind, x.label, x.quota, x.fixed, x.links, [], [], zTh, zGt, [], []⟩ else
 if x.kind = 3 then ⟨x.id, x.kind, x.label, x.quota, x.fixed, [], [], x.maps, zTh, zGt, [], []⟩ else
 if x.kind = 4 then ⟨x.id, x.kind, x.label, x.quota, x.fixed, [], [], [], x.th, zGt, [], []⟩ else
 if x.kind = 5 then ⟨x.id, x.kind, x.label, x.quota, x.fixed, [], [], [], zTh, x.gt, [], []⟩ else
 if x.kind = 6 then ⟨x.id, x.kind, x.label, x.quota, x.fixed, [], [], [], zTh, zGt, x.inn, x.out⟩ else comO x
def q9z (x : Ob) : Bool := comB x && (ownB x && sameO (witO x) (comO x))
theorem wdz (x : Ob) : witO x = comO x ↔ aloO x = x := by
 unfold witO aloO
 obtain ⟨id, kind, label, quota, fixed, links, data, maps, th, gt, inn, out⟩ := x
 simp only [comO]
 split
 ·simp only [Ob.mk.injEq]; constructor <;> (rintro ⟨h1, h2, h3, h4, h5, h6, h7, h8, h9, h10, h11, h12⟩; simp_all)
 split
 ·simp only [Ob.mk.injEq]; constructor <;> (rintro ⟨h1, h2, h3, h4, h5, h6, h7, h8, h9, h10, h11, h12⟩; simp_all)
 split
 ·simp only [Ob.mk.injEq]; constructor <;> (rintro ⟨h1, h2, h3, h4, h5, h6, h7, h8, h9, h10, h11, h12⟩; simp_all)
 split
 ·simp only [Ob.mk.injEq]; constructor <;> (rintro ⟨h1, h2, h3, h4, h5, h6, h7, h8, h9, h10, h11, h12⟩; simp_all)
 split
 ·simp only [Ob.mk.injEq]; constructor <;> (rintro ⟨h1, h2, h3, h4, h5, h6, h7, h8, h9, h10, h11, h12⟩; simp_all)
 split
 ·simp only [Ob.mk.injEq]; constructor <;> (rintro ⟨h1, h2, h3, h4, h5, h6, h7, h8, h9, h10, h11, h12⟩; simp_all)
 exact eq_comm
def pagN (x : Ob) : Int := 1 + ((x.data.length : Int) + 15) / 16
def heaO (x : Ob) : Ob := ⟨x.id, x.kind, if x.kind = 4 then [] else x.label, x.quota, x.fixed, [], [], [], zTh, zGt, [], []⟩
def idsB (l : List Ob) : Bool := risB (l.map Ob.id)
def fitW (W : Wd) : Bool := decide (0 ≤ W.time) && (decide (W.time ≤ 1099511627776) && (decide (W.obs.length ≤ 1024) && (idsB W.obs && W.obs.all q9z)))
def Srt (l : List Ob) : Prop := l.Pairwise fun x y => x.id < y.id
theorem idsB_iff {l : List Ob} : idsB l = true ↔ Srt l := by unfold idsB risB Srt; rw [decide_eq_true_iff, List.pairwise_map]
def lowL (l : List Ob) (i : Int) : List Ob := l.filter fun x => decide (x.id < i)
def higL (l : List Ob) (i : Int) : List Ob := l.filter fun x => decide (i < x.id)
def ahd (l : List Ob) (i : Int) : Nat := (lowL l i).length
def fnd (l : List Ob) (i : Int) : Option Ob := l.find? fun x => decide (x.id = i)
def drpL (l : List Ob) (i : Int) : List Ob := lowL l i ++ higL l i
end
section
open Go.RowKit Go.Shelf
def CtD (D : Nat → Prop) (w : World) (ao : Option Addr) (n cap : Nat) (C : List Int) : Prop :=
 C.length = n ∧ n ≤ cap ∧ (cap ≤ 9223372036854775807 ∧ (ao = none → cap = 0)) ∧
 (0 < n → ∃ b off, ao = some ⟨b, off, none⟩ ∧ D b ∧ ∀ i, i < n → w.cell? ⟨b, off + i, none⟩ = some (.int .u64 (C.getD i 0)))
abbrev MpD := PgM.MpsD
section
variable {D D' : Nat → Prop} {w w' : World} {ao : Option Addr} {n cap : Nat}
theorem CtD.laterK {C : List Int} (h : CtD D w ao n cap C) (k : ∀ b, D b → w'.heap[b]? = w.heap[b]?) : CtD D w' ao n cap C := by
 obtain ⟨h1, h2, h3, h4⟩ := h
 refine ⟨h1, h2, h3, fun hn => ?_⟩
 obtain ⟨b, off, e, hb, hc⟩ := h4 hn
 exact ⟨b, off, e, hb, fun i hi => (World.cell?_of_block (w := w) (a := ⟨b, off + i, none⟩) (k b hb)).trans (hc i hi)⟩
theorem CtD.wide {C : List Int} (h : CtD D w ao n cap C) (hD : ∀ b, D b → D' b) : CtD D' w ao n cap C := by
 obtain ⟨h1, h2, h3, h4⟩ := h
 refine ⟨h1, h2, h3, fun hn => ?_⟩
 obtain ⟨b, off, e, hb, hc⟩ := h4 hn
 exact ⟨b, off, e, hD b hb, hc⟩
theorem CtD.nil (D : Nat → Prop) (w : World) : CtD D w none 0 0 [] := ⟨rfl, lrz _, ⟨by omega, fun _ => rfl⟩, fun h => absurd h (by omega)⟩
theorem LabD.laterK {L : Lb} (h : LabD D w ao n cap L) (k : ∀ b, D b → w'.heap[b]? = w.heap[b]?) : LabD D w' ao n cap L := by
 obtain ⟨h1, h2, h3, h4⟩ := h
 refine ⟨h1, h2, h3, fun hn => ?_⟩
 obtain ⟨b, off, e, hb, hc⟩ := h4 hn
 exact ⟨b, off, e, hb, fun i hi => ⟨(World.cell?_of_block (w := w) (a := ⟨b, off + i * 2, none⟩) (k b hb)).trans (hc i hi).1, (World.cell?_of_block (w := w) (a := ⟨b, off + i * 2 + 1, none⟩) (k b hb)).trans (hc i hi).2⟩⟩
theorem LabD.wide {L : Lb} (h : LabD D w ao n cap L) (hD : ∀ b, D b → D' b) : LabD D' w ao n cap L := by
 obtain ⟨h1, h2, h3, h4⟩ := h
 refine ⟨h1, h2, h3, fun hn => ?_⟩
 obtain ⟨b, off, e, hb, hc⟩ := h4 hn
 exact ⟨b, off, e, hD b hb, hc⟩
theorem LabD.nil (D : Nat → Prop) (w : World) : LabD D w none 0 0 [] := ⟨rfl, lrz _, ⟨by omega, fun _ => rfl⟩, fun h => absurd h (by omega)⟩
theorem MpD.nil (D : Nat → Prop) (w : World) : MpD D w none 0 0 [] := ⟨rfl, lrz _, ⟨by omega, fun _ => rfl⟩, fun h => absurd h (by omega)⟩
end
def LbV (D : Nat → Prop) (w : World) (v : Option Value) (L : Lb) : Prop := ∃ ao n cap, v = some (.slice ao n cap) ∧ LabD D w ao n cap L
def CtV (D : Nat → Prop) (w : World) (v : Option Value) (L : List Int) : Prop := ∃ ao n cap, v = some (.slice ao n cap) ∧ CtD D w ao n cap L
def MpV (D : Nat → Prop) (w : World) (v : Option Value) (L : List PgM.Pg.Mp) : Prop := ∃ ao n cap, v = some (.slice ao n cap) ∧ MpD D w ao n cap L
section
variable {D D' : Nat → Prop} {w w' : World} {v : Option Value}
theorem LbV.laterK {L : Lb} (h : LbV D w v L) (k : ∀ b, D b → w'.heap[b]? = w.heap[b]?) : LbV D w' v L := by obtain ⟨a, n, c, e, h⟩ := h; exact ⟨a, n, c, e, h.laterK k⟩
theorem LbV.wide {L : Lb} (h : LbV D w v L) (k : ∀ b, D b → D' b) : LbV D' w v L := by obtain ⟨a, n, c, e, h⟩ := h; exact ⟨a, n, c, e, h.wide k⟩
theorem CtV.laterK {L : List Int} (h : CtV D w v L) (k : ∀ b, D b → w'.heap[b]? = w.heap[b]?) : CtV D w' v L := by obtain ⟨a, n, c, e, h⟩ := h; exact ⟨a, n, c, e, h.laterK k⟩
theorem CtV.wide {L : List Int} (h : CtV D w v L) (k : ∀ b, D b → D' b) : CtV D' w v L := by obtain ⟨a, n, c, e, h⟩ := h; exact ⟨a, n, c, e, h.wide k⟩
theorem MpV.laterK {L : List PgM.Pg.Mp} (h : MpV D w v L) (k : ∀ b, D b → w'.heap[b]? = w.heap[b]?) : MpV D w' v L := by obtain ⟨a, n, c, e, h⟩ := h; exact ⟨a, n, c, e, PgM.MpsD.laterK h k⟩
theorem MpV.wide {L : List PgM.Pg.Mp} (h : MpV D w v L) (k : ∀ b, D b → D' b) : MpV D' w v L := by obtain ⟨a, n, c, e, h⟩ := h; exact ⟨a, n, c, e, PgM.MpsD.wide h k⟩
theorem LbV.zero (D : Nat → Prop) (w : World) : LbV D w (some (.slice none 0 0)) [] := ⟨none, 0, 0, rfl, LabD.nil _ _⟩
theorem CtV.zero (D : Nat → Prop) (w : World) : CtV D w (some (.slice none 0 0)) [] := ⟨none, 0, 0, rfl, CtD.nil _ _⟩
theorem MpV.zero (D : Nat → Prop) (w : World) : MpV D w (some (.slice none 0 0)) [] := ⟨none, 0, 0, rfl, MpD.nil _ _⟩
end
structure ThF (D : Nat → Prop) (w : World) (f : Nat → Option Value) (t : Th) : Prop where
 rlen : t.regs.length = 16
 regs : ∀ i, i < 16 → f i = some (.int .u64 (t.regs.getD i 0))
 pc : f 16 = some (.int .u64 t.pc)
 clear : LbV D w (f 17) t.clear
 sc : f 18 = some (.int .u64 t.sc)
 si : f 19 = some (.int .u64 t.si)
 handler : f 20 = some (.int .u64 t.handler)
 vector : f 21 = some (.int .u64 t.vector)
 state : f 22 = some (.int .i64 t.state)
 wc : f 23 = some (.int .u64 t.wc)
 wi : f 24 = some (.int .u64 t.wi)
 wx : f 25 = some (.int .u64 t.wx)
 wv : f 26 = some (.int .u64 t.wv)
 wd : f 27 = some (.bool t.wd)
 alerts : CtV D w (f 28) t.alerts
 lo : f 29 = some (.int .u64 t.lo)
 hi : f 30 = some (.int .u64 t.hi)
 l0 : LbV D w (f 31) t.l0
 l1 : LbV D w (f 32) t.l1
 l2 : LbV D w (f 33) t.l2
 l3 : LbV D w (f 34) t.l3
structure GtF (D : Nat → Prop) (w : World) (f : Nat → Option Value) (g : Gt) : Prop where
 grant : LbV D w (f 0) g.grant
 clear : LbV D w (f 1) g.clear
 sc : f 2 = some (.int .u64 g.sc)
 si : f 3 = some (.int .u64 g.si)
 pc : f 4 = some (.int .u64 g.pc)
 arg : f 5 = some (.int .u64 g.arg)
structure ThD (D : Nat → Prop) (w : World) (T : Array Value) (t : Th) : Prop where
 size : T.size = 35
 one : T.all (·.oneCell') = true
 f : ThF D w (fun i => T[i]?) t
structure GtD (D : Nat → Prop) (w : World) (T : Array Value) (t : Gt) : Prop where
 size : T.size = 6
 one : T.all (·.oneCell') = true
 f : GtF D w (fun i => T[i]?) t
structure ObD (D : Nat → Prop) (w : World) (C : Array Value) (x : Ob) : Prop where
 size : C.size = 51
 one : C.all (·.oneCell') = true
 id : C[0]? = some (.int .u64 x.id)
 kind : C[1]? = some (.int .i64 x.kind)
 label : LbV D w (C[2]?) x.label
 quota : C[3]? = some (.int .i64 x.quota)
 fixed : C[4]? = some (.bool x.fixed)
 links : CtV D w (C[5]?) x.links
 data : CtV D w (C[6]?) x.data
 maps : MpV D w (C[7]?) x.maps
 th : ThF D w (fun i => C[8 + i]?) x.th
 gt : GtF D w (fun i => C[43 + i]?) x.gt
 inn : CtV D w (C[49]?) x.inn
 out : CtV D w (C[50]?) x.out
section
variable {D D' : Nat → Prop} {w w' : World}
theorem ThF.laterK {f : Nat → Option Value} {t : Th} (h : ThF D w f t) (k : ∀ b, D b → w'.heap[b]? = w.heap[b]?) : ThF D w' f t :=
 ⟨h.rlen, h.regs, h.pc, h.clear.laterK k, h.sc, h.si, h.handler, h.vector, h.state, h.wc, h.wi, h.wx, h.wv, h.wd, h.alerts.laterK k, h.lo, h.hi, h.l0.laterK k, h.l1.laterK k, h.l2.laterK k, h.l3.laterK k⟩
theorem GtF.laterK {f : Nat → Option Value} {t : Gt} (h : GtF D w f t) (k : ∀ b, D b → w'.heap[b]? = w.heap[b]?) : GtF D w' f t :=
 ⟨h.grant.laterK k, h.clear.laterK k, h.sc, h.si, h.pc, h.arg⟩
theorem ThD.laterK {T : Array Value} {t : Th} (h : ThD D w T t) (k : ∀ b, D b → w'.heap[b]? = w.heap[b]?) : ThD D w' T t := ⟨h.size, h.one, h.f.laterK k⟩
theorem GtD.laterK {T : Array Value} {t : Gt} (h : GtD D w T t) (k : ∀ b, D b → w'.heap[b]? = w.heap[b]?) : GtD D w' T t := ⟨h.size, h.one, h.f.laterK k⟩
theorem ObD.laterK {C : Array Value} {x : Ob} (h : ObD D w C x) (k : ∀ b, D b → w'.heap[b]? = w.heap[b]?) : ObD D w' C x :=
 ⟨h.size, h.one, h.id, h.kind, h.label.laterK k, h.quota, h.fixed, h.links.laterK k, h.data.laterK k, h.maps.laterK k, h.th.laterK k, h.gt.laterK k, h.inn.laterK k, h.out.laterK k⟩
theorem ThF.wide {f : Nat → Option Value} {t : Th} (h : ThF D w f t) (k : ∀ b, D b → D' b) : ThF D' w f t :=
 ⟨h.rlen, h.regs, h.pc, h.clear.wide k, h.sc, h.si, h.handler, h.vector, h.state, h.wc, h.wi, h.wx, h.wv, h.wd, h.alerts.wide k, h.lo, h.hi, h.l0.wide k, h.l1.wide k, h.l2.wide k, h.l3.wide k⟩
theorem GtF.wide {f : Nat → Option Value} {t : Gt} (h : GtF D w f t) (k : ∀ b, D b → D' b) : GtF D' w f t :=
 ⟨h.grant.wide k, h.clear.wide k, h.sc, h.si, h.pc, h.arg⟩
theorem ThD.wide {T : Array Value} {t : Th} (h : ThD D w T t) (k : ∀ b, D b → D' b) : ThD D' w T t := ⟨h.size, h.one, h.f.wide k⟩
theorem GtD.wide {T : Array Value} {t : Gt} (h : GtD D w T t) (k : ∀ b, D b → D' b) : GtD D' w T t := ⟨h.size, h.one, h.f.wide k⟩
theorem ObD.wide {C : Array Value} {x : Ob} (h : ObD D w C x) (k : ∀ b, D b → D' b) : ObD D' w C x :=
 ⟨h.size, h.one, h.id, h.kind, h.label.wide k, h.quota, h.fixed, h.links.wide k, h.data.wide k, h.maps.wide k, h.th.wide k, h.gt.wide k, h.inn.wide k, h.out.wide k⟩
theorem ThF.congr {f g : Nat → Option Value} {t : Th} (h : ThF D w f t) (e : ∀ i, i < 35 → f i = g i) : ThF D w g t :=
 ⟨h.rlen, fun i hi => by rw [← e i (by omega)]; exact h.regs i hi, by rw [← e 16 (by omega)]; exact h.pc, by rw [← e 17 (by omega)]; exact h.clear, by rw [← e 18 (by omega)]; exact h.sc, by rw [← e 19 (by omega)]; exact h.si, by rw [← e 20 (by omega)]; exact h.handler, by rw [← e 21 (by omega)]; exact h.vector, by rw [← e 22 (by omega)]; exact h.state, by rw [← e 23 (by omega)]; exact h.wc, by rw [← e 24 (by omega)]; exact h.wi, by rw [← e 25 (by omega)]; exact h.wx, by rw [← e 26 (by omega)]; exact h.wv, by rw [← e 27 (by omega)]; exact h.wd, by rw [← e 28 (by omega)]; exact h.alerts, by rw [← e 29 (by omega)]; exact h.lo, by rw [← e 30 (by omega)]; exact h.hi, by rw [← e 31 (by omega)]; exact h.l0, by rw [← e 32 (by omega)]; exact h.l1, by rw [← e 33 (by omega)]; exact h.l2, by rw [← e 34 (by omega)]; exact h.l3⟩
theorem GtF.congr {f g : Nat → Option Value} {t : Gt} (h : GtF D w f t) (e : ∀ i, i < 6 → f i = g i) : GtF D w g t :=
 ⟨by rw [← e 0 (by omega)]; exact h.grant, by rw [← e 1 (by omega)]; exact h.clear, by rw [← e 2 (by omega)]; exact h.sc, by rw [← e 3 (by omega)]; exact h.si, by rw [← e 4 (by omega)]; exact h.pc, by rw [← e 5 (by omega)]; exact h.arg⟩
theorem w1z {T : Array Value} (h : ∀ (j : Nat) (v : Value), T[j]? = some v → v.oneCell' = true) : T.all (·.oneCell') = true := by
 rw [Array.all_eq_true_iff_forall_mem]
 intro v hv
 obtain ⟨j, hj⟩ := Array.mem_iff_getElem?.1 hv
 exact h j v hj
theorem wqz {T : Array Value} (h : T.all (·.oneCell') = true) {j : Nat} {v : Value} (e : T[j]? = some v) : v.oneCell' = true := by
 rw [Array.all_eq_true_iff_forall_mem] at h
 exact h v (Array.mem_iff_getElem?.2 ⟨j, e⟩)
theorem q1z {C : Array Value} {o n i : Nat} (hs : o + n ≤ C.size) (hi : i < n) : (C.extract o (o + n))[i]? = C[o + i]? := by
 rw [Array.getElem?_extract, if_pos (by omega)]
theorem x9z {C : Array Value} {o n : Nat} (h : C.all (·.oneCell') = true) : (C.extract o n).all (·.oneCell') = true := by
 refine w1z fun j v e => ?_
 rw [Array.getElem?_extract] at e
 split at e
 ·exact wqz h e
 ·cases e
theorem ObD.thd {C : Array Value} {x : Ob} (h : ObD D w C x) : ThD D w (C.extract 8 (8 + 35)) x.th :=
 ⟨by simp [h.size], x9z h.one, h.th.congr fun i hi => (q1z (by rw [h.size]; omega) hi).symm⟩
theorem ObD.gtd {C : Array Value} {x : Ob} (h : ObD D w C x) : GtD D w (C.extract 43 (43 + 6)) x.gt :=
 ⟨by simp [h.size], x9z h.one, h.gt.congr fun i hi => (q1z (by rw [h.size]; omega) hi).symm⟩
theorem qEz {C : Array Value} {j i : Nat} {v : Value} (hj : j < C.size) : (C.setIfInBounds j v)[i]? = if j = i then some v else C[i]? := by
 rw [Array.getElem?_setIfInBounds]
 by_cases e : j = i
 ·subst e; simp [hj]
 ·simp [e]
theorem wgz {C : Array Value} {j : Nat} {v : Value} (h : C.all (·.oneCell') = true) (hv : v.oneCell' = true) : (C.setIfInBounds j v).all (·.oneCell') = true := by
 refine w1z fun i u e => ?_
 rw [Array.getElem?_setIfInBounds] at e
 split at e
 ·split at e
  ·cases e; exact hv
  ·cases e
 ·exact wqz h e
theorem ObD.set2 {C : Array Value} {x : Ob} (h : ObD D w C x) {v : Value} {L : Lb} (k : LbV D w (some v) L) (hv : v.oneCell' = true) : ObD D w (C.setIfInBounds 2 v) { x with label := L } := by
 have e : ∀ i, (C.setIfInBounds 2 v)[i]? = if 2 = i then some v else C[i]? := fun i => qEz (by rw [h.size]; omega)
 exact ⟨by simp [h.size], wgz h.one hv, nxz (e _) (by omega) h.id, nxz (e _) (by omega) h.kind, by rw [e, if_pos rfl]; exact k, nxz (e _) (by omega) h.quota, nxz (e _) (by omega) h.fixed, by rw [e, if_neg (by omega)]; exact h.links, by rw [e, if_neg (by omega)]; exact h.data, by rw [e, if_neg (by omega)]; exact h.maps, h.th.congr fun i hi => by rw [e, if_neg (by omega)], h.gt.congr fun i hi => by rw [e, if_neg (by omega)], by rw [e, if_neg (by omega)]; exact h.inn, by rw [e, if_neg (by omega)]; exact h.out⟩
theorem ObD.set5 {C : Array Value} {x : Ob} (h : ObD D w C x) {v : Value} {L : List Int} (k : CtV D w (some v) L) (hv : v.oneCell' = true) : ObD D w (C.setIfInBounds 5 v) { x with links := L } := by
 have e : ∀ i, (C.setIfInBounds 5 v)[i]? = if 5 = i then some v else C[i]? := fun i => qEz (by rw [h.size]; omega)
 exact ⟨by simp [h.size], wgz h.one hv, nxz (e _) (by omega) h.id, nxz (e _) (by omega) h.kind, by rw [e, if_neg (by omega)]; exact h.label, nxz (e _) (by omega) h.quota, nxz (e _) (by omega) h.fixed, by rw [e, if_pos rfl]; exact k, by rw [e, if_neg (by omega)]; exact h.data, by rw [e, if_neg (by omega)]; exact h.maps, h.th.congr fun i hi => by rw [e, if_neg (by omega)], h.gt.congr fun i hi => by rw [e, if_neg (by omega)], by rw [e, if_neg (by omega)]; exact h.inn, by rw [e, if_neg (by omega)]; exact h.out⟩
theorem ObD.set6 {C : Array Value} {x : Ob} (h : ObD D w C x) {v : Value} {L : List Int} (k : CtV D w (some v) L) (hv : v.oneCell' = true) : ObD D w (C.setIfInBounds 6 v) { x with data := L } := by
 have e : ∀ i, (C.setIfInBounds 6 v)[i]? = if 6 = i then some v else C[i]? := fun i => qEz (by rw [h.size]; omega)
 exact ⟨by simp [h.size], wgz h.one hv, nxz (e _) (by omega) h.id, nxz (e _) (by omega) h.kind, by rw [e, if_neg (by omega)]; exact h.label, nxz (e _) (by omega) h.quota, nxz (e _) (by omega) h.fixed, by rw [e, if_neg (by omega)]; exact h.links, by rw [e, if_pos rfl]; exact k, by rw [e, if_neg (by omega)]; exact h.maps, h.th.congr fun i hi => by rw [e, if_neg (by omega)], h.gt.congr fun i hi => by rw [e, if_neg (by omega)], by rw [e, if_neg (by omega)]; exact h.inn, by rw [e, if_neg (by omega)]; exact h.out⟩
theorem ObD.set7 {C : Array Value} {x : Ob} (h : ObD D w C x) {v : Value} {L : List PgM.Pg.Mp} (k : MpV D w (some v) L) (hv : v.oneCell' = true) : ObD D w (C.setIfInBounds 7 v) { x with maps := L } := by
 have e : ∀ i, (C.setIfInBounds 7 v)[i]? = if 7 = i then some v else C[i]? := fun i => qEz (by rw [h.size]; omega)
 exact ⟨by simp [h.size], wgz h.one hv, nxz (e _) (by omega) h.id, nxz (e _) (by omega) h.kind, by rw [e, if_neg (by omega)]; exact h.label, nxz (e _) (by omega) h.quota, nxz (e _) (by omega) h.fixed, by rw [e, if_neg (by omega)]; exact h.links, by rw [e, if_neg (by omega)]; exact h.data, by rw [e, if_pos rfl]; exact k, h.th.congr fun i hi => by rw [e, if_neg (by omega)], h.gt.congr fun i hi => by rw [e, if_neg (by omega)], by rw [e, if_neg (by omega)]; exact h.inn, by rw [e, if_neg (by omega)]; exact h.out⟩
theorem ObD.set49 {C : Array Value} {x : Ob} (h : ObD D w C x) {v : Value} {L : List Int} (k : CtV D w (some v) L) (hv : v.oneCell' = true) : ObD D w (C.setIfInBounds 49 v) { x with inn := L } := by
 have e : ∀ i, (C.setIfInBounds 49 v)[i]? = if 49 = i then some v else C[i]? := fun i => qEz (by rw [h.size]; omega)
 exact ⟨by simp [h.size], wgz h.one hv, nxz (e _) (by omega) h.id, nxz (e _) (by omega) h.kind, by rw [e, if_neg (by omega)]; exact h.label, nxz (e _) (by omega) h.quota, nxz (e _) (by omega) h.fixed, by rw [e, if_neg (by omega)]; exact h.links, by rw [e, if_neg (by omega)]; exact h.data, by rw [e, if_neg (by omega)]; exact h.maps, h.th.congr fun i hi => by rw [e, if_neg (by omega)], h.gt.congr fun i hi => by rw [e, if_neg (by omega)], by rw [e, if_pos rfl]; exact k, by rw [e, if_neg (by omega)]; exact h.out⟩
theorem ObD.set50 {C : Array Value} {x : Ob} (h : ObD D w C x) {v : Value} {L : List Int} (k : CtV D w (some v) L) (hv : v.oneCell' = true) : ObD D w (C.setIfInBounds 50 v) { x with out := L } := by
 have e : ∀ i, (C.setIfInBounds 50 v)[i]? = if 50 = i then some v else C[i]? := fun i => qEz (by rw [h.size]; omega)
 exact ⟨by simp [h.size], wgz h.one hv, nxz (e _) (by omega) h.id, nxz (e _) (by omega) h.kind, by rw [e, if_neg (by omega)]; exact h.label, nxz (e _) (by omega) h.quota, nxz (e _) (by omega) h.fixed, by rw [e, if_neg (by omega)]; exact h.links, by rw [e, if_neg (by omega)]; exact h.data, by rw [e, if_neg (by omega)]; exact h.maps, h.th.congr fun i hi => by rw [e, if_neg (by omega)], h.gt.congr fun i hi => by rw [e, if_neg (by omega)], by rw [e, if_neg (by omega)]; exact h.inn, by rw [e, if_pos rfl]; exact k⟩
theorem ObD.set25 {C : Array Value} {x : Ob} (h : ObD D w C x) {v : Value} {L : Lb} (k : LbV D w (some v) L) (hv : v.oneCell' = true) : ObD D w (C.setIfInBounds 25 v) { x with th := { x.th with clear := L } } := by
 have e : ∀ i, (C.setIfInBounds 25 v)[i]? = if 25 = i then some v else C[i]? := fun i => qEz (by rw [h.size]; omega)
 exact ⟨by simp [h.size], wgz h.one hv, nxz (e _) (by omega) h.id, nxz (e _) (by omega) h.kind, by rw [e, if_neg (by omega)]; exact h.label, nxz (e _) (by omega) h.quota, nxz (e _) (by omega) h.fixed, by rw [e, if_neg (by omega)]; exact h.links, by rw [e, if_neg (by omega)]; exact h.data, by rw [e, if_neg (by omega)]; exact h.maps, ⟨h.th.rlen, fun i hi => by show (C.setIfInBounds 25 v)[8 + i]? = _; rw [e, if_neg (by omega)]; exact h.th.regs i hi, by show (C.setIfInBounds 25 v)[24]? = some (.int .u64 x.th.pc); rw [e, if_neg (by omega)]; exact h.th.pc, by show LbV D w ((C.setIfInBounds 25 v)[25]?) L; rw [e, if_pos rfl]; exact k, by show (C.setIfInBounds 25 v)[26]? = some (.int .u64 x.th.sc); rw [e, if_neg (by omega)]; exact h.th.sc, by show (C.setIfInBounds 25 v)[27]? = some (.int .u64 x.th.si); rw [e, if_neg (by omega)]; exact h.th.si, by show (C.setIfInBounds 25 v)[28]? = some (.int .u64 x.th.handler); rw [e, if_neg (by omega)]; exact h.th.handler, by show (C.setIfInBounds 25 v)[29]? = some (.int .u64 x.th.vector); rw [e, if_neg (by omega)]; exact h.th.vector, by show (C.setIfInBounds 25 v)[30]? = some (.int .i64 x.th.state); rw [e, if_neg (by omega)]; exact h.th.state, by show (C.setIfInBounds 25 v)[31]? = some (.int .u64 x.th.wc); rw [e, if_neg (by omega)]; exact h.th.wc, by show (C.setIfInBounds 25 v)[32]? = some (.int .u64 x.th.wi); rw [e, if_neg (by omega)]; exact h.th.wi, by show (C.setIfInBounds 25 v)[33]? = some (.int .u64 x.th.wx); rw [e, if_neg (by omega)]; exact h.th.wx, by show (C.setIfInBounds 25 v)[34]? = some (.int .u64 x.th.wv); rw [e, if_neg (by omega)]; exact h.th.wv, by show (C.setIfInBounds 25 v)[35]? = some (.bool x.th.wd); rw [e, if_neg (by omega)]; exact h.th.wd, by show CtV D w ((C.setIfInBounds 25 v)[36]?) x.th.alerts; rw [e, if_neg (by omega)]; exact h.th.alerts, by show (C.setIfInBounds 25 v)[37]? = some (.int .u64 x.th.lo); rw [e, if_neg (by omega)]; exact h.th.lo, by show (C.setIfInBounds 25 v)[38]? = some (.int .u64 x.th.hi); rw [e, if_neg (by omega)]; exact h.th.hi, by show LbV D w ((C.setIfInBounds 25 v)[39]?) x.th.l0; rw [e, if_neg (by omega)]; exact h.th.l0, by show LbV D w ((C.setIfInBounds 25 v)[40]?) x.th.l1; rw [e, if_neg (by omega)]; exact h.th.l1, by show LbV D w ((C.setIfInBounds 25 v)[41]?) x.th.l2; rw [e, if_neg (by omega)]; exact h.th.l2, by show LbV D w ((C.setIfInBounds 25 v)[42]?) x.th.l3; rw [e, if_neg (by omega)]; exact h.th.l3⟩, h.gt.congr fun i hi => by rw [e, if_neg (by omega)], by rw [e, if_neg (by omega)]; exact h.inn, by rw [e, if_neg (by omega)]; exact h.out⟩
theorem ObD.set36 {C : Array Value} {x : Ob} (h : ObD D w C x) {v : Value} {L : List Int} (k : CtV D w (some v) L) (hv : v.oneCell' = true) : ObD D w (C.setIfInBounds 36 v) { x with th := { x.th with alerts := L } } := by
 have e : ∀ i, (C.setIfInBounds 36 v)[i]? = if 36 = i then some v else C[i]? := fun i => qEz (by rw [h.size]; omega)
 exact ⟨by simp [h.size], wgz h.one hv, nxz (e _) (by omega) h.id, nxz (e _) (by omega) h.kind, by rw [e, if_neg (by omega)]; exact h.label, nxz (e _) (by omega) h.quota, nxz (e _) (by omega) h.fixed, by rw [e, if_neg (by omega)]; exact h.links, by rw [e, if_neg (by omega)]; exact h.data, by rw [e, if_neg (by omega)]; exact h.maps, ⟨h.th.rlen, fun i hi => by show (C.setIfInBounds 36 v)[8 + i]? = _; rw [e, if_neg (by omega)]; exact h.th.regs i hi, by show (C.setIfInBounds 36 v)[24]? = some (.int .u64 x.th.pc); rw [e, if_neg (by omega)]; exact h.th.pc, by show LbV D w ((C.setIfInBounds 36 v)[25]?) x.th.clear; rw [e, if_neg (by omega)]; exact h.th.clear, by show (C.setIfInBounds 36 v)[26]? = some (.int .u64 x.th.sc); rw [e, if_neg (by omega)]; exact h.th.sc, by show (C.setIfInBounds 36 v)[27]? = some (.int .u64 x.th.si); rw [e, if_neg (by omega)]; exact h.th.si, by show (C.setIfInBounds 36 v)[28]? = some (.int .u64 x.th.handler); rw [e, if_neg (by omega)]; exact h.th.handler, by show (C.setIfInBounds 36 v)[29]? = some (.int .u64 x.th.vector); rw [e, if_neg (by omega)]; exact h.th.vector, by show (C.setIfInBounds 36 v)[30]? = some (.int .i64 x.th.state); rw [e, if_neg (by omega)]; exact h.th.state, by show (C.setIfInBounds 36 v)[31]? = some (.int .u64 x.th.wc); rw [e, if_neg (by omega)]; exact h.th.wc, by show (C.setIfInBounds 36 v)[32]? = some (.int .u64 x.th.wi); rw [e, if_neg (by omega)]; exact h.th.wi, by show (C.setIfInBounds 36 v)[33]? = some (.int .u64 x.th.wx); rw [e, if_neg (by omega)]; exact h.th.wx, by show (C.setIfInBounds 36 v)[34]? = some (.int .u64 x.th.wv); rw [e, if_neg (by omega)]; exact h.th.wv, by show (C.setIfInBounds 36 v)[35]? = some (.bool x.th.wd); rw [e, if_neg (by omega)]; exact h.th.wd, by show CtV D w ((C.setIfInBounds 36 v)[36]?) L; rw [e, if_pos rfl]; exact k, by show (C.setIfInBounds 36 v)[37]? = some (.int .u64 x.th.lo); rw [e, if_neg (by omega)]; exact h.th.lo, by show (C.setIfInBounds 36 v)[38]? = some (.int .u64 x.th.hi); rw [e, if_neg (by omega)]; exact h.th.hi, by show LbV D w ((C.setIfInBounds 36 v)[39]?) x.th.l0; rw [e, if_neg (by omega)]; exact h.th.l0, by show LbV D w ((C.setIfInBounds 36 v)[40]?) x.th.l1; rw [e, if_neg (by omega)]; exact h.th.l1, by show LbV D w ((C.setIfInBounds 36 v)[41]?) x.th.l2; rw [e, if_neg (by omega)]; exact h.th.l2, by show LbV D w ((C.setIfInBounds 36 v)[42]?) x.th.l3; rw [e, if_neg (by omega)]; exact h.th.l3⟩, h.gt.congr fun i hi => by rw [e, if_neg (by omega)], by rw [e, if_neg (by omega)]; exact h.inn, by rw [e, if_neg (by omega)]; exact h.out⟩
theorem ObD.set39 {C : Array Value} {x : Ob} (h : ObD D w C x) {v : Value} {L : Lb} (k : LbV D w (some v) L) (hv : v.oneCell' = true) : ObD D w (C.setIfInBounds 39 v) { x with th := { x.th with l0 := L } } := by
 have e : ∀ i, (C.setIfInBounds 39 v)[i]? = if 39 = i then some v else C[i]? := fun i => qEz (by rw [h.size]; omega)
 exact ⟨by simp [h.size], wgz h.one hv, nxz (e _) (by omega) h.id, nxz (e _) (by omega) h.kind, by rw [e, if_neg (by omega)]; exact h.label, nxz (e _) (by omega) h.quota, nxz (e _) (by omega) h.fixed, by rw [e, if_neg (by omega)]; exact h.links, by rw [e, if_neg (by omega)]; exact h.data, by rw [e, if_neg (by omega)]; exact h.maps, ⟨h.th.rlen, fun i hi => by show (C.setIfInBounds 39 v)[8 + i]? = _; rw [e, if_neg (by omega)]; exact h.th.regs i hi, by show (C.setIfInBounds 39 v)[24]? = some (.int .u64 x.th.pc); rw [e, if_neg (by omega)]; exact h.th.pc, by show LbV D w ((C.setIfInBounds 39 v)[25]?) x.th.clear; rw [e, if_neg (by omega)]; exact h.th.clear, by show (C.setIfInBounds 39 v)[26]? = some (.int .u64 x.th.sc); rw [e, if_neg (by omega)]; exact h.th.sc, by show (C.setIfInBounds 39 v)[27]? = some (.int .u64 x.th.si); rw [e, if_neg (by omega)]; exact h.th.si, by show (C.setIfInBounds 39 v)[28]? = some (.int .u64 x.th.handler); rw [e, if_neg (by omega)]; exact h.th.handler, by show (C.setIfInBounds 39 v)[29]? = some (.int .u64 x.th.vector); rw [e, if_neg (by omega)]; exact h.th.vector, by show (C.setIfInBounds 39 v)[30]? = some (.int .i64 x.th.state); rw [e, if_neg (by omega)]; exact h.th.state, by show (C.setIfInBounds 39 v)[31]? = some (.int .u64 x.th.wc); rw [e, if_neg (by omega)]; exact h.th.wc, by show (C.setIfInBounds 39 v)[32]? = some (.int .u64 x.th.wi); rw [e, if_neg (by omega)]; exact h.th.wi, by show (C.setIfInBounds 39 v)[33]? = some (.int .u64 x.th.wx); rw [e, if_neg (by omega)]; exact h.th.wx, by show (C.setIfInBounds 39 v)[34]? = some (.int .u64 x.th.wv); rw [e, if_neg (by omega)]; exact h.th.wv, by show (C.setIfInBounds 39 v)[35]? = some (.bool x.th.wd); rw [e, if_neg (by omega)]; exact h.th.wd, by show CtV D w ((C.setIfInBounds 39 v)[36]?) x.th.alerts; rw [e, if_neg (by omega)]; exact h.th.alerts, by show (C.setIfInBounds 39 v)[37]? = some (.int .u64 x.th.lo); rw [e, if_neg (by omega)]; exact h.th.lo, by show (C.setIfInBounds 39 v)[38]? = some (.int .u64 x.th.hi); rw [e, if_neg (by omega)]; exact h.th.hi, by show LbV D w ((C.setIfInBounds 39 v)[39]?) L; rw [e, if_pos rfl]; exact k, by show LbV D w ((C.setIfInBounds 39 v)[40]?) x.th.l1; rw [e, if_neg (by omega)]; exact h.th.l1, by show LbV D w ((C.setIfInBounds 39 v)[41]?) x.th.l2; rw [e, if_neg (by omega)]; exact h.th.l2, by show LbV D w ((C.setIfInBounds 39 v)[42]?) x.th.l3; rw [e, if_neg (by omega)]; exact h.th.l3⟩, h.gt.congr fun i hi => by rw [e, if_neg (by omega)], by rw [e, if_neg (by omega)]; exact h.inn, by rw [e, if_neg (by omega)]; exact h.out⟩
theorem ObD.set40 {C : Array Value} {x : Ob} (h : ObD D w C x) {v : Value} {L : Lb} (k : LbV D w (some v) L) (hv : v.oneCell' = true) : ObD D w (C.setIfInBounds 40 v) { x with th := { x.th with l1 := L } } := by
 have e : ∀ i, (C.setIfInBounds 40 v)[i]? = if 40 = i then some v else C[i]? := fun i => qEz (by rw [h.size]; omega)
 exact ⟨by simp [h.size], wgz h.one hv, nxz (e _) (by omega) h.id, nxz (e _) (by omega) h.kind, by rw [e, if_neg (by omega)]; exact h.label, nxz (e _) (by omega) h.quota, nxz (e _) (by omega) h.fixed, by rw [e, if_neg (by omega)]; exact h.links, by rw [e, if_neg (by omega)]; exact h.data, by rw [e, if_neg (by omega)]; exact h.maps, ⟨h.th.rlen, fun i hi => by show (C.setIfInBounds 40 v)[8 + i]? = _; rw [e, if_neg (by omega)]; exact h.th.regs i hi, by show (C.setIfInBounds 40 v)[24]? = some (.int .u64 x.th.pc); rw [e, if_neg (by omega)]; exact h.th.pc, by show LbV D w ((C.setIfInBounds 40 v)[25]?) x.th.clear; rw [e, if_neg (by omega)]; exact h.th.clear, by show (C.setIfInBounds 40 v)[26]? = some (.int .u64 x.th.sc); rw [e, if_neg (by omega)]; exact h.th.sc, by show (C.setIfInBounds 40 v)[27]? = some (.int .u64 x.th.si); rw [e, if_neg (by omega)]; exact h.th.si, by show (C.setIfInBounds 40 v)[28]? = some (.int .u64 x.th.handler); rw [e, if_neg (by omega)]; exact h.th.handler, by show (C.setIfInBounds 40 v)[29]? = some (.int .u64 x.th.vector); rw [e, if_neg (by omega)]; exact h.th.vector, by show (C.setIfInBounds 40 v)[30]? = some (.int .i64 x.th.state); rw [e, if_neg (by omega)]; exact h.th.state, by show (C.setIfInBounds 40 v)[31]? = some (.int .u64 x.th.wc); rw [e, if_neg (by omega)]; exact h.th.wc, by show (C.setIfInBounds 40 v)[32]? = some (.int .u64 x.th.wi); rw [e, if_neg (by omega)]; exact h.th.wi, by show (C.setIfInBounds 40 v)[33]? = some (.int .u64 x.th.wx); rw [e, if_neg (by omega)]; exact h.th.wx, by show (C.setIfInBounds 40 v)[34]? = some (.int .u64 x.th.wv); rw [e, if_neg (by omega)]; exact h.th.wv, by show (C.setIfInBounds 40 v)[35]? = some (.bool x.th.wd); rw [e, if_neg (by omega)]; exact h.th.wd, by show CtV D w ((C.setIfInBounds 40 v)[36]?) x.th.alerts; rw [e, if_neg (by omega)]; exact h.th.alerts, by show (C.setIfInBounds 40 v)[37]? = some (.int .u64 x.th.lo); rw [e, if_neg (by omega)]; exact h.th.lo, by show (C.setIfInBounds 40 v)[38]? = some (.int .u64 x.th.hi); rw [e, if_neg (by omega)]; exact h.th.hi, by show LbV D w ((C.setIfInBounds 40 v)[39]?) x.th.l0; rw [e, if_neg (by omega)]; exact h.th.l0, by show LbV D w ((C.setIfInBounds 40 v)[40]?) L; rw [e, if_pos rfl]; exact k, by show LbV D w ((C.setIfInBounds 40 v)[41]?) x.th.l2; rw [e, if_neg (by omega)]; exact h.th.l2, by show LbV D w ((C.setIfInBounds 40 v)[42]?) x.th.l3; rw [e, if_neg (by omega)]; exact h.th.l3⟩, h.gt.congr fun i hi => by rw [e, if_neg (by omega)], by rw [e, if_neg (by omega)]; exact h.inn, by rw [e, if_neg (by omega)]; exact h.out⟩
theorem ObD.set41 {C : Array Value} {x : Ob} (h : ObD D w C x) {v : Value} {L : Lb} (k : LbV D w (some v) L) (hv : v.oneCell' = true) : ObD D w (C.setIfInBounds 41 v) { x with th := { x.th with l2 := L } } := by
 have e : ∀ i, (C.setIfInBounds 41 v)[i]? = if 41 = i then some v else C[i]? := fun i => qEz (by rw [h.size]; omega)
 exact ⟨by simp [h.size], wgz h.one hv, nxz (e _) (by omega) h.id, nxz (e _) (by omega) h.kind, by rw [e, if_neg (by omega)]; exact h.label, nxz (e _) (by omega) h.quota, nxz (e _) (by omega) h.fixed, by rw [e, if_neg (by omega)]; exact h.links, by rw [e, if_neg (by omega)]; exact h.data, by rw [e, if_neg (by omega)]; exact h.maps, ⟨h.th.rlen, fun i hi => by show (C.setIfInBounds 41 v)[8 + i]? = _; rw [e, if_neg (by omega)]; exact h.th.regs i hi, by show (C.setIfInBounds 41 v)[24]? = some (.int .u64 x.th.pc); rw [e, if_neg (by omega)]; exact h.th.pc, by show LbV D w ((C.setIfInBounds 41 v)[25]?) x.th.clear; rw [e, if_neg (by omega)]; exact h.th.clear, by show (C.setIfInBounds 41 v)[26]? = some (.int .u64 x.th.sc); rw [e, if_neg (by omega)]; exact h.th.sc, by show (C.setIfInBounds 41 v)[27]? = some (.int .u64 x.th.si); rw [e, if_neg (by omega)]; exact h.th.si, by show (C.setIfInBounds 41 v)[28]? = some (.int .u64 x.th.handler); rw [e, if_neg (by omega)]; exact h.th.handler, by show (C.setIfInBounds 41 v)[29]? = some (.int .u64 x.th.vector); rw [e, if_neg (by omega)]; exact h.th.vector, by show (C.setIfInBounds 41 v)[30]? = some (.int .i64 x.th.state); rw [e, if_neg (by omega)]; exact h.th.state, by show (C.setIfInBounds 41 v)[31]? = some (.int .u64 x.th.wc); rw [e, if_neg (by omega)]; exact h.th.wc, by show (C.setIfInBounds 41 v)[32]? = some (.int .u64 x.th.wi); rw [e, if_neg (by omega)]; exact h.th.wi, by show (C.setIfInBounds 41 v)[33]? = some (.int .u64 x.th.wx); rw [e, if_neg (by omega)]; exact h.th.wx, by show (C.setIfInBounds 41 v)[34]? = some (.int .u64 x.th.wv); rw [e, if_neg (by omega)]; exact h.th.wv, by show (C.setIfInBounds 41 v)[35]? = some (.bool x.th.wd); rw [e, if_neg (by omega)]; exact h.th.wd, by show CtV D w ((C.setIfInBounds 41 v)[36]?) x.th.alerts; rw [e, if_neg (by omega)]; exact h.th.alerts, by show (C.setIfInBounds 41 v)[37]? = some (.int .u64 x.th.lo); rw [e, if_neg (by omega)]; exact h.th.lo, by show (C.setIfInBounds 41 v)[38]? = some (.int .u64 x.th.hi); rw [e, if_neg (by omega)]; exact h.th.hi, by show LbV D w ((C.setIfInBounds 41 v)[39]?) x.th.l0; rw [e, if_neg (by omega)]; exact h.th.l0, by show LbV D w ((C.setIfInBounds 41 v)[40]?) x.th.l1; rw [e, if_neg (by omega)]; exact h.th.l1, by show LbV D w ((C.setIfInBounds 41 v)[41]?) L; rw [e, if_pos rfl]; exact k, by show LbV D w ((C.setIfInBounds 41 v)[42]?) x.th.l3; rw [e, if_neg (by omega)]; exact h.th.l3⟩, h.gt.congr fun i hi => by rw [e, if_neg (by omega)], by rw [e, if_neg (by omega)]; exact h.inn, by rw [e, if_neg (by omega)]; exact h.out⟩
theorem ObD.set42 {C : Array Value} {x : Ob} (h : ObD D w C x) {v : Value} {L : Lb} (k : LbV D w (some v) L) (hv : v.oneCell' = true) : ObD D w (C.setIfInBounds 42 v) { x with th := { x.th with l3 := L } } := by
 have e : ∀ i, (C.setIfInBounds 42 v)[i]? = if 42 = i then some v else C[i]? := fun i => qEz (by rw [h.size]; omega)
 exact ⟨by simp [h.size], wgz h.one hv, nxz (e _) (by omega) h.id, nxz (e _) (by omega) h.kind, by rw [e, if_neg (by omega)]; exact h.label, nxz (e _) (by omega) h.quota, nxz (e _) (by omega) h.fixed, by rw [e, if_neg (by omega)]; exact h.links, by rw [e, if_neg (by omega)]; exact h.data, by rw [e, if_neg (by omega)]; exact h.maps, ⟨h.th.rlen, fun i hi => by show (C.setIfInBounds 42 v)[8 + i]? = _; rw [e, if_neg (by omega)]; exact h.th.regs i hi, by show (C.setIfInBounds 42 v)[24]? = some (.int .u64 x.th.pc); rw [e, if_neg (by omega)]; exact h.th.pc, by show LbV D w ((C.setIfInBounds 42 v)[25]?) x.th.clear; rw [e, if_neg (by omega)]; exact h.th.clear, by show (C.setIfInBounds 42 v)[26]? = some (.int .u64 x.th.sc); rw [e, if_neg (by omega)]; exact h.th.sc, by show (C.setIfInBounds 42 v)[27]? = some (.int .u64 x.th.si); rw [e, if_neg (by omega)]; exact h.th.si, by show (C.setIfInBounds 42 v)[28]? = some (.int .u64 x.th.handler); rw [e, if_neg (by omega)]; exact h.th.handler, by show (C.setIfInBounds 42 v)[29]? = some (.int .u64 x.th.vector); rw [e, if_neg (by omega)]; exact h.th.vector, by show (C.setIfInBounds 42 v)[30]? = some (.int .i64 x.th.state); rw [e, if_neg (by omega)]; exact h.th.state, by show (C.setIfInBounds 42 v)[31]? = some (.int .u64 x.th.wc); rw [e, if_neg (by omega)]; exact h.th.wc, by show (C.setIfInBounds 42 v)[32]? = some (.int .u64 x.th.wi); rw [e, if_neg (by omega)]; exact h.th.wi, by show (C.setIfInBounds 42 v)[33]? = some (.int .u64 x.th.wx); rw [e, if_neg (by omega)]; exact h.th.wx, by show (C.setIfInBounds 42 v)[34]? = some (.int .u64 x.th.wv); rw [e, if_neg (by omega)]; exact h.th.wv, by show (C.setIfInBounds 42 v)[35]? = some (.bool x.th.wd); rw [e, if_neg (by omega)]; exact h.th.wd, by show CtV D w ((C.setIfInBounds 42 v)[36]?) x.th.alerts; rw [e, if_neg (by omega)]; exact h.th.alerts, by show (C.setIfInBounds 42 v)[37]? = some (.int .u64 x.th.lo); rw [e, if_neg (by omega)]; exact h.th.lo, by show (C.setIfInBounds 42 v)[38]? = some (.int .u64 x.th.hi); rw [e, if_neg (by omega)]; exact h.th.hi, by show LbV D w ((C.setIfInBounds 42 v)[39]?) x.th.l0; rw [e, if_neg (by omega)]; exact h.th.l0, by show LbV D w ((C.setIfInBounds 42 v)[40]?) x.th.l1; rw [e, if_neg (by omega)]; exact h.th.l1, by show LbV D w ((C.setIfInBounds 42 v)[41]?) x.th.l2; rw [e, if_neg (by omega)]; exact h.th.l2, by show LbV D w ((C.setIfInBounds 42 v)[42]?) L; rw [e, if_pos rfl]; exact k⟩, h.gt.congr fun i hi => by rw [e, if_neg (by omega)], by rw [e, if_neg (by omega)]; exact h.inn, by rw [e, if_neg (by omega)]; exact h.out⟩
theorem ObD.set43 {C : Array Value} {x : Ob} (h : ObD D w C x) {v : Value} {L : Lb} (k : LbV D w (some v) L) (hv : v.oneCell' = true) : ObD D w (C.setIfInBounds 43 v) { x with gt := { x.gt with grant := L } } := by
 have e : ∀ i, (C.setIfInBounds 43 v)[i]? = if 43 = i then some v else C[i]? := fun i => qEz (by rw [h.size]; omega)
 exact ⟨by simp [h.size], wgz h.one hv, nxz (e _) (by omega) h.id, nxz (e _) (by omega) h.kind, by rw [e, if_neg (by omega)]; exact h.label, nxz (e _) (by omega) h.quota, nxz (e _) (by omega) h.fixed, by rw [e, if_neg (by omega)]; exact h.links, by rw [e, if_neg (by omega)]; exact h.data, by rw [e, if_neg (by omega)]; exact h.maps, h.th.congr fun i hi => by rw [e, if_neg (by omega)], ⟨by show LbV D w ((C.setIfInBounds 43 v)[43]?) L; rw [e, if_pos rfl]; exact k, by show LbV D w ((C.setIfInBounds 43 v)[44]?) x.gt.clear; rw [e, if_neg (by omega)]; exact h.gt.clear, by show (C.setIfInBounds 43 v)[45]? = some (.int .u64 x.gt.sc); rw [e, if_neg (by omega)]; exact h.gt.sc, by show (C.setIfInBounds 43 v)[46]? = some (.int .u64 x.gt.si); rw [e, if_neg (by omega)]; exact h.gt.si, by show (C.setIfInBounds 43 v)[47]? = some (.int .u64 x.gt.pc); rw [e, if_neg (by omega)]; exact h.gt.pc, by show (C.setIfInBounds 43 v)[48]? = some (.int .u64 x.gt.arg); rw [e, if_neg (by omega)]; exact h.gt.arg⟩, by rw [e, if_neg (by omega)]; exact h.inn, by rw [e, if_neg (by omega)]; exact h.out⟩
theorem ObD.set44 {C : Array Value} {x : Ob} (h : ObD D w C x) {v : Value} {L : Lb} (k : LbV D w (some v) L) (hv : v.oneCell' = true) : ObD D w (C.setIfInBounds 44 v) { x with gt := { x.gt with clear := L } } := by
 have e : ∀ i, (C.setIfInBounds 44 v)[i]? = if 44 = i then some v else C[i]? := fun i => qEz (by rw [h.size]; omega)
 exact ⟨by simp [h.size], wgz h.one hv, nxz (e _) (by omega) h.id, nxz (e _) (by omega) h.kind, by rw [e, if_neg (by omega)]; exact h.label, nxz (e _) (by omega) h.quota, nxz (e _) (by omega) h.fixed, by rw [e, if_neg (by omega)]; exact h.links, by rw [e, if_neg (by omega)]; exact h.data, by rw [e, if_neg (by omega)]; exact h.maps, h.th.congr fun i hi => by rw [e, if_neg (by omega)], ⟨by show LbV D w ((C.setIfInBounds 44 v)[43]?) x.gt.grant; rw [e, if_neg (by omega)]; exact h.gt.grant, by show LbV D w ((C.setIfInBounds 44 v)[44]?) L; rw [e, if_pos rfl]; exact k, by show (C.setIfInBounds 44 v)[45]? = some (.int .u64 x.gt.sc); rw [e, if_neg (by omega)]; exact h.gt.sc, by show (C.setIfInBounds 44 v)[46]? = some (.int .u64 x.gt.si); rw [e, if_neg (by omega)]; exact h.gt.si, by show (C.setIfInBounds 44 v)[47]? = some (.int .u64 x.gt.pc); rw [e, if_neg (by omega)]; exact h.gt.pc, by show (C.setIfInBounds 44 v)[48]? = some (.int .u64 x.gt.arg); rw [e, if_neg (by omega)]; exact h.gt.arg⟩, by rw [e, if_neg (by omega)]; exact h.inn, by rw [e, if_neg (by omega)]; exact h.out⟩
end
abbrev LtN (W : World) : Nat → Prop := fun b => b < W.heap.size
section
variable {w w' : World}
theorem ThD.next {T : Array Value} {t : Th} (h : ThD (LtN w) w T t) (k : Below w.heap.size w w') : ThD (LtN w') w' T t := (h.laterK fun b hb => k.block b hb).wide fun b hb => ltz hb k.size
theorem GtD.next {T : Array Value} {t : Gt} (h : GtD (LtN w) w T t) (k : Below w.heap.size w w') : GtD (LtN w') w' T t := (h.laterK fun b hb => k.block b hb).wide fun b hb => ltz hb k.size
theorem ObD.next {T : Array Value} {t : Ob} (h : ObD (LtN w) w T t) (k : Below w.heap.size w w') : ObD (LtN w') w' T t := (h.laterK fun b hb => k.block b hb).wide fun b hb => ltz hb k.size
theorem LbV.next {v : Option Value} {t : Lb} (h : LbV (LtN w) w v t) (k : Below w.heap.size w w') : LbV (LtN w') w' v t := (h.laterK fun b hb => k.block b hb).wide fun b hb => ltz hb k.size
theorem CtV.next {v : Option Value} {t : List Int} (h : CtV (LtN w) w v t) (k : Below w.heap.size w w') : CtV (LtN w') w' v t := (h.laterK fun b hb => k.block b hb).wide fun b hb => ltz hb k.size
theorem MpV.next {v : Option Value} {t : List PgM.Pg.Mp} (h : MpV (LtN w) w v t) (k : Below w.heap.size w w') : MpV (LtN w') w' v t := (h.laterK fun b hb => k.block b hb).wide fun b hb => ltz hb k.size
end
abbrev Ex (B : Nat) (W : World) : Nat → Prop := fun b => b < W.heap.size ∧ b ≠ B
def Blk (W : World) (B : Nat) (C : Array Value) (t : TypeId) : Prop := W.heap[B]? = some (.cells C t (0, 0))
section
variable {W W' : World} {B : Nat} {C : Array Value} {t : TypeId}
theorem Blk.lt (h : Blk W B C t) : B < W.heap.size := (Array.getElem?_eq_some_iff.1 h).1
theorem Blk.next (h : Blk W B C t) (k : Below W.heap.size W W') : Blk W' B C t := (k.block B h.lt).trans h
theorem Blk.cell (h : Blk W B C t) (j : Nat) : W.cell? ⟨B, j, none⟩ = C[j]? := cell_of_row W B j C t (0, 0) h
theorem Blk.range (h : Blk W B C t) (o n : Nat) : W.rangeAt B o (C.extract o (o + n)).toList := World.rangeAt_of_block h o n
theorem Blk.range0 (h : Blk W B C t) : W.rangeAt B 0 C.toList := fun j v hv => by rw [h.cell]; simpa using hv
theorem Blk.new (W : World) (C : Array Value) (t : TypeId) : Blk (W.alloc (.cells C t)) W.heap.size C t := heap_alloc_new W _
theorem Blk.frozen (h : Blk W B C t) (j : Nat) : W.frozen? ⟨B, j, none⟩ = false := by simp [World.frozen?, show W.heap[B]? = _ from h]
end
structure Oth (B : Nat) (W W' : World) : Prop where
 size : W'.heap.size = W.heap.size
 block : ∀ b, b ≠ B → W'.heap[b]? = W.heap[b]?
 below : ∀ A w, A ≤ B → Below A w W → Below A w W'
theorem Oth.setCell (W : World) (B j : Nat) (v : Value) : Oth B W (W.setCell ⟨B, j, none⟩ v) :=
 ⟨by simp [World.setCell], fun b hb => Below.heap_setCell _ _ _ _ hb, fun A w hA h => h.setCell (p := ⟨B, j, none⟩) hA v⟩
theorem Oth.trans {B : Nat} {W W' W'' : World} (h : Oth B W W') (k : Oth B W' W'') : Oth B W W'' :=
 ⟨k.size.trans h.size, fun b hb => (k.block b hb).trans (h.block b hb), fun A w hA q => k.below A w hA (h.below A w hA q)⟩
theorem Oth.refl (B : Nat) (W : World) : Oth B W W := ⟨rfl, fun _ _ => rfl, fun _ _ _ h => h⟩
theorem Oth.setCells (B : Nat) : ∀ (vs : List Value) (W : World) (o : Nat), Oth B W (W.setCells B o vs)
 | [], W, o => Oth.refl B W
 | v :: r, W, o => by rw [World.setCells]; exact (Oth.setCell W B o v).trans (Oth.setCells B r _ _)
variable {t : TypeId}
theorem Blk.other {W W' : World} {B g : Nat} {C : Array Value} (h : Blk W B C t) (k : Oth g W W') (hne : B ≠ g) : Blk W' B C t := (k.block B hne).trans h
theorem Blk.set {W : World} {B : Nat} {C : Array Value} (h : Blk W B C t) (j : Nat) (v : Value) : Blk (W.setCell ⟨B, j, none⟩ v) B (C.setIfInBounds j v) t := heap_setCell_same W B j _ t v h
theorem Blk.some_part {B : Nat} : ∀ (vs : List Value) (W : World) (C : Array Value) (o : Nat), Blk W B C t → ∃ X, Blk (W.setCells B o vs) B X t ∧ X.size = C.size
 | [], W, C, o, h => ⟨C, h, rfl⟩
 | v :: r, W, C, o, h => by
  rw [World.setCells]
  obtain ⟨X, h1, h2⟩ := Blk.some_part r _ _ (o + 1) (h.set o v)
  exact ⟨X, h1, by rw [h2]; simp⟩
theorem Blk.part {W : World} {B o : Nat} {old C : Array Value} (hB : Blk W B old t) (hs : o + C.size ≤ old.size) : Blk (W.setCells B o C.toList) B (old.extract 0 o ++ C ++ old.extract (o + C.size) old.size) t := by
 obtain ⟨X, h1, h2⟩ := Blk.some_part C.toList W old o hB
 have ht : ∀ i, i < C.toList.length → (W.cell? ⟨B, o + i, none⟩).isSome = true := fun i hi => by
  rw [hB.cell, Array.getElem?_eq_getElem (by simp at hi; omega)]; rfl
 have e : X = old.extract 0 o ++ C ++ old.extract (o + C.size) old.size := by
  apply Array.ext_getElem?
  intro j
  rw [← h1.cell j]
  by_cases hj : o ≤ j ∧ j < o + C.size
  ·obtain ⟨k, rfl⟩ : ∃ k, j = o + k := ⟨j - o, by omega⟩
   rw [World.cell?_setCells_in B C.toList o W ht k (by simp; omega)]
   rw [Array.getElem?_append, if_pos (by simp; omega), Array.getElem?_append, if_neg (by simp; omega)]
   simp
   rw [show o + k - min o old.size = k by omega, Array.getElem?_eq_getElem (by omega)]
  ·rw [World.cell?_setCells_out B C.toList o W ⟨B, j, none⟩ (fun _ _ => by simp; omega), hB.cell]
   by_cases hj2 : j < o
   ·rw [Array.getElem?_append, if_pos (by simp; omega), Array.getElem?_append, if_pos (by simp; omega)]
    rw [Array.getElem?_extract, if_pos (by omega)]; simp
   ·rw [Array.getElem?_append, if_neg (by simp; omega)]
    rw [Array.getElem?_extract]
    have hz : (old.extract 0 o ++ C).size = o + C.size := by simp; omega
    rw [hz]
    by_cases hj3 : j < old.size
    ·rw [if_pos (by omega)]
     rw [show o + C.size + (j - (o + C.size)) = j by omega]
    ·rw [if_neg (by omega)]; simp; omega
 rw [← e]; exact h1
structure Bx (W : World) (B : Nat) (C : Array Value) (x : Ob) : Prop where
 blk : Blk W B C 55
 ob : ObD (Ex B W) W C x
section
variable {W W' : World} {B : Nat} {C : Array Value} {x : Ob}
theorem Bx.next (h : Bx W B C x) (k : Below W.heap.size W W') : Bx W' B C x := ⟨h.blk.next k, (h.ob.laterK fun b hb => k.block b hb.1).wide fun b hb => ⟨ltz hb.1 k.size, hb.2⟩⟩
theorem Bx.of {w : World} (h : ObD (LtN w) w C x) (hB : Hid (w.heap.size = B ∧ W.heap.size = B + 1)) (hb : Blk W B C 55) (k : Below w.heap.size w W) : Bx W B C x :=
 ⟨hb, (h.laterK fun b hb => k.block b hb).wide fun b hb' => ⟨ltz hb' k.size, by have := hB.out.1; have := hb'; omega⟩⟩
theorem Bx.other {g : Nat} (h : Bx W B C x) (k : Oth g W W') (hg : ∀ b, b < g → Ex B W b → Ex B W b) (hne : B ≠ g) (hD : ObD (fun b => Ex B W b ∧ b ≠ g) W C x) : Bx W' B C x :=
 ⟨h.blk.other k hne, (hD.laterK fun b hb => k.block b hb.2).wide fun b hb => ⟨by rw [k.size]; exact hb.1.1, hb.1.2⟩⟩
end
section
variable {P : Program} {ops : Array Oper} {rest : List Oper} {op : Oper} {a : Act} {Q : Exit → Act → World → Prop} {w : World}
theorem qcz (hgd : op.guard = none) (ty : TypeId) (x : Operand) (ho : op.op = .box ty x) (C : Array Value) (hx : a.eval x = .agg C)
  (h : ∀ B W, Hid (w.heap.size = B ∧ W.heap.size = B + 1) → Blk W B C ty → Below w.heap.size w W → wpList P ops Q rest (a.put op.dst (.pointer (some ⟨B, 0, none⟩))) W) : wpList P ops Q (op :: rest) a w :=
 wpList_plain hgd fun K hK => by
  unfold Oper.wp execOp
  simp only [ho, hx, Instr.box, newVar, newRow, newObj, Sem.run_bind, Value.cells]
  exact hK _ _ (h _ _ ⟨rfl, by simp⟩ (Blk.new w C ty) ((brz _ w).alloc (lrz _) _))
theorem qdz (hgd : op.guard = none) (ty : TypeId) (ho : op.op = .alloc ty) (z : Array Value) (hz : ∀ w, (zeroValue ty).run P w = .ok (.agg z) w)
  (h : ∀ B W, Hid (w.heap.size = B ∧ W.heap.size = B + 1) → Blk W B z ty → Below w.heap.size w W → wpList P ops Q rest (a.put op.dst (.pointer (some ⟨B, 0, none⟩))) W) : wpList P ops Q (op :: rest) a w :=
 wpList_plain hgd fun K hK => by
  unfold Oper.wp execOp
  simp only [ho, Instr.alloc, hz, newVar, newRow, newObj, Sem.run_bind, Value.cells, Result.andThen_ok]
  exact hK _ _ (h _ _ ⟨rfl, by simp⟩ (Blk.new w z ty) ((brz _ w).alloc (lrz _) _))
theorem qlz (hgd : op.guard = none) (ty : TypeId) (x : Operand) (ho : op.op = .load ty x) (B : Nat) (hx : a.eval x = .pointer (some ⟨B, 0, none⟩)) (C : Array Value) (hB : Blk w B C ty) (d : TypeDesc)
  (hu : P.underlying ty = some d) (hd : d.isRow = true) (hi : (P.info? ty).map (·.size) = some C.size) (h : wpList P ops Q rest (a.put op.dst (.agg C)) w) : wpList P ops Q (op :: rest) a w :=
 wpList_load_mid hgd ty x ho B 0 hx C.toList d hB.range0 hu hd (by simpa using hi) h
theorem qbz (hgd : op.guard = none) (ty : TypeId) (x y : Operand) (ho : op.op = .store ty x y) (B : Nat) (hx : a.eval x = .pointer (some ⟨B, 0, none⟩)) (C : Array Value) (hy : a.eval y = .agg C) (old : Array Value) (hB : Blk w B old ty)
  (hi : (P.info? ty).map (·.size) = some C.size) (hs : old.size = C.size) (h1 : C.all (·.oneCell') = true)
  (h : ∀ W, Blk W B C ty → Oth B w W → wpList P ops Q rest (a.put op.dst undef) W) : wpList P ops Q (op :: rest) a w := by
 have hrow := run_storeVar_row (P := P) w B ty ty old C hB hi hs h1
 have ht : w.there B 0 C.size := fun j hj => ⟨by rw [hB.cell, Nat.zero_add, Array.getElem?_eq_getElem (by omega)]; rfl, hB.frozen _⟩
 have hmid := run_storeVar_mid (P := P) w B 0 ty C ht hi h1
 rw [hrow] at hmid
 have e : w.setRow B C = w.setCells B 0 C.toList := by injection hmid
 refine wpList_store_mid hgd ty x y ho B 0 C hx hy ht hi h1 (h _ ?_ (Oth.setCells B _ _ _))
 rw [← e]
 show (w.heap.modify B _)[B]? = _
 rw [Array.getElem?_modify, if_pos rfl, show w.heap[B]? = _ from hB]
 rfl
theorem qKz (hgd : op.guard = none) (ty : TypeId) (x y : Operand) (ho : op.op = .store ty x y) (B o : Nat) (hx : a.eval x = .pointer (some ⟨B, o, none⟩)) (C : Array Value) (hy : a.eval y = .agg C) (old : Array Value) (t : TypeId) (hB : Blk w B old t)
  (hi : (P.info? ty).map (·.size) = some C.size) (hs : o + C.size ≤ old.size) (h1 : C.all (·.oneCell') = true)
  (h : ∀ W, Blk W B (old.extract 0 o ++ C ++ old.extract (o + C.size) old.size) t → Oth B w W → wpList P ops Q rest (a.put op.dst undef) W) : wpList P ops Q (op :: rest) a w := by
 have ht : w.there B o C.size := fun j hj => ⟨by rw [hB.cell, Array.getElem?_eq_getElem (by omega)]; rfl, hB.frozen _⟩
 exact wpList_store_mid hgd ty x y ho B o C hx hy ht hi h1 (h _ (Blk.part hB hs) (Oth.setCells B _ _ _))
theorem qyz (hgd : op.guard = none) (t : TypeId) (parts : List (Nat × Operand)) (ho : op.op = .build t parts.toArray) (cells : Array Value) (hf : P.built t (parts.map fun p => (p.1, a.eval p.2)) = some cells)
  (h : wpList P ops Q rest (a.put op.dst (.agg cells)) w) : wpList P ops Q (op :: rest) a w := by
 have hf' : P.built t (parts.toArray.map fun (i, x) => (i, a.eval x)).toList = some cells := by simpa using hf
 exact wpList_plain hgd fun K hK => wp_build t parts.toArray ho (by rw [hf']; rfl) (by rw [hf']; exact hK _ _ h)
theorem qiz (hgd : op.guard = none) (ty : TypeId) (x y : Operand) (ho : op.op = .store ty x y) (B j : Nat) (hx : a.eval x = .pointer (some ⟨B, j, none⟩)) (v : Value) (hy : a.eval y = v) (hv : v.cells = #[v]) (C : Array Value) (t : TypeId) (hB : Blk w B C t)
  (hi : (P.info? ty).map (·.size) = some 1) (hs : j < C.size) (h1 : v.oneCell' = true)
  (h : ∀ W, Blk W B (C.setIfInBounds j v) t → Oth B w W → wpList P ops Q rest (a.put op.dst undef) W) : wpList P ops Q (op :: rest) a w := by
 have ht : w.there B j 1 := fun i hi => ⟨by rw [hB.cell, Array.getElem?_eq_getElem (by omega)]; rfl, hB.frozen _⟩
 have := run_storeCells_cells (P := P) B j [v] 0 w (fun i hi => by simpa using (ht i (by simpa using hi)).1) (fun i hi => by simpa using (ht i (by simpa using hi)).2) (fun u hu => by simp at hu; rw [hu]; exact h1)
 refine wpList_plain hgd fun K hK => ?_
 cases hq : P.info? ty with
 | none => simp [hq] at hi
 | some i =>
  have hs : i.size = 1 := by simpa [hq] using hi
  simp only [Nat.add_zero] at this
  unfold Oper.wp execOp
  simp only [ho, hx, hy, Instr.storeAt, Instr.sureAddr, Sem.run_bind, Sem.run_pure, Result.andThen_ok]
  have e : (storeVar ty ⟨B, j, none⟩ v).run P w = .ok () (w.setCells B j [v]) := by simp [storeVar, sizeOf, typeInfo, hq, hv, hs, this]
  rw [e]
  exact hK _ _ (h _ (hB.set j v) (Oth.setCell w B j v))
end
end
section
open Go.RowKit Go.Shelf
attribute [local go_sem] Oper.semAt_some
def zT : Array Value := #[.int .u64 0, .int .u64 0, .int .u64 0, .int .u64 0, .int .u64 0, .int .u64 0, .int .u64 0, .int .u64 0, .int .u64 0, .int .u64 0, .int .u64 0, .int .u64 0, .int .u64 0, .int .u64 0, .int .u64 0, .int .u64 0, .int .u64 0, .slice none 0 0, .int .u64 0, .int .u64 0, .int .u64 0, .int .u64 0, .int .i64 0, .int .u64 0, .int .u64 0, .int .u64 0, .int .u64 0, .bool false, .slice none 0 0, .int .u64 0, .int .u64 0, .slice none 0 0, .slice none 0 0, .slice none 0 0, .slice none 0 0]
def zG : Array Value := #[.slice none 0 0, .slice none 0 0, .int .u64 0, .int .u64 0, .int .u64 0, .int .u64 0]
def comC (a b c d e : Value) : Array Value := #[a, b, c, d, e, .slice none 0 0, .slice none 0 0, .slice none 0 0, .int .u64 0, .int .u64 0, .int .u64 0, .int .u64 0, .int .u64 0, .int .u64 0, .int .u64 0, .int .u64 0, .int .u64 0, .int .u64 0, .int .u64 0, .int .u64 0, .int .u64 0, .int .u64 0, .int .u64 0, .int .u64 0, .int .u64 0, .slice none 0 0, .int .u64 0, .int .u64 0, .int .u64 0, .int .u64 0, .int .i64 0, .int .u64 0, .int .u64 0, .int .u64 0, .int .u64 0, .bool false, .slice none 0 0, .int .u64 0, .int .u64 0, .slice none 0 0, .slice none 0 0, .slice none 0 0, .slice none 0 0, .slice none 0 0, .slice none 0 0, .int .u64 0, .int .u64 0, .int .u64 0, .int .u64 0, .slice none 0 0, .slice none 0 0]
def zC : Array Value := comC (.int .u64 0) (.int .i64 0) (.slice none 0 0) (.int .i64 0) (.bool false)
theorem qsz (w : World) : (zeroValue 55).run prog w = .ok (.agg zC) w := Tryz.zeroValue55 w
theorem size40 : (prog.info? 55).map (·.size) = some 51 := by kernel_rfl
variable {C : Array Value}
theorem qfz (h : C.size = 51) : (prog.info? 55).map (·.size) = some C.size := by rw [h]; exact size40
theorem qoz : zC.size = 51 := by kernel_rfl
variable {w : World}
theorem xLz {fn : Func} {p : Tmp} (h : fn.results = #[.cell p 55]) {tmps : Array Value} {B : Nat} (hp : tmps.getD p undef = .pointer (some ⟨B, 0, none⟩)) (hB : Blk w B C 55) (hs : C.size = 51) : (results fn tmps).run prog w = .ok (.agg C) w :=
 results_cell_row h tmps w B 55 C (0, 0) _ hp hB underlying55 rfl (qfz hs)
theorem zTh_f (D : Nat → Prop) (w : World) : ThF D w (fun i => zT[i]?) zTh := by
 refine ⟨rfl, ?_, rfl, LbV.zero _ _, rfl, rfl, rfl, rfl, rfl, rfl, rfl, rfl, rfl, rfl, CtV.zero _ _, rfl, rfl, LbV.zero _ _, LbV.zero _ _, LbV.zero _ _, LbV.zero _ _⟩
 intro i hi
 rcases i with _ | _ | _ | _ | _ | _ | _ | _ | _ | _ | _ | _ | _ | _ | _ | _ | i
 all_goals first | rfl | (exfalso; omega)
theorem zGt_f (D : Nat → Prop) (w : World) : GtF D w (fun i => zG[i]?) zGt := ⟨LbV.zero _ _, LbV.zero _ _, rfl, rfl, rfl, rfl⟩
theorem zT_one : zT.all (·.oneCell') = true := by kernel_rfl
theorem zG_one : zG.all (·.oneCell') = true := by kernel_rfl
theorem zTh_d (D : Nat → Prop) (w : World) : ThD D w zT zTh := ⟨by kernel_rfl, zT_one, zTh_f D w⟩
theorem zGt_d (D : Nat → Prop) (w : World) : GtD D w zG zGt := ⟨by kernel_rfl, zG_one, zGt_f D w⟩
theorem comC_t (a b c d e : Value) : (comC a b c d e).extract 8 (8 + 35) = zT := by kernel_rfl
theorem comC_g (a b c d e : Value) : (comC a b c d e).extract 43 (43 + 6) = zG := by kernel_rfl
theorem xyz {D : Nat → Prop} {i k q : Int} {f : Bool} {ao : Option Addr} {n cap : Nat} {L : Lb} (h : LabD D w ao n cap L) : ObD D w (comC (.int .u64 i) (.int .i64 k) (.slice ao n cap) (.int .i64 q) (.bool f)) ⟨i, k, L, q, f, [], [], [], zTh, zGt, [], []⟩ := by
 have hs : (comC (.int .u64 i) (.int .i64 k) (.slice ao n cap) (.int .i64 q) (.bool f)).size = 51 := by kernel_rfl
 refine ⟨hs, by kernel_rfl, rfl, rfl, ⟨ao, n, cap, rfl, h⟩, rfl, rfl, CtV.zero _ _, CtV.zero _ _, MpV.zero _ _, ?_, ?_, CtV.zero _ _, CtV.zero _ _⟩
 ·refine (zTh_f D w).congr fun i hi => ?_
  rw [← comC_t (.int .u64 _) (.int .i64 _) (.slice ao n cap) (.int .i64 _) (.bool _)]
  exact q1z (by rw [hs]; omega) hi
 ·refine (zGt_f D w).congr fun i hi => ?_
  rw [← comC_g (.int .u64 _) (.int .i64 _) (.slice ao n cap) (.int .i64 _) (.bool _)]
  exact q1z (by rw [hs]; omega) hi
theorem zC_d (D : Nat → Prop) (w : World) : ObD D w zC zOb := xyz (LabD.nil D w)
theorem wvz (i k : Int) (ao : Option Addr) (n cap : Nat) (q : Int) (f : Bool) : prog.built 55 [(0, .int .u64 i), (1, .int .i64 k), (2, .slice ao n cap), (3, .int .i64 q), (4, .bool f)] = some (comC (.int .u64 i) (.int .i64 k) (.slice ao n cap) (.int .i64 q) (.bool f)) := by kernel_rfl
theorem gbz {x : Ob} (h : ObD (LtN w) w C x) :
  Calls prog 173 #[.agg C] w fun e w' => ∃ C', e = .returned (.agg C') ∧ ObD (LtN w') w' C' (comO x) ∧ Below w.heap.size w w' := by
 obtain ⟨ao, n, cap, c2, hL⟩ := h.label
 have c0 := h.id
 have c1 := h.kind
 have c3 := h.quota
 have c4 := h.fixed
 have hd := xyz (i := x.id) (k := x.kind) (q := x.quota) (f := x.fixed) hL
 go_enter func173, ntmps173
 go_wp2_with (first
  | (with_reducible refine qcz rfl _ _ rfl C rfl ?_; intro B W hB hb hk)
  | (with_reducible refine qdz rfl _ rfl zC qsz ?_; intro B' W' hB' hb' hk'; have q0 := ((hb.next hk').cell 0).trans c0; have q1 := ((hb.next hk').cell 1).trans c1; have q2 := ((hb.next hk').cell 2).trans c2; have q3 := ((hb.next hk').cell 3).trans c3; have q4 := ((hb.next hk').cell 4).trans c4)
  | ((with_reducible refine qyz rfl _ _ rfl (comC (.int .u64 x.id) (.int .i64 x.kind) (.slice ao n cap) (.int .i64 x.quota) (.bool x.fixed)) ?hf ?_); (case hf => exact wvz _ _ _ _ _ _ _))
  | ((with_reducible refine qbz rfl _ _ _ rfl B' rfl (comC (.int .u64 x.id) (.int .i64 x.kind) (.slice ao n cap) (.int .i64 x.quota) (.bool x.fixed)) rfl zC hb' (qfz hd.size) (qoz.trans hd.size.symm) hd.one ?_); intro W2 b2 o2))
 have b1 := btz hk hk'
 have hlt := hk.size
 refine bodyPost_ret (v := .agg _) (xLz results173 rfl b2 hd.size) rfl ?_
 exact ⟨_, rfl, (hd.laterK fun b hb => ((o2.block b (by have := hB'.out.1; have := show b < w.heap.size from hb; omega)).trans (b1.block b hb))).wide fun b hb => by rw [LtN, o2.size]; exact ltz hb b1.size, o2.below _ _ (by have := hB'.out.1; omega) b1⟩
theorem w9z : (prog.info? 51).map (·.size) = some 35 := by kernel_rfl
theorem kLz : (prog.info? 53).map (·.size) = some 6 := by kernel_rfl
theorem wDz : (prog.info? 40).map (·.size) = some 1 := by kernel_rfl
theorem gxz : (prog.info? 41).map (·.size) = some 1 := by kernel_rfl
theorem kdz : (prog.info? 39).map (·.size) = some 1 := by kernel_rfl
theorem built36 : prog.built 51 [] = some zT := by kernel_rfl
theorem built38 : prog.built 53 [] = some zG := by kernel_rfl
theorem glz : zT.size = 35 := by kernel_rfl
theorem gmz : zG.size = 6 := by kernel_rfl
theorem app3_get {A T E : Array Value} {o n i : Nat} (ha : A.size = o) (ht : T.size = n) : (A ++ T ++ E)[i]? = if i < o then A[i]? else if i < o + n then T[i - o]? else E[i - (o + n)]? := by
 rw [Array.getElem?_append, Array.getElem?_append]
 have : (A ++ T).size = o + n := by simp [ha, ht]
 rw [this, ha]
 by_cases h1 : i < o
 ·rw [if_pos (by omega), if_pos h1, if_pos h1]
 ·by_cases h2 : i < o + n
  ·rw [if_pos h2, if_neg h1, if_neg h1, if_pos h2]
  ·rw [if_neg h2, if_neg h1, if_neg h2]
theorem jUz {A T : Array Value} (h : A.all (·.oneCell') = true) (k : T.all (·.oneCell') = true) : (A ++ T).all (·.oneCell') = true := by
 refine w1z fun j v e => ?_
 rw [Array.getElem?_append] at e
 split at e
 ·exact wqz h e
 ·exact wqz k e
section
variable {D : Nat → Prop} {w : World} {C T G : Array Value} {x : Ob}
theorem y0z {n o i : Nat} (hs : C.size = 51) (hT : T.size = n) (ho : o + n ≤ 51) : (C.extract 0 o ++ T ++ C.extract (o + T.size) C.size)[i]? = if i < o then C[i]? else if i < o + n then T[i - o]? else C[i]? := by
 rw [app3_get (o := o) (n := n) (by simp; omega) hT]
 by_cases h1 : i < o
 ·rw [if_pos h1, if_pos h1, Array.getElem?_extract, if_pos (by omega), Nat.zero_add]
 ·rw [if_neg h1, if_neg h1]
  by_cases h2 : i < o + n
  ·rw [if_pos h2, if_pos h2]
  ·rw [if_neg h2, if_neg h2, Array.getElem?_extract, hT]
   by_cases h3 : i < 51
   ·rw [if_pos (by omega), show o + n + (i - (o + n)) = i by omega]
   ·rw [if_neg (by omega)]; simp; omega
theorem ObD.setT {t : Th} (h : ObD D w C x) (k : ThD D w T t) : ObD D w (C.extract 0 8 ++ T ++ C.extract (8 + T.size) C.size) { x with th := t } := by
 have e : ∀ i, (C.extract 0 8 ++ T ++ C.extract (8 + T.size) C.size)[i]? = if i < 8 then C[i]? else if i < 8 + 35 then T[i - 8]? else C[i]? := fun i => y0z h.size k.size (by omega)
 exact ⟨by simp [h.size, k.size], jUz (jUz (x9z h.one) k.one) (x9z h.one), by rw [e, if_pos (by omega)]; exact h.id, by rw [e, if_pos (by omega)]; exact h.kind, by rw [e, if_pos (by omega)]; exact h.label, by rw [e, if_pos (by omega)]; exact h.quota, by rw [e, if_pos (by omega)]; exact h.fixed, by rw [e, if_pos (by omega)]; exact h.links, by rw [e, if_pos (by omega)]; exact h.data, by rw [e, if_pos (by omega)]; exact h.maps, k.f.congr fun i hi => by rw [e, if_neg (by omega), if_pos (by omega), show 8 + i - 8 = i by omega], h.gt.congr fun i hi => by rw [e, if_neg (by omega), if_neg (by omega)], by rw [e, if_neg (by omega), if_neg (by omega)]; exact h.inn, by rw [e, if_neg (by omega), if_neg (by omega)]; exact h.out⟩
theorem ObD.setG {t : Gt} (h : ObD D w C x) (k : GtD D w T t) : ObD D w (C.extract 0 43 ++ T ++ C.extract (43 + T.size) C.size) { x with gt := t } := by
 have e : ∀ i, (C.extract 0 43 ++ T ++ C.extract (43 + T.size) C.size)[i]? = if i < 43 then C[i]? else if i < 43 + 6 then T[i - 43]? else C[i]? := fun i => y0z h.size k.size (by omega)
 exact ⟨by simp [h.size, k.size], jUz (jUz (x9z h.one) k.one) (x9z h.one), by rw [e, if_pos (by omega)]; exact h.id, by rw [e, if_pos (by omega)]; exact h.kind, by rw [e, if_pos (by omega)]; exact h.label, by rw [e, if_pos (by omega)]; exact h.quota, by rw [e, if_pos (by omega)]; exact h.fixed, by rw [e, if_pos (by omega)]; exact h.links, by rw [e, if_pos (by omega)]; exact h.data, by rw [e, if_pos (by omega)]; exact h.maps, h.th.congr fun i hi => by rw [e, if_pos (by omega)], k.f.congr fun i hi => by rw [e, if_neg (by omega), if_pos (by omega), show 43 + i - 43 = i by omega], by rw [e, if_neg (by omega), if_neg (by omega)]; exact h.inn, by rw [e, if_neg (by omega), if_neg (by omega)]; exact h.out⟩
end
variable {x : Ob}
theorem wit1 (h : x.kind = 1) : witO x = { x with data := [] } := by unfold witO; rw [if_pos h]
theorem alo1 (h : x.kind = 1) : aloO x = { comO x with data := x.data } := by unfold aloO; rw [if_pos h]; rfl
theorem wit2 (h : x.kind = 2) : witO x = { x with links := [] } := by unfold witO; rw [if_neg (by omega), if_pos h]
theorem alo2 (h : x.kind = 2) : aloO x = { comO x with links := x.links } := by unfold aloO; rw [if_neg (by omega), if_pos h]; rfl
theorem wit3 (h : x.kind = 3) : witO x = { x with maps := [] } := by unfold witO; rw [if_neg (by omega), if_neg (by omega), if_pos h]
theorem alo3 (h : x.kind = 3) : aloO x = { comO x with maps := x.maps } := by unfold aloO; rw [if_neg (by omega), if_neg (by omega), if_pos h]; rfl
theorem wit4 (h : x.kind = 4) : witO x = { x with th := zTh } := by unfold witO; rw [if_neg (by omega), if_neg (by omega), if_neg (by omega), if_pos h]
theorem alo4 (h : x.kind = 4) : aloO x = { comO x with th := x.th } := by unfold aloO; rw [if_neg (by omega), if_neg (by omega), if_neg (by omega), if_pos h]; rfl
theorem wit5 (h : x.kind = 5) : witO x = { x with gt := zGt } := by unfold witO; rw [if_neg (by omega), if_neg (by omega), if_neg (by omega), if_neg (by omega), if_pos h]
theorem alo5 (h : x.kind = 5) : aloO x = { comO x with gt := x.gt } := by unfold aloO; rw [if_neg (by omega), if_neg (by omega), if_neg (by omega), if_neg (by omega), if_pos h]; rfl
theorem wit6 (h : x.kind = 6) : witO x = { x with inn := [], out := [] } := by unfold witO; rw [if_neg (by omega), if_neg (by omega), if_neg (by omega), if_neg (by omega), if_neg (by omega), if_pos h]
theorem alo6 (h : x.kind = 6) : aloO x = { comO x with inn := x.inn, out := x.out } := by unfold aloO; rw [if_neg (by omega), if_neg (by omega), if_neg (by omega), if_neg (by omega), if_neg (by omega), if_pos h]; rfl
theorem wit7 (h : ¬ (1 ≤ x.kind ∧ x.kind ≤ 6)) : witO x = x := by unfold witO; rw [if_neg (by omega), if_neg (by omega), if_neg (by omega), if_neg (by omega), if_neg (by omega), if_neg (by omega)]
theorem alo7 (h : ¬ (1 ≤ x.kind ∧ x.kind ≤ 6)) : aloO x = comO x := by unfold aloO; rw [if_neg (by omega), if_neg (by omega), if_neg (by omega), if_neg (by omega), if_neg (by omega), if_neg (by omega)]
theorem v6z {w : World} {C : Array Value} (h : ObD (LtN w) w C x) :
  Calls prog 172 #[.agg C] w fun e w' => ∃ C', e = .returned (.agg C') ∧ ObD (LtN w') w' C' (witO x) ∧ Below w.heap.size w w' := by
 have hz := h.size
 by_cases h1 : x.kind = 1
 ·have c1 : C[1]? = some (.int .i64 1) := h.kind.trans (by rw [h1])
  have hd := h.set6 (CtV.zero _ _) rfl
  rw [wit1 h1]
  clear h1
  go_enter func172, ntmps172
  go_wp2_with (first
   | (with_reducible refine qcz rfl _ _ rfl C rfl ?_; intro B W hB hb hk)
   | (with_reducible refine qdz rfl _ rfl zC qsz ?_; intro B' W' hB' hb' hk'; have q1 := ((hb.next hk').cell 1).trans c1; have hne : B ≠ B' := (by have := hB'.out.1; have := hb.lt; omega); have hbb := hb.next hk'; have b1 := btz hk hk'; have hl : w.heap.size ≤ B := (by have := hB.out.1; omega); have hl' : w.heap.size ≤ B' := (by have := hB'.out.1; have := hk.size; omega))
   | ((with_reducible refine qiz rfl _ _ _ rfl B 6 rfl (.slice none 0 0) rfl rfl _ _ hbb wDz (by simp [hz]) rfl ?_); intro W2 b2 o2; have e2 := hb'.other o2 hne.symm; have k2 := o2.below w.heap.size w hl b1)
   | ((with_reducible refine qlz rfl _ _ rfl B rfl _ b2 _ underlying55 rfl (qfz hd.size) ?_))
   | ((with_reducible refine qbz rfl _ _ _ rfl B' rfl _ rfl zC e2 (qfz hd.size) (qoz.trans hd.size.symm) hd.one ?_); intro W9 b9 o9))
  have b9' := o9.below w.heap.size w hl' (k2)
  refine bodyPost_ret (v := .agg _) (xLz results172 rfl b9 hd.size) rfl ?_
  exact ⟨_, rfl, hd.next b9', b9'⟩
 by_cases h2 : x.kind = 2
 ·have c1 : C[1]? = some (.int .i64 2) := h.kind.trans (by rw [h2])
  have hd := h.set5 (CtV.zero _ _) rfl
  rw [wit2 h2]
  clear h1 h2
  go_enter func172, ntmps172
  go_wp2_with (first
   | (with_reducible refine qcz rfl _ _ rfl C rfl ?_; intro B W hB hb hk)
   | (with_reducible refine qdz rfl _ rfl zC qsz ?_; intro B' W' hB' hb' hk'; have q1 := ((hb.next hk').cell 1).trans c1; have hne : B ≠ B' := (by have := hB'.out.1; have := hb.lt; omega); have hbb := hb.next hk'; have b1 := btz hk hk'; have hl : w.heap.size ≤ B := (by have := hB.out.1; omega); have hl' : w.heap.size ≤ B' := (by have := hB'.out.1; have := hk.size; omega))
   | ((with_reducible refine qiz rfl _ _ _ rfl B 5 rfl (.slice none 0 0) rfl rfl _ _ hbb wDz (by simp [hz]) rfl ?_); intro W2 b2 o2; have e2 := hb'.other o2 hne.symm; have k2 := o2.below w.heap.size w hl b1)
   | ((with_reducible refine qlz rfl _ _ rfl B rfl _ b2 _ underlying55 rfl (qfz hd.size) ?_))
   | ((with_reducible refine qbz rfl _ _ _ rfl B' rfl _ rfl zC e2 (qfz hd.size) (qoz.trans hd.size.symm) hd.one ?_); intro W9 b9 o9))
  have b9' := o9.below w.heap.size w hl' (k2)
  refine bodyPost_ret (v := .agg _) (xLz results172 rfl b9 hd.size) rfl ?_
  exact ⟨_, rfl, hd.next b9', b9'⟩
 by_cases h3 : x.kind = 3
 ·have c1 : C[1]? = some (.int .i64 3) := h.kind.trans (by rw [h3])
  have hd := h.set7 (MpV.zero _ _) rfl
  rw [wit3 h3]
  clear h1 h2 h3
  go_enter func172, ntmps172
  go_wp2_with (first
   | (with_reducible refine qcz rfl _ _ rfl C rfl ?_; intro B W hB hb hk)
   | (with_reducible refine qdz rfl _ rfl zC qsz ?_; intro B' W' hB' hb' hk'; have q1 := ((hb.next hk').cell 1).trans c1; have hne : B ≠ B' := (by have := hB'.out.1; have := hb.lt; omega); have hbb := hb.next hk'; have b1 := btz hk hk'; have hl : w.heap.size ≤ B := (by have := hB.out.1; omega); have hl' : w.heap.size ≤ B' := (by have := hB'.out.1; have := hk.size; omega))
   | ((with_reducible refine qiz rfl _ _ _ rfl B 7 rfl (.slice none 0 0) rfl rfl _ _ hbb gxz (by simp [hz]) rfl ?_); intro W2 b2 o2; have e2 := hb'.other o2 hne.symm; have k2 := o2.below w.heap.size w hl b1)
   | ((with_reducible refine qlz rfl _ _ rfl B rfl _ b2 _ underlying55 rfl (qfz hd.size) ?_))
   | ((with_reducible refine qbz rfl _ _ _ rfl B' rfl _ rfl zC e2 (qfz hd.size) (qoz.trans hd.size.symm) hd.one ?_); intro W9 b9 o9))
  have b9' := o9.below w.heap.size w hl' (k2)
  refine bodyPost_ret (v := .agg _) (xLz results172 rfl b9 hd.size) rfl ?_
  exact ⟨_, rfl, hd.next b9', b9'⟩
 by_cases h4 : x.kind = 4
 ·have c1 : C[1]? = some (.int .i64 4) := h.kind.trans (by rw [h4])
  have hd := h.setT (zTh_d _ _)
  rw [wit4 h4]
  clear h1 h2 h3 h4
  go_enter func172, ntmps172
  go_wp2_with (first
   | (with_reducible refine qcz rfl _ _ rfl C rfl ?_; intro B W hB hb hk)
   | (with_reducible refine qdz rfl _ rfl zC qsz ?_; intro B' W' hB' hb' hk'; have q1 := ((hb.next hk').cell 1).trans c1; have hne : B ≠ B' := (by have := hB'.out.1; have := hb.lt; omega); have hbb := hb.next hk'; have b1 := btz hk hk'; have hl : w.heap.size ≤ B := (by have := hB.out.1; omega); have hl' : w.heap.size ≤ B' := (by have := hB'.out.1; have := hk.size; omega))
   | ((with_reducible refine qyz rfl _ [] rfl zT ?hf ?_); (case hf => exact built36))
   | ((with_reducible refine qKz rfl _ _ _ rfl B 8 rfl zT rfl _ _ hbb (by rw [glz]; exact w9z) (by rw [glz, hz]; omega) zT_one ?_); intro W2 b2 o2; have e2 := hb'.other o2 hne.symm; have k2 := o2.below w.heap.size w hl b1)
   | ((with_reducible refine qlz rfl _ _ rfl B rfl _ b2 _ underlying55 rfl (qfz hd.size) ?_))
   | ((with_reducible refine qbz rfl _ _ _ rfl B' rfl _ rfl zC e2 (qfz hd.size) (qoz.trans hd.size.symm) hd.one ?_); intro W9 b9 o9))
  have b9' := o9.below w.heap.size w hl' (k2)
  refine bodyPost_ret (v := .agg _) (xLz results172 rfl b9 hd.size) rfl ?_
  exact ⟨_, rfl, hd.next b9', b9'⟩
 by_cases h5 : x.kind = 5
 ·have c1 : C[1]? = some (.int .i64 5) := h.kind.trans (by rw [h5])
  have hd := h.setG (zGt_d _ _)
  rw [wit5 h5]
  clear h1 h2 h3 h4 h5
  go_enter func172, ntmps172
  go_wp2_with (first
   | (with_reducible refine qcz rfl _ _ rfl C rfl ?_; intro B W hB hb hk)
   | (with_reducible refine qdz rfl _ rfl zC qsz ?_; intro B' W' hB' hb' hk'; have q1 := ((hb.next hk').cell 1).trans c1; have hne : B ≠ B' := (by have := hB'.out.1; have := hb.lt; omega); have hbb := hb.next hk'; have b1 := btz hk hk'; have hl : w.heap.size ≤ B := (by have := hB.out.1; omega); have hl' : w.heap.size ≤ B' := (by have := hB'.out.1; have := hk.size; omega))
   | ((with_reducible refine qyz rfl _ [] rfl zG ?hf ?_); (case hf => exact built38))
   | ((with_reducible refine qKz rfl _ _ _ rfl B 43 rfl zG rfl _ _ hbb (by rw [gmz]; exact kLz) (by rw [gmz, hz]; omega) zG_one ?_); intro W2 b2 o2; have e2 := hb'.other o2 hne.symm; have k2 := o2.below w.heap.size w hl b1)
   | ((with_reducible refine qlz rfl _ _ rfl B rfl _ b2 _ underlying55 rfl (qfz hd.size) ?_))
   | ((with_reducible refine qbz rfl _ _ _ rfl B' rfl _ rfl zC e2 (qfz hd.size) (qoz.trans hd.size.symm) hd.one ?_); intro W9 b9 o9))
  have b9' := o9.below w.heap.size w hl' (k2)
  refine bodyPost_ret (v := .agg _) (xLz results172 rfl b9 hd.size) rfl ?_
  exact ⟨_, rfl, hd.next b9', b9'⟩
 by_cases h6 : x.kind = 6
 ·have c1 : C[1]? = some (.int .i64 6) := h.kind.trans (by rw [h6])
  have hd := (h.set49 (CtV.zero _ _) rfl).set50 (CtV.zero _ _) rfl
  rw [wit6 h6]
  clear h1 h2 h3 h4 h5 h6
  go_enter func172, ntmps172
  go_wp2_with (first
   | (with_reducible refine qcz rfl _ _ rfl C rfl ?_; intro B W hB hb hk)
   | (with_reducible refine qdz rfl _ rfl zC qsz ?_; intro B' W' hB' hb' hk'; have q1 := ((hb.next hk').cell 1).trans c1; have hne : B ≠ B' := (by have := hB'.out.1; have := hb.lt; omega); have hbb := hb.next hk'; have b1 := btz hk hk'; have hl : w.heap.size ≤ B := (by have := hB.out.1; omega); have hl' : w.heap.size ≤ B' := (by have := hB'.out.1; have := hk.size; omega))
   | ((with_reducible refine qiz rfl _ _ _ rfl B 49 rfl (.slice none 0 0) rfl rfl _ _ hbb wDz (by simp [hz]) rfl ?_); intro W2 b2 o2; have e2 := hb'.other o2 hne.symm; have k2 := o2.below w.heap.size w hl b1)
   | ((with_reducible refine qiz rfl _ _ _ rfl B 50 rfl (.slice none 0 0) rfl rfl _ _ b2 wDz (by simp [hz]) rfl ?_); intro W3 b3 o3; have e3 := e2.other o3 hne.symm; have k3 := o3.below w.heap.size w hl k2)
   | ((with_reducible refine qlz rfl _ _ rfl B rfl _ b3 _ underlying55 rfl (qfz hd.size) ?_))
   | ((with_reducible refine qbz rfl _ _ _ rfl B' rfl _ rfl zC e3 (qfz hd.size) (qoz.trans hd.size.symm) hd.one ?_); intro W9 b9 o9))
  have b9' := o9.below w.heap.size w hl' (k3)
  refine bodyPost_ret (v := .agg _) (xLz results172 rfl b9 hd.size) rfl ?_
  exact ⟨_, rfl, hd.next b9', b9'⟩
 ·have c1 := h.kind
  have g1 : (x.kind == 1) = false := by rw [beq_eq_false_iff_ne]; exact h1
  have g2 : (x.kind == 2) = false := by rw [beq_eq_false_iff_ne]; exact h2
  have g3 : (x.kind == 3) = false := by rw [beq_eq_false_iff_ne]; exact h3
  have g4 : (x.kind == 4) = false := by rw [beq_eq_false_iff_ne]; exact h4
  have g5 : (x.kind == 5) = false := by rw [beq_eq_false_iff_ne]; exact h5
  have g6 : (x.kind == 6) = false := by rw [beq_eq_false_iff_ne]; exact h6
  have hd := h
  rw [wit7 (by omega)]
  clear h1 h2 h3 h4 h5 h6
  go_enter func172, ntmps172
  go_wp2_with (first
   | (with_reducible refine qcz rfl _ _ rfl C rfl ?_; intro B W hB hb hk)
   | (with_reducible refine qdz rfl _ rfl zC qsz ?_; intro B' W' hB' hb' hk'; have q1 := ((hb.next hk').cell 1).trans c1; have hne : B ≠ B' := (by have := hB'.out.1; have := hb.lt; omega); have hbb := hb.next hk'; have b1 := btz hk hk'; have hl : w.heap.size ≤ B := (by have := hB.out.1; omega); have hl' : w.heap.size ≤ B' := (by have := hB'.out.1; have := hk.size; omega))
   | ((with_reducible refine qlz rfl _ _ rfl B rfl _ hbb _ underlying55 rfl (qfz hd.size) ?_))
   | ((with_reducible refine qbz rfl _ _ _ rfl B' rfl _ rfl zC hb' (qfz hd.size) (qoz.trans hd.size.symm) hd.one ?_); intro W9 b9 o9))
  have b9' := o9.below w.heap.size w hl' (b1)
  refine bodyPost_ret (v := .agg _) (xLz results172 rfl b9 hd.size) rfl ?_
  exact ⟨_, rfl, hd.next b9', b9'⟩
section
variable {P : Program} {ops : Array Oper} {rest : List Oper} {op : Oper} {a : Act} {Q : Exit → Act → World → Prop} {w : World}
theorem wRz (hw : Region.wanted op (yielded ops a.tmps) = true) (h : op.wp P a w (wpList P ops Q rest) Q) : wpList P ops Q (op :: rest) a w := by
 unfold wpList
 rw [if_pos hw]
 exact .inl h
theorem kCz (hw : Region.wanted op (yielded ops a.tmps) = false) (h : wpList P ops Q rest (a.put op.dst undef) w) : wpList P ops Q (op :: rest) a w := by
 unfold wpList
 rw [if_neg (by rw [hw]; exact Bool.false_ne_true)]
 exact h
theorem q7z {v : Value} (hw : Region.wanted op (yielded ops a.tmps) = true) (hr : (execOp a.eval op).run P w = .ok (.value v) w) (h : wpList P ops Q rest (a.put op.dst v) w) : wpList P ops Q (op :: rest) a w :=
 wRz hw (by unfold Oper.wp; rw [hr]; exact h)
theorem qgz {X : Prop} (hw : Region.wanted op (yielded ops a.tmps) = true) (f : BinOp) (t t' : TypeId) (x y : Operand) (ho : op.op = .binOp f t x y t') (u v : Value) (hx : a.eval x = u) (hy : a.eval y = v)
  (hr : ∃ b : Bool, (do eqGuard f t x y u v; binOp f t u v).run P w = .ok (.bool b) w ∧ (b = true ↔ X))
  (h : Hid X → wpList P ops Q rest (a.put op.dst (.bool true)) w) (h' : Hid (¬ X) → wpList P ops Q rest (a.put op.dst (.bool false)) w) : wpList P ops Q (op :: rest) a w := by
 obtain ⟨b, hr, hb⟩ := hr
 refine q7z hw (by unfold execOp; simp only [ho, hx, hy]; rw [Sem.run_bind, hr]; rfl) ?_
 cases b with
 | true => exact h (hb.1 rfl)
 | false => exact h' fun x => absurd (hb.2 x) Bool.false_ne_true
theorem qnz (hw : Region.wanted op (yielded ops a.tmps) = true) (ty : TypeId) (x : Operand) (ho : op.op = .load ty x) (B o : Nat) (hx : a.eval x = .pointer (some ⟨B, o, none⟩)) (n : Nat) (C : Array Value) (t : TypeId) (hB : Blk w B C t) (V : Array Value) (hV : C.extract o (o + n) = V) (hs : o + n ≤ C.size) (d : TypeDesc)
  (hu : P.underlying ty = some d) (hd : d.isRow = true) (hi : (P.info? ty).map (·.size) = some n) (h : wpList P ops Q rest (a.put op.dst (.agg V)) w) : wpList P ops Q (op :: rest) a w := by
 subst hV
 refine q7z hw ?_ h
 unfold execOp
 simp only [ho, hx, Sem.run_bind, run_loadAt_mid w B o ty (C.extract o (o + n)).toList d (hB.range o n) hu hd (by rw [hi]; simp; omega), Result.andThen_ok, Array.toArray_toList]
 rfl
theorem qaz (hw : Region.wanted op (yielded ops a.tmps) = true) (ty : TypeId) (x : Operand) (ho : op.op = .load ty x) (B o : Nat) (hx : a.eval x = .pointer (some ⟨B, o, none⟩)) (C : Array Value) (t : TypeId) (hB : Blk w B C t) (v : Value) (hv : C[o]? = some v)
  (hg : ∀ w, (isAgg ty).run P w = .ok false w) (h : wpList P ops Q rest (a.put op.dst v) w) : wpList P ops Q (op :: rest) a w := by
 refine q7z hw ?_ h
 have hc : w.cell? ⟨B, o, none⟩ = some v := (hB.cell o).trans hv
 unfold execOp
 simp [ho, hx, Instr.loadAt, Instr.sureAddr, loadVar, hg, hc]
end
section
variable {w : World}
theorem qtz (t : TypeId) (x y : Operand) (k : IntKind) (m n : Int) : ∃ b : Bool, (do eqGuard .eql t x y (.int k m) (.int k n); binOp .eql t (.int k m) (.int k n)).run prog w = .ok (.bool b) w ∧ (b = true ↔ m = n) :=
 ⟨m == n, by simp [eqGuard, binOp, Op.intCmp], by simp⟩
theorem wjz (t : TypeId) (x y : Operand) (k : IntKind) (m n : Int) : ∃ b : Bool, (do eqGuard .neq t x y (.int k m) (.int k n); binOp .neq t (.int k m) (.int k n)).run prog w = .ok (.bool b) w ∧ (b = true ↔ ¬ m = n) :=
 ⟨m != n, by simp [eqGuard, binOp, Op.intCmp], by simp⟩
theorem utz (x y : Operand) (m n : Bool) : ∃ b : Bool, (do eqGuard .eql 4 x y (.bool m) (.bool n); binOp .eql 4 (.bool m) (.bool n)).run prog w = .ok (.bool b) w ∧ (b = true ↔ m = n) :=
 ⟨m == n, by simp [eqGuard, binOp, Op.equal, show Op.maxDepth = 9999 + 1 from rfl, run_equalIn_bool' w 9999 4 m n underlying4], by simp⟩
theorem ubz (x y : Operand) (m n : Bool) : ∃ b : Bool, (do eqGuard .neq 4 x y (.bool m) (.bool n); binOp .neq 4 (.bool m) (.bool n)).run prog w = .ok (.bool b) w ∧ (b = true ↔ ¬ m = n) :=
 ⟨m != n, by simp [eqGuard, binOp, Op.equal, show Op.maxDepth = 9999 + 1 from rfl, run_equalIn_bool' w 9999 4 m n underlying4]; cases m <;> cases n <;> rfl, by simp⟩
theorem k5z {f : BinOp} {t : TypeId} (ht : prog.eqGuardType prog.depth t = false) (x y : Operand) (u v : Array Value) {b : Bool} (h : (binOp f t (.agg u) (.agg v)).run prog w = .ok (.bool b) w) : (do eqGuard f t x y (.agg u) (.agg v); binOp f t (.agg u) (.agg v)).run prog w = .ok (.bool b) w := by
 rw [Sem.run_bind, run_eqGuard_agg w f t x y u v ht]
 exact h
theorem kaz (x y : Operand) (a b c d : Int) : ∃ q : Bool, (do eqGuard .eql 44 x y (.agg #[.int .u64 a, .int .u64 b]) (.agg #[.int .u64 c, .int .u64 d]); binOp .eql 44 (.agg #[.int .u64 a, .int .u64 b]) (.agg #[.int .u64 c, .int .u64 d])).run prog w = .ok (.bool q) w ∧ (q = true ↔ (a = c ∧ b = d)) := by
 refine ⟨a == c && b == d, k5z Tryz.eqGuardType44 x y _ _ ?_, by simp⟩
 by_cases h1 : a = c <;> by_cases h2 : b = d <;> simp [go_sem, h1, h2]
theorem j4z (x y : Operand) (a b c d : Int) : ∃ q : Bool, (do eqGuard .eql 48 x y (.agg #[.int .u64 a, .int .u64 b]) (.agg #[.int .u64 c, .int .u64 d]); binOp .eql 48 (.agg #[.int .u64 a, .int .u64 b]) (.agg #[.int .u64 c, .int .u64 d])).run prog w = .ok (.bool q) w ∧ (q = true ↔ (a = c ∧ b = d)) := by
 refine ⟨a == c && b == d, k5z Tryz.eqGuardType48 x y _ _ ?_, by simp⟩
 by_cases h1 : a = c <;> by_cases h2 : b = d <;> simp [go_sem, h1, h2]
theorem yTz (f : BinOp) (hf : f = .eql ∨ f = .neq) (a1 a2 a3 a4 b1 b2 b3 b4 : Int) (a5 b5 : Bool) : ∃ q : Bool, (binOp f 46 (.agg #[.int .u64 a1, .int .u64 a2, .int .u64 a3, .int .u64 a4, .bool a5]) (.agg #[.int .u64 b1, .int .u64 b2, .int .u64 b3, .int .u64 b4, .bool b5])).run prog w = .ok (.bool (if f = .eql then q else !q)) w ∧ (q = true ↔ (a1 = b1 ∧ a2 = b2 ∧ a3 = b3 ∧ a4 = b4 ∧ a5 = b5)) := by
 refine ⟨a1 == b1 && (a2 == b2 && (a3 == b3 && (a4 == b4 && a5 == b5))), ?_, by simp⟩
 rcases hf with rfl | rfl <;> (by_cases h1 : a1 = b1 <;> by_cases h2 : a2 = b2 <;> by_cases h3 : a3 = b3 <;> by_cases h4 : a4 = b4 <;> first | (simp [go_sem, h1, h2, h3, h4]; done) | (cases a5 <;> cases b5 <;> simp [go_sem, h1, h2, h3, h4]))
theorem kzz (x y : Operand) (a1 a2 a3 a4 b1 b2 b3 b4 : Int) (a5 b5 : Bool) : ∃ q : Bool, (do eqGuard .eql 46 x y (.agg #[.int .u64 a1, .int .u64 a2, .int .u64 a3, .int .u64 a4, .bool a5]) (.agg #[.int .u64 b1, .int .u64 b2, .int .u64 b3, .int .u64 b4, .bool b5]); binOp .eql 46 (.agg #[.int .u64 a1, .int .u64 a2, .int .u64 a3, .int .u64 a4, .bool a5]) (.agg #[.int .u64 b1, .int .u64 b2, .int .u64 b3, .int .u64 b4, .bool b5])).run prog w = .ok (.bool q) w ∧ (q = true ↔ (a1 = b1 ∧ a2 = b2 ∧ a3 = b3 ∧ a4 = b4 ∧ a5 = b5)) := by
 obtain ⟨q, h1, h2⟩ := yTz (w := w) .eql (.inl rfl) a1 a2 a3 a4 b1 b2 b3 b4 a5 b5
 exact ⟨q, k5z Tryz.eqGuardType46 x y _ _ h1, h2⟩
theorem neg_wait (x y : Operand) (a1 a2 a3 a4 b1 b2 b3 b4 : Int) (a5 b5 : Bool) : ∃ q : Bool, (do eqGuard .neq 46 x y (.agg #[.int .u64 a1, .int .u64 a2, .int .u64 a3, .int .u64 a4, .bool a5]) (.agg #[.int .u64 b1, .int .u64 b2, .int .u64 b3, .int .u64 b4, .bool b5]); binOp .neq 46 (.agg #[.int .u64 a1, .int .u64 a2, .int .u64 a3, .int .u64 a4, .bool a5]) (.agg #[.int .u64 b1, .int .u64 b2, .int .u64 b3, .int .u64 b4, .bool b5])).run prog w = .ok (.bool q) w ∧ (q = true ↔ ¬ (a1 = b1 ∧ a2 = b2 ∧ a3 = b3 ∧ a4 = b4 ∧ a5 = b5)) := by
 obtain ⟨q, h1, h2⟩ := yTz (w := w) .neq (.inr rfl) a1 a2 a3 a4 b1 b2 b3 b4 a5 b5
 exact ⟨!q, k5z Tryz.eqGuardType46 x y _ _ h1, by rw [← h2]; cases q <;> simp⟩
theorem j6z : ∀ (n : Nat) (d : Nat) (l m : List Int), n ≤ l.length → n ≤ m.length → ∀ (is : List Nat), (∀ i ∈ is, i < n) → (Op.eqItems (d + 1) 22 1 (l.map (Value.int .u64)).toArray (m.map (Value.int .u64)).toArray is).run prog w = .ok (is.all fun i => l.getD i 0 == m.getD i 0) w := by
 intro n d l m hl hm is
 induction is with
 | nil => intro _; simp [Op.eqItems]
 | cons i is ih =>
  intro h
  have hi := h i (by simp)
  have p1 : (part 22 (l.map (Value.int .u64)).toArray (i * 1)).run prog w = .ok (.int .u64 (l.getD i 0)) w := by
   simp [part, isAgg22, List.getD, List.getElem?_eq_getElem (show i < l.length by omega)]
  have p2 : (part 22 (m.map (Value.int .u64)).toArray (i * 1)).run prog w = .ok (.int .u64 (m.getD i 0)) w := by
   simp [part, isAgg22, List.getD, List.getElem?_eq_getElem (show i < m.length by omega)]
  simp only [Op.eqItems, Sem.run_bind, p1, p2, Result.andThen_ok, run_equalIn_int w d 22 .u64 .u64 _ _ underlying22]
  cases hb : (l.getD i 0 == m.getD i 0)
  ·simp only [Bool.not_false, if_true, List.all_cons, hb, Bool.false_and, Sem.run_pure]
  ·simp only [Bool.not_true, Bool.false_eq_true, if_false, List.all_cons, hb, Bool.true_and]
   exact ih fun j hj => h j (by simp [hj])
theorem v3z : ∀ (l m : List Int), l.length = m.length → (((List.range l.length).all fun i => l.getD i 0 == m.getD i 0) = true ↔ l = m)
 | [], [], _ => by simp
 | x :: xs, y :: ys, h => by
  have ih := v3z xs ys (by simpa using h)
  rw [List.length_cons, List.range_succ_eq_map, List.all_cons, List.all_map]
  simp only [List.getD_cons_zero, Function.comp_def, List.getD_cons_succ, Bool.and_eq_true, ih]
  simp
 | [], _ :: _, h => by simp at h
 | _ :: _, [], h => by simp at h
theorem j5z (x y : Operand) (l m : List Int) (hl : l.length = 16) (hm : m.length = 16) : ∃ q : Bool, (do eqGuard .eql 42 x y (.agg (l.map (Value.int .u64)).toArray) (.agg (m.map (Value.int .u64)).toArray); binOp .eql 42 (.agg (l.map (Value.int .u64)).toArray) (.agg (m.map (Value.int .u64)).toArray)).run prog w = .ok (.bool q) w ∧ (q = true ↔ l = m) := by
 refine ⟨(List.range 16).all fun i => l.getD i 0 == m.getD i 0, k5z Tryz.eqGuardType42 x y _ _ ?_, by have := v3z l m (by rw [hl, hm]); rw [hl] at this; exact this⟩
 obtain ⟨i0, hi0⟩ : ∃ i0, prog.info? 22 = some i0 := Option.isSome_iff_exists.1 (by kernel_rfl)
 have hcells : prog.cellsOf 22 = 1 := by kernel_rfl
 rw [run_eql_struct, show 10000 = 9999 + 1 from rfl, run_equalIn_array w 9999 _ _ underlying42 hi0, hcells, show 9999 = 9998 + 1 from rfl, j6z 16 9998 l m (by omega) (by omega) (List.range 16) (fun i hi => List.mem_range.1 hi)]
 rfl
end
def AskP (X : Prop) (W : World) (e : Ending) (w' : World) : Prop := ∃ b : Bool, e = .returned (.bool b) ∧ Hid (b = true ↔ X) ∧ Below W.heap.size W w'
def Asks (f : FuncId) (args : Array Value) (X : Prop) (W : World) : Prop := Calls prog f args W (AskP X W)
theorem Asks.on {f : FuncId} {args : Array Value} {X : Prop} {W : World} {R : Ending → World → Prop} (h : Asks f args X W) (k : ∀ w', Hid X → Below W.heap.size W w' → R (.returned (.bool true)) w') (k' : ∀ w', Hid (¬ X) → Below W.heap.size W w' → R (.returned (.bool false)) w') : Calls prog f args W R := by
 refine Calls.mono h ?_
 rintro e w' ⟨b, rfl, hb, hk⟩
 cases b with
 | true => exact k w' (hb.out.1 rfl) hk
 | false => exact k' w' (fun x => absurd (hb.out.2 x) Bool.false_ne_true) hk
theorem qjz {X Y : Prop} {W w' : World} (h : Hid (¬ Y)) (hk : Below W.heap.size W w') (k : X → Y) : AskP X W (.returned (.bool false)) w' := ⟨false, rfl, ⟨fun e => absurd e Bool.false_ne_true, fun e => absurd (k e) h.out⟩, hk⟩
theorem qpz {X : Prop} {W w' : World} (k : X) (hk : Below W.heap.size W w') : AskP X W (.returned (.bool true)) w' := ⟨true, rfl, ⟨fun _ => k, fun _ => rfl⟩, hk⟩
theorem kcz : (prog.info? 44).map (·.size) = some 2 := by kernel_rfl
theorem jkz : (prog.info? 48).map (·.size) = some 2 := by kernel_rfl
theorem jlz : (prog.info? 46).map (·.size) = some 5 := by kernel_rfl
theorem yRz : (prog.info? 42).map (·.size) = some 16 := by kernel_rfl
section
variable {w0 W : World} {ao ao' : Option Addr} {n n' cap cap' : Nat}
theorem LabD.lab' {L : Lb} (h : LabD (LtN w0) w0 ao n cap L) (k : Below w0.heap.size w0 W) : Lab W.heap.size W ao n cap L := (h.laterK fun b hb => k.block b hb).wide fun b hb => ltz hb k.size
theorem CtD.ct' {L : List Int} (h : CtD (LtN w0) w0 ao n cap L) (k : Below w0.heap.size w0 W) : CtD (LtN W) W ao n cap L := (h.laterK fun b hb => k.block b hb).wide fun b hb => ltz hb k.size
theorem MpD.mp' {L : List PgM.Pg.Mp} (h : MpD (LtN w0) w0 ao n cap L) (k : Below w0.heap.size w0 W) : PgM.Mps W.heap.size W ao n cap L := PgM.MpsD.wide (PgM.MpsD.laterK h fun b hb => k.block b hb) fun b hb => ltz hb k.size
theorem eqL {L L' : Lb} (h : LabD (LtN w0) w0 ao n cap L) (h' : LabD (LtN w0) w0 ao' n' cap' L') (k : Below w0.heap.size w0 W) : Asks 212 #[.slice ao n cap, .slice ao' n' cap'] (L = L') W := by
 refine (same_any (h.lab' k) (lrz _) (h'.lab' k) (lrz _)).mono ?_
 rintro e w' ⟨rfl, hb⟩
 exact ⟨_, rfl, by unfold sameB; exact decide_eq_true_iff, hb⟩
theorem reqL {L L' : Lb} (h : LabD (LtN w0) w0 ao n cap L) (h' : LabD (LtN w0) w0 ao' n' cap' L') (k : Below w0.heap.size w0 W) : Asks 16 #[.slice ao n cap, .slice ao' n' cap'] (L = L') W := by
 refine (rsame_any (h.lab' k) (lrz _) (h'.lab' k) (lrz _)).mono ?_
 rintro e w' ⟨rfl, hb⟩
 exact ⟨_, rfl, by unfold sameB; exact decide_eq_true_iff, hb⟩
theorem yZz {L M : List PgM.Pg.Mp} : PgM.Pg.sameB L M = true ↔ L = M := by
 constructor
 ·intro h
  unfold PgM.Pg.sameB at h
  rw [Bool.and_eq_true, beq_iff_eq, List.all_eq_true] at h
  obtain ⟨h1, h2⟩ := h
  apply List.ext_getElem h1
  intro i q1 q2
  have := PgM.Pg.eqB_iff.1 (h2 i (List.mem_range.2 q1))
  rwa [PgM.Pg.mat_get q1, PgM.Pg.mat_get q2] at this
 ·rintro rfl; exact PgM.Pg.sameB_refl _
theorem eqM {L L' : List PgM.Pg.Mp} (h : MpD (LtN w0) w0 ao n cap L) (h' : MpD (LtN w0) w0 ao' n' cap' L') (k : Below w0.heap.size w0 W) : Asks 214 #[.slice ao n cap, .slice ao' n' cap'] (L = L') W := by
 refine (PgM.same_any (MpD.mp' h k) (MpD.mp' h' k)).mono ?_
 rintro e w' ⟨rfl, hb⟩
 exact ⟨_, rfl, yZz, hb⟩
theorem reqM {L L' : List PgM.Pg.Mp} (h : MpD (LtN w0) w0 ao n cap L) (h' : MpD (LtN w0) w0 ao' n' cap' L') (k : Below w0.heap.size w0 W) : Asks 41 #[.slice ao n cap, .slice ao' n' cap'] (L = L') W := by
 refine (PgM.rsame_any (MpD.mp' h k) (MpD.mp' h' k)).mono ?_
 rintro e w' ⟨rfl, hb⟩
 exact ⟨_, rfl, yZz, hb⟩
end
section
variable {D : Nat → Prop} {w : World} {T : Array Value} {t : Th} {g : Gt}
theorem ext2 {C : Array Value} {o : Nat} {u v : Value} (h : C[o]? = some u) (h' : C[o + 1]? = some v) : C.extract o (o + 2) = #[u, v] := by
 have hs : o + 1 < C.size := (Array.getElem?_eq_some_iff.1 h').1
 apply Array.ext_getElem?
 intro i
 rcases i with _ | _ | i
 ·rw [q1z (n := 2) (by omega) (by omega)]; exact h
 ·rw [q1z (n := 2) (by omega) (by omega)]; exact h'
 ·rw [Array.getElem?_extract, if_neg (by omega)]; simp
end
variable {w : World}
theorem vuz {G G' : Array Value} {g g' : Gt} (h : GtD (LtN w) w G g) (h' : GtD (LtN w) w G' g') :
  Asks 216 #[.agg G, .agg G'] (g = g') w := by
 have hz := h.size
 have hz' := h'.size
 obtain ⟨a0, n0, k0, c0, l0⟩ := h.f.grant
 obtain ⟨a1, n1, k1, c1, l1⟩ := h.f.clear
 obtain ⟨a0', n0', k0', c0', l0'⟩ := h'.f.grant
 obtain ⟨a1', n1', k1', c1', l1'⟩ := h'.f.clear
 have x2 := ext2 h.f.sc h.f.si
 have x2' := ext2 h'.f.sc h'.f.si
 have c4 := h.f.pc
 have c5 := h.f.arg
 have c4' := h'.f.pc
 have c5' := h'.f.arg
 have g24 := isAgg39
 have g22 := isAgg22
 unfold Asks
 go_enter func216, ntmps216
 go_wp2_with (first
  | go_skip
  | (with_reducible refine qcz rfl _ _ rfl G rfl ?_; intro B W hB hb hk)
  | (with_reducible refine qcz rfl _ _ rfl G' rfl ?_; intro B' W' hB' hb' hk'; replace hb := hb.next hk'; replace hk := btz hk hk'; clear hk')
  | (with_reducible refine qaz (by kernel_rfl) _ _ rfl B _ rfl _ _ hb _ (by assumption) (by assumption) ?_)
  | (with_reducible refine qaz (by kernel_rfl) _ _ rfl B' _ rfl _ _ hb' _ (by assumption) (by assumption) ?_)
  | (with_reducible refine qnz (by kernel_rfl) 44 _ rfl B _ rfl 2 _ _ hb _ (by assumption) (by omega) _ underlying44 (by kernel_rfl) kcz ?_)
  | (with_reducible refine qnz (by kernel_rfl) 44 _ rfl B' _ rfl 2 _ _ hb' _ (by assumption) (by omega) _ underlying44 (by kernel_rfl) kcz ?_)
  | ((with_reducible refine qgz (by kernel_rfl) .eql _ _ _ _ rfl _ _ rfl rfl (qtz _ _ _ _ _ _) ?_ ?_) <;> intro hq)
  | ((with_reducible refine qgz (by kernel_rfl) .eql _ _ _ _ rfl _ _ rfl rfl (kaz _ _ _ _ _ _) ?_ ?_) <;> intro hq)
  | (go_at_call 212; (with_reducible refine (eqL (by assumption) (by assumption) hk).on ?_ ?_) <;> (intro w1 hq hb1; replace hb := hb.next hb1; replace hb' := hb'.next hb1; replace hk := btz hk hb1; clear hb1)))
 all_goals go_ret
 all_goals first
  | exact qjz (by assumption) hk (fun e => by rw [e]; exact ⟨rfl, rfl⟩)
  | exact qjz (by assumption) hk (fun e => by rw [e])
  | (exact qpz (bwz.1 ⟨Hid.out (by assumption), Hid.out (by assumption), Hid.out (by assumption), Hid.out (by assumption), Hid.out (by assumption)⟩) hk)
theorem CtD.at {D : Nat → Prop} {ao : Option Addr} {n cap : Nat} {L : List Int} (h : CtD D w ao n cap L) {i : Nat} (hi : i < n) : ∃ (b off : Nat) (x : Int), ao = some ⟨b, off, none⟩ ∧ D b ∧ Hid (L.getD i 0 = x) ∧ w.cell? ⟨b, off + i, none⟩ = some (.int .u64 x) := by
 obtain ⟨b, off, e, hb, hc⟩ := h.2.2.2 (by omega)
 exact ⟨b, off, _, e, hb, rfl, hc i hi⟩
theorem urz {p q : Nat → Int} {k : Nat} (h : ∀ i, i < k → p i = q i) (hk : p k = q k) : ∀ i, i < k + 1 → p i = q i := fun i hi => by
 rcases Nat.lt_or_ge i k with h' | h'
 ·exact h i h'
 ·have : i = k := by omega
  rw [this]; exact hk
variable {L M : List Int}
theorem viz (h : L.length = M.length) (k : ∀ i, i < L.length → L.getD i 0 = M.getD i 0) : L = M := by
 apply List.ext_getElem h
 intro i h1 h2
 have := k i h1
 simpa [List.getD_eq_getElem?_getD, List.getElem?_eq_getElem h1, List.getElem?_eq_getElem h2] using this
theorem eqU {w0 w : World} {a a' : Option Addr} {n c n' c' : Nat} (h0 : CtD (LtN w0) w0 a n c L) (h0' : CtD (LtN w0) w0 a' n' c' M) (k : Below w0.heap.size w0 w) :
  Asks 213 #[.slice a n c, .slice a' n' c'] (L = M) w := by
 have h := h0.ct' k
 have h' := h0'.ct' k
 clear h0 h0' k
 have hn : Hid (L.length = n) := h.1
 have hn' : Hid (M.length = n') := h'.1
 have hnc := h.2.1
 have hcm := h.2.2.1.1
 have hnc' := h'.2.1
 have hcm' := h'.2.2.1.1
 unfold Asks
 by_cases hnn : n = n'
 ·subst hnn
  go_enter func213, ntmps213
  go_wp2
  go_loopw [13] (fun i wr => ∃ k : Nat, k ≤ n ∧ i = .int .i64 k ∧ Hid (∀ j, j < k → L.getD j 0 = M.getD j 0) ∧ Below w.heap.size w wr) (fun i _ => n - (intOf i).toNat)
  case atStart => exact ⟨0, Nat.zero_le _, rfl, fun j hj => absurd hj (by omega), brz _ _⟩
  case round =>
   obtain ⟨k, hk, rfl, hal, hb⟩ := hrel
   by_cases hkn : k < n
   ·obtain ⟨b, off, x, rfl, hB, hx, c0⟩ := (h.laterK fun b hb' => hb.block b hb').at hkn
    obtain ⟨b', off', y, rfl, hB', hy, d0⟩ := (h'.laterK fun b hb' => hb.block b hb').at hkn
    have hkn' : (k : Int) < n := by omega
    by_cases hxx : x = y
    ·have hal2 : Hid (∀ j, j < k + 1 → L.getD j 0 = M.getD j 0) := urz hal.out (by rw [hx.out, hy.out, hxx])
     subst hxx
     go_wp2
     go_quiet (fail)
     go_wp2
     go_roundw
     case rel => exact ⟨k + 1, by omega, by go_num, hal2, PgM.below_drewN hb _⟩
     case measure => simp [intOf]; omega
    ·have hf : Hid (¬ L = M) := by
      refine (?_ : ¬ L = M)
      intro e; apply hxx; rw [← hx.out, ← hy.out, e]
     have hd : (x == y) = false := by rw [beq_eq_false_iff_ne]; exact hxx
     clear hxx
     go_wp2
     go_quiet (fail)
     go_wp2
     go_ret
     exact qjz hf (PgM.below_drewN hb _) id
   ·obtain rfl : k = n := by omega
    have hf : Hid (L = M) := viz (by rw [hn.out, hn'.out]) (fun i hi => hal.out i (by rw [hn.out] at hi; exact hi))
    go_wp2
    go_ret
    exact qpz hf.out hb
 ·have hf : Hid (¬ L = M) := by
   refine (?_ : ¬ L = M)
   intro e; apply hnn; rw [← hn.out, ← hn'.out, e]
  have hne : ((n : Int) == (n' : Int)) = false := by simp; omega
  go_enter func213, ntmps213
  go_wp2
  go_ret
  exact qjz hf (brz _ _) id
theorem reqU {w0 w : World} {a a' : Option Addr} {n c n' c' : Nat} (h0 : CtD (LtN w0) w0 a n c L) (h0' : CtD (LtN w0) w0 a' n' c' M) (k : Below w0.heap.size w0 w) :
  Asks 18 #[.slice a n c, .slice a' n' c'] (L = M) w := by
 have h := h0.ct' k
 have h' := h0'.ct' k
 clear h0 h0' k
 have hn : Hid (L.length = n) := h.1
 have hn' : Hid (M.length = n') := h'.1
 have hnc := h.2.1
 have hcm := h.2.2.1.1
 have hnc' := h'.2.1
 have hcm' := h'.2.2.1.1
 unfold Asks
 by_cases hnn : n = n'
 ·subst hnn
  go_enter func18, ntmps18
  go_wp2
  go_loopw [5] (fun i wr => ∃ k : Nat, k ≤ n ∧ i = .int .i64 k ∧ Hid (∀ j, j < k → L.getD j 0 = M.getD j 0) ∧ Below w.heap.size w wr) (fun i _ => n - (intOf i).toNat)
  case atStart => exact ⟨0, Nat.zero_le _, rfl, fun j hj => absurd hj (by omega), brz _ _⟩
  case round =>
   obtain ⟨k, hk, rfl, hal, hb⟩ := hrel
   by_cases hkn : k < n
   ·obtain ⟨b, off, x, rfl, hB, hx, c0⟩ := (h.laterK fun b hb' => hb.block b hb').at hkn
    obtain ⟨b', off', y, rfl, hB', hy, d0⟩ := (h'.laterK fun b hb' => hb.block b hb').at hkn
    have hkn' : (k : Int) < n := by omega
    by_cases hxx : x = y
    ·have hal2 : Hid (∀ j, j < k + 1 → L.getD j 0 = M.getD j 0) := urz hal.out (by rw [hx.out, hy.out, hxx])
     subst hxx
     go_wp2
     go_quiet (fail)
     go_wp2
     go_roundw
     case rel => exact ⟨k + 1, by omega, by go_num, hal2, PgM.below_drewN hb _⟩
     case measure => simp [intOf]; omega
    ·have hf : Hid (¬ L = M) := by
      refine (?_ : ¬ L = M)
      intro e; apply hxx; rw [← hx.out, ← hy.out, e]
     have hd : (x == y) = false := by rw [beq_eq_false_iff_ne]; exact hxx
     clear hxx
     go_wp2
     go_quiet (fail)
     go_wp2
     go_ret
     exact qjz hf (PgM.below_drewN hb _) id
   ·obtain rfl : k = n := by omega
    have hf : Hid (L = M) := viz (by rw [hn.out, hn'.out]) (fun i hi => hal.out i (by rw [hn.out] at hi; exact hi))
    go_wp2
    go_ret
    exact qpz hf.out hb
 ·have hf : Hid (¬ L = M) := by
   refine (?_ : ¬ L = M)
   intro e; apply hnn; rw [← hn.out, ← hn'.out, e]
  have hne : ((n : Int) == (n' : Int)) = false := by simp; omega
  go_enter func18, ntmps18
  go_wp2
  go_ret
  exact qjz hf (brz _ _) id
def Four (w : World) (b o : Nat) (R : Nat → Lb) : Prop := b < w.heap.size ∧ ∀ i, i < 4 → LbV (LtN w) w (w.cell? ⟨b, o + i, none⟩) (R i)
theorem Four.next {w w' : World} {b o : Nat} {R : Nat → Lb} (h : Four w b o R) (k : Below w.heap.size w w') : Four w' b o R :=
 ⟨ltz h.1 k.size, fun i hi => by rw [k.cell (p := ⟨b, o + i, none⟩) h.1]; exact (h.2 i hi).next k⟩
def labs (t : Th) : Nat → Lb
 | 0 => t.l0
 | 1 => t.l1
 | 2 => t.l2
 | _ => t.l3
theorem uez {a b : Th} : (∀ i, i < 4 → labs a i = labs b i) ↔ (a.l0 = b.l0 ∧ a.l1 = b.l1 ∧ a.l2 = b.l2 ∧ a.l3 = b.l3) :=
 ⟨fun h => ⟨h 0 (by omega), h 1 (by omega), h 2 (by omega), h 3 (by omega)⟩, fun h i hi => by
  rcases i with _ | _ | _ | _ | i
  ·exact h.1
  ·exact h.2.1
  ·exact h.2.2.1
  ·exact h.2.2.2
  ·omega⟩
theorem ThD.four {B : Nat} {T : Array Value} {t : Th} {ty : TypeId} (h : ThD (LtN w) w T t) (hb : Blk w B T ty) : Four w B 31 (labs t) := by
 refine ⟨hb.lt, fun i hi => ?_⟩
 rw [hb.cell]
 rcases i with _ | _ | _ | _ | i
 ·exact h.f.l0
 ·exact h.f.l1
 ·exact h.f.l2
 ·exact h.f.l3
 ·omega
theorem bhz {w w' : World} {ao : Option Addr} {n cap : Nat} {L : Lb} (h : LabD (LtN w) w ao n cap L) (k : Below w.heap.size w w') : LabD (LtN w') w' ao n cap L := (h.laterK fun b hb => k.block b hb).wide fun b hb => ltz hb k.size
theorem four_any {b b' o o' : Nat} {R R' : Nat → Lb} (h : Four w b o R) (h' : Four w b' o' R') :
  Asks 256 #[.slice (some ⟨b, o, none⟩) 4 4, .slice (some ⟨b', o', none⟩) 4 4, .func (.func 212) #[] #[]] (∀ i, i < 4 → R i = R' i) w := by
 unfold Asks
 go_enter func256, ntmps256
 go_wp2
 go_loopw [17] (fun i wr => ∃ k : Nat, k ≤ 4 ∧ i = .int .i64 k ∧ Hid (∀ j, j < k → R j = R' j) ∧ Below w.heap.size w wr) (fun i _ => 4 - (intOf i).toNat)
 case atStart => exact ⟨0, Nat.zero_le _, rfl, fun j hj => absurd hj (by omega), brz _ _⟩
 case round =>
  obtain ⟨k, hk, rfl, hal, hb⟩ := hrel
  by_cases hkn : k < 4
  ·have hh := h.next hb
   have hh' := h'.next hb
   obtain ⟨ai, ni, ci, q1, q2⟩ := hh.2 k hkn
   obtain ⟨ai', ni', ci', q1', q2'⟩ := hh'.2 k hkn
   have hkn' : (k : Int) < 4 := by omega
   clear hh hh'
   go_wp2_with (go_at_call 212; (with_reducible refine (eqL q2 q2' (brz _ _)).on ?_ ?_) <;> intro w1 hq hb1)
   ·go_roundw
    case rel => exact ⟨k + 1, by omega, by go_num, fun j hj => by
      rcases Nat.lt_or_ge j k with h | h
      ·exact hal.out j h
      ·obtain rfl : j = k := by omega
       exact hq.out, btz hb hb1⟩
    case measure => simp [intOf]; omega
   ·go_ret
    exact qjz hq (btz hb hb1) (fun e => e k hkn)
  ·obtain rfl : k = 4 := by omega
   go_wp2
   go_ret
   exact qpz hal.out hb
theorem kyz {D : Nat → Prop} {T : Array Value} {t : Th} (h : ThD D w T t) : T.extract 0 (0 + 16) = (t.regs.map (Value.int .u64)).toArray := by
 apply Array.ext_getElem?
 intro i
 by_cases hi : i < 16
 ·have hl : i < t.regs.length := by rw [h.f.rlen]; exact hi
  rw [q1z (by rw [h.size]; omega) hi, Nat.zero_add]
  refine (h.f.regs i hi).trans ?_
  simp [List.getD_eq_getElem?_getD, List.getElem?_eq_getElem hl]
 ·rw [Array.getElem?_extract, if_neg (by omega)]
  exact (Array.getElem?_eq_none (by simp [h.f.rlen]; omega)).symm
theorem ext5 {C : Array Value} {o : Nat} {a b c d e : Value} (h0 : C[o]? = some a) (h1 : C[o + 1]? = some b) (h2 : C[o + 2]? = some c) (h3 : C[o + 3]? = some d) (h4 : C[o + 4]? = some e) : C.extract o (o + 5) = #[a, b, c, d, e] := by
 have hs : o + 4 < C.size := (Array.getElem?_eq_some_iff.1 h4).1
 apply Array.ext_getElem?
 intro i
 rcases i with _ | _ | _ | _ | _ | i
 ·rw [q1z (n := 5) (by omega) (by omega)]; exact h0
 ·rw [q1z (n := 5) (by omega) (by omega)]; exact h1
 ·rw [q1z (n := 5) (by omega) (by omega)]; exact h2
 ·rw [q1z (n := 5) (by omega) (by omega)]; exact h3
 ·rw [q1z (n := 5) (by omega) (by omega)]; exact h4
 ·rw [Array.getElem?_extract, if_neg (by omega)]; simp
theorem jKz {G G' : Array Value} {g g' : Gt} (h : GtD (LtN w) w G g) (h' : GtD (LtN w) w G' g') :
  Asks 43 #[.agg G, .agg G'] (g = g') w := by
 have hz := h.size
 have hz' := h'.size
 obtain ⟨a0, n0, k0, c0, l0⟩ := h.f.grant
 obtain ⟨a1, n1, k1, c1, l1⟩ := h.f.clear
 have x2 := ext2 h.f.sc h.f.si
 have c4 := h.f.pc
 have c5 := h.f.arg
 obtain ⟨a0', n0', k0', c0', l0'⟩ := h'.f.grant
 obtain ⟨a1', n1', k1', c1', l1'⟩ := h'.f.clear
 have x2' := ext2 h'.f.sc h'.f.si
 have c4' := h'.f.pc
 have c5' := h'.f.arg
 have ga0 := isAgg39
 have ga1 := isAgg22
 have ga2 := isAgg3
 have ga3 := isAgg4
 have ga4 := isAgg40
 have ga5 := isAgg41
 unfold Asks
 go_enter func43, ntmps43
 go_wp2_with (first
  | go_skip
  | (with_reducible refine qcz rfl _ _ rfl G rfl ?_; intro B W hB hb hk)
  | (with_reducible refine qcz rfl _ _ rfl G' rfl ?_; intro B' W' hB' hb' hk'; replace hb := hb.next hk'; replace hk := btz hk hk'; clear hk')
  | (with_reducible refine qaz (by kernel_rfl) _ _ rfl B _ rfl _ _ hb _ (by assumption) (by assumption) ?_)
  | (with_reducible refine qaz (by kernel_rfl) _ _ rfl B' _ rfl _ _ hb' _ (by assumption) (by assumption) ?_)
  | (with_reducible refine qnz (by kernel_rfl) 44 _ rfl B _ rfl 2 _ _ hb _ (by assumption) (by omega) _ underlying44 (by kernel_rfl) kcz ?_)
  | (with_reducible refine qnz (by kernel_rfl) 44 _ rfl B' _ rfl 2 _ _ hb' _ (by assumption) (by omega) _ underlying44 (by kernel_rfl) kcz ?_)
  | ((with_reducible refine qgz (by kernel_rfl) .eql _ _ _ _ rfl _ _ rfl rfl (qtz _ _ _ _ _ _) ?_ ?_) <;> intro hq)
  | ((with_reducible refine qgz (by kernel_rfl) .eql _ _ _ _ rfl _ _ rfl rfl (kaz _ _ _ _ _ _) ?_ ?_) <;> intro hq)
  | (go_at_call 16; (with_reducible refine (reqL (by assumption) (by assumption) hk).on ?_ ?_) <;> (intro w1 hq hb1; replace hb := hb.next hb1; replace hb' := hb'.next hb1; replace hk := btz hk hb1; clear hb1)))
 all_goals go_ret
 all_goals first
  | (refine qjz (by assumption) hk ?_; intro e; rw [e]; done)
  | (refine qjz (by assumption) hk ?_; intro e; rw [e]; exact ⟨rfl, rfl⟩)
  | (refine qjz (by assumption) hk ?_; intro e; rw [e]; exact ⟨rfl, rfl, rfl, rfl, rfl⟩)
  | (refine qjz (by assumption) hk ?_; intro e; rw [e]; exact fun _ _ => rfl)
  | (refine qpz ?_ hk; exact bwz.1 ⟨Hid.out (by assumption), Hid.out (by assumption), Hid.out (by assumption), Hid.out (by assumption), Hid.out (by assumption)⟩)
  | fail
end
end Go.Proofs.YtloghnpfplljgaaGreat
