/-
  PROVED HERE: plain facts on objects and worlds as records of numbers and lists (no Go text). No condition.
-/
import Derived.Test.YtfpmkihlfhpgdaaLab
import Derived.Test.YtfpmkihlfhpgdaaLabOwned
import Derived.Test.YtfpmkihlfhpgdaaLabLeq
import Derived.Test.YtfpmkihlfhpgdaaLabRef2
import Derived.Test.YtfpmkihlfhpgdaaLabMath3
import Derived.Test.YtfpmkihlfhpgdaaPo7
namespace Go.Proofs.Ytfpmkihlfhpgdaa
open PgM.Pg (Mp eqB eqB_iff)

instance : DecidableEq Mp := fun x y => decidable_of_decidable_of_iff (p := eqB x y = true) eqB_iff
abbrev Lb := List (Int × Int)
/-- What a thread has. -/
structure Th where
  regs : List Int
  pc : Int
  clear : Lb
  sc : Int
  si : Int
  handler : Int
  vector : Int
  state : Int
  wc : Int
  wi : Int
  wx : Int
  wv : Int
  wd : Bool
  alerts : List Int
  lo : Int
  hi : Int
  l0 : Lb
  l1 : Lb
  l2 : Lb
  l3 : Lb
/-- What a gate has. -/
structure Gt where
  grant : Lb
  clear : Lb
  sc : Int
  si : Int
  pc : Int
  arg : Int
/-- An object. -/
structure Ob where
  id : Int
  kind : Int
  label : Lb
  quota : Int
  fixed : Bool
  links : List Int
  data : List Int
  maps : List Mp
  th : Th
  gt : Gt
  inn : List Int
  out : List Int
/-- A world. -/
structure Wd where
  time : Int
  key : Int
  root : Int
  obs : List Ob
def zTh : Th := ⟨[0, 0, 0, 0, 0, 0, 0, 0, 0, 0, 0, 0, 0, 0, 0, 0], 0, [], 0, 0, 0, 0, 0, 0, 0, 0, 0, false, [], 0, 0, [], [], [], []⟩
def zGt : Gt := ⟨[], [], 0, 0, 0, 0⟩
def zOb : Ob := ⟨0, 0, [], 0, false, [], [], [], zTh, zGt, [], []⟩
instance : Inhabited Ob := ⟨zOb⟩
theorem th_iff {a b : Th} : (a.regs = b.regs ∧ a.pc = b.pc ∧ a.clear = b.clear ∧ (a.sc = b.sc ∧ a.si = b.si) ∧ a.handler = b.handler ∧ a.vector = b.vector ∧ a.state = b.state ∧ (a.wc = b.wc ∧ a.wi = b.wi ∧ a.wx = b.wx ∧ a.wv = b.wv ∧ a.wd = b.wd) ∧ a.alerts = b.alerts ∧ (a.lo = b.lo ∧ a.hi = b.hi) ∧ (a.l0 = b.l0 ∧ a.l1 = b.l1 ∧ a.l2 = b.l2 ∧ a.l3 = b.l3)) ↔ a = b := by
  cases a; cases b
  simp only [Th.mk.injEq]
  constructor
  · rintro ⟨h1, h2, h3, ⟨h4, h5⟩, h6, h7, h8, ⟨h9, h10, h11, h12, h13⟩, h14, ⟨h15, h16⟩, h17, h18, h19, h20⟩
    exact ⟨h1, h2, h3, h4, h5, h6, h7, h8, h9, h10, h11, h12, h13, h14, h15, h16, h17, h18, h19, h20⟩
  · rintro ⟨h1, h2, h3, h4, h5, h6, h7, h8, h9, h10, h11, h12, h13, h14, h15, h16, h17, h18, h19, h20⟩
    exact ⟨h1, h2, h3, ⟨h4, h5⟩, h6, h7, h8, ⟨h9, h10, h11, h12, h13⟩, h14, ⟨h15, h16⟩, h17, h18, h19, h20⟩
theorem gt_iff {a b : Gt} : (a.grant = b.grant ∧ a.clear = b.clear ∧ (a.sc = b.sc ∧ a.si = b.si) ∧ a.pc = b.pc ∧ a.arg = b.arg) ↔ a = b := by
  cases a; cases b
  simp only [Gt.mk.injEq]
  constructor
  · rintro ⟨h1, h2, ⟨h3, h4⟩, h5, h6⟩; exact ⟨h1, h2, h3, h4, h5, h6⟩
  · rintro ⟨h1, h2, h3, h4, h5, h6⟩; exact ⟨h1, h2, ⟨h3, h4⟩, h5, h6⟩
instance : DecidableEq Th := fun _ _ => decidable_of_decidable_of_iff th_iff
instance : DecidableEq Gt := fun _ _ => decidable_of_decidable_of_iff gt_iff
theorem ob_iff {a b : Ob} : (a.id = b.id ∧ a.kind = b.kind ∧ a.label = b.label ∧ a.quota = b.quota ∧ a.fixed = b.fixed ∧ a.links = b.links ∧ a.data = b.data ∧ a.maps = b.maps ∧ a.th = b.th ∧ a.gt = b.gt ∧ a.inn = b.inn ∧ a.out = b.out) ↔ a = b := by
  cases a; cases b
  simp only [Ob.mk.injEq]
instance : DecidableEq Ob := fun _ _ => decidable_of_decidable_of_iff ob_iff
theorem wd_iff {a b : Wd} : (a.time = b.time ∧ a.key = b.key ∧ a.root = b.root ∧ a.obs = b.obs) ↔ a = b := by
  cases a; cases b
  simp only [Wd.mk.injEq]
instance : DecidableEq Wd := fun _ _ => decidable_of_decidable_of_iff wd_iff
def sameT (a b : Th) : Bool := decide (a = b)
def sameG (a b : Gt) : Bool := decide (a = b)
def sameO (a b : Ob) : Bool := decide (a = b)
def sameW (a b : Wd) : Bool := decide (a = b)
def eqI (a b : List Int) : Bool := decide (a = b)
theorem sameO_refl (a : Ob) : sameO a a = true := decide_eq_true rfl
theorem sameW_refl (a : Wd) : sameW a a = true := decide_eq_true rfl
theorem sameO_iff {a b : Ob} : sameO a b = true ↔ a = b := by unfold sameO; rw [decide_eq_true_iff]
theorem sameW_iff {a b : Wd} : sameW a b = true ↔ a = b := by unfold sameW; rw [decide_eq_true_iff]
/-- Which can be. -/
def idB (n : Int) : Bool := decide (1 ≤ n) && decide (n ≤ 2305843009213693952)
def keptB (L : Lb) : Bool := decide (L.length ≤ 16) && (fitB L && L.all fun p => !decide (p.2 = 5))
def bounB (l b : Lb) : Bool := keptB l && (keptB b && leqB l b)
def risB (l : List Int) : Bool := decide (l.Pairwise (· < ·))
def waitB (t : Th) : Bool := decide (t.state = 1) || decide (t.wc = 0 ∧ t.wi = 0 ∧ t.wx = 0 ∧ t.wv = 0 ∧ t.wd = false)
def spanB (t : Th) : Bool := decide (t.lo ≤ t.hi) && decide (t.hi ≤ 2305843009213693952)
def thrB (t : Th) : Bool := keptB t.l0 && (keptB t.l1 && (keptB t.l2 && (keptB t.l3 && (decide (0 ≤ t.state) && (decide (t.state ≤ 2) && (decide (t.alerts.length ≤ 8) && (spanB t && waitB t)))))))
def comB (x : Ob) : Bool := idB x.id && (decide (1 ≤ x.quota) && (decide (x.quota ≤ 4096) && (keptB x.label && (decide (x.kind = 4) || decide (owned x.label = [])))))
def ownB (x : Ob) : Bool :=
  if x.kind = 1 then decide ((x.data.length : Int) ≤ 16 * (x.quota - 1)) else
  if x.kind = 2 then decide (x.links.length ≤ 64) && (x.links.all idB && risB x.links) else
  if x.kind = 3 then PgM.Pg.fitB x.maps else
  if x.kind = 4 then !x.fixed && (bounB x.label x.th.clear && thrB x.th) else
  if x.kind = 5 then bounB x.gt.grant x.gt.clear else
  if x.kind = 6 then decide (x.inn.length ≤ 64) && decide (x.out.length ≤ 1024) else false
def comO (x : Ob) : Ob := ⟨x.id, x.kind, x.label, x.quota, x.fixed, [], [], [], zTh, zGt, [], []⟩
def witO (x : Ob) : Ob :=
  if x.kind = 1 then ⟨x.id, x.kind, x.label, x.quota, x.fixed, x.links, [], x.maps, x.th, x.gt, x.inn, x.out⟩ else
  if x.kind = 2 then ⟨x.id, x.kind, x.label, x.quota, x.fixed, [], x.data, x.maps, x.th, x.gt, x.inn, x.out⟩ else
  if x.kind = 3 then ⟨x.id, x.kind, x.label, x.quota, x.fixed, x.links, x.data, [], x.th, x.gt, x.inn, x.out⟩ else
  if x.kind = 4 then ⟨x.id, x.kind, x.label, x.quota, x.fixed, x.links, x.data, x.maps, zTh, x.gt, x.inn, x.out⟩ else
  if x.kind = 5 then ⟨x.id, x.kind, x.label, x.quota, x.fixed, x.links, x.data, x.maps, x.th, zGt, x.inn, x.out⟩ else
  if x.kind = 6 then ⟨x.id, x.kind, x.label, x.quota, x.fixed, x.links, x.data, x.maps, x.th, x.gt, [], []⟩ else x
def aloO (x : Ob) : Ob :=
  if x.kind = 1 then ⟨x.id, x.kind, x.label, x.quota, x.fixed, [], x.data, [], zTh, zGt, [], []⟩ else
  if x.kind = 2 then ⟨x.id, x.kind, x.label, x.quota, x.fixed, x.links, [], [], zTh, zGt, [], []⟩ else
  if x.kind = 3 then ⟨x.id, x.kind, x.label, x.quota, x.fixed, [], [], x.maps, zTh, zGt, [], []⟩ else
  if x.kind = 4 then ⟨x.id, x.kind, x.label, x.quota, x.fixed, [], [], [], x.th, zGt, [], []⟩ else
  if x.kind = 5 then ⟨x.id, x.kind, x.label, x.quota, x.fixed, [], [], [], zTh, x.gt, [], []⟩ else
  if x.kind = 6 then ⟨x.id, x.kind, x.label, x.quota, x.fixed, [], [], [], zTh, zGt, x.inn, x.out⟩ else comO x
def soundB (x : Ob) : Bool := comB x && (ownB x && sameO (witO x) (comO x))
theorem alone_iff (x : Ob) : witO x = comO x ↔ aloO x = x := by
  unfold witO aloO
  obtain ⟨id, kind, label, quota, fixed, links, data, maps, th, gt, inn, out⟩ := x
  simp only [comO]
  split
  · simp only [Ob.mk.injEq]; constructor <;> (rintro ⟨h1, h2, h3, h4, h5, h6, h7, h8, h9, h10, h11, h12⟩; simp_all)
  split
  · simp only [Ob.mk.injEq]; constructor <;> (rintro ⟨h1, h2, h3, h4, h5, h6, h7, h8, h9, h10, h11, h12⟩; simp_all)
  split
  · simp only [Ob.mk.injEq]; constructor <;> (rintro ⟨h1, h2, h3, h4, h5, h6, h7, h8, h9, h10, h11, h12⟩; simp_all)
  split
  · simp only [Ob.mk.injEq]; constructor <;> (rintro ⟨h1, h2, h3, h4, h5, h6, h7, h8, h9, h10, h11, h12⟩; simp_all)
  split
  · simp only [Ob.mk.injEq]; constructor <;> (rintro ⟨h1, h2, h3, h4, h5, h6, h7, h8, h9, h10, h11, h12⟩; simp_all)
  split
  · simp only [Ob.mk.injEq]; constructor <;> (rintro ⟨h1, h2, h3, h4, h5, h6, h7, h8, h9, h10, h11, h12⟩; simp_all)
  exact eq_comm
theorem alone_b (x : Ob) : sameO (witO x) (comO x) = sameO (aloO x) x := by
  rw [Bool.eq_iff_iff, sameO_iff, sameO_iff]; exact alone_iff x
/-- Pages, label shown, head. -/
def pagN (x : Ob) : Int := 1 + ((x.data.length : Int) + 15) / 16
def shoL (x : Ob) : Lb := if x.kind = 4 then rmapL Lv.raise x.label else x.label
def heaO (x : Ob) : Ob := ⟨x.id, x.kind, if x.kind = 4 then [] else x.label, x.quota, x.fixed, [], [], [], zTh, zGt, [], []⟩
/-- Worlds. -/
def idsB (l : List Ob) : Bool := risB (l.map Ob.id)
def fitW (W : Wd) : Bool := decide (0 ≤ W.time) && (decide (W.time ≤ 1099511627776) && (decide (W.obs.length ≤ 1024) && (idsB W.obs && W.obs.all soundB)))
def Srt (l : List Ob) : Prop := l.Pairwise fun x y => x.id < y.id
theorem idsB_iff {l : List Ob} : idsB l = true ↔ Srt l := by unfold idsB risB Srt; rw [decide_eq_true_iff, List.pairwise_map]
def lowL (l : List Ob) (i : Int) : List Ob := l.filter fun x => decide (x.id < i)
def higL (l : List Ob) (i : Int) : List Ob := l.filter fun x => decide (i < x.id)
def ahd (l : List Ob) (i : Int) : Nat := (lowL l i).length
def fnd (l : List Ob) (i : Int) : Option Ob := l.find? fun x => decide (x.id = i)
def puL (l : List Ob) (o : Ob) : List Ob := if (lowL l o.id ++ o :: higL l o.id).length ≤ 1024 then lowL l o.id ++ o :: higL l o.id else l
def drpL (l : List Ob) (i : Int) : List Ob := lowL l i ++ higL l i
def putW (W : Wd) (o : Ob) : Wd := ⟨W.time, W.key, W.root, puL W.obs o⟩
def drpW (W : Wd) (i : Int) : Wd := ⟨W.time, W.key, W.root, drpL W.obs i⟩
end Go.Proofs.Ytfpmkihlfhpgdaa
