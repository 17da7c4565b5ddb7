/-
 PROVED HERE: plain facts on who holds what: the table of holdings against the containers that have a link, and the ways up . What is asked stands at each.
-/
import Derived.Test.YtiiaohejldchdaaGreatZ25
import Derived.Test.YtiiaohejldchdaaGreatZ30
import Derived.Test.YtiiaohejldchdaaGreatZ32
namespace Go.Proofs.YtiiaohejldchdaaGreat
set_option maxRecDepth 100000
set_option maxHeartbeats 8000000

theorem fnd_id {X : List Ob} {i : Int} {x : Ob} (h : fnd X i = some x) : x.id = i ∧ x ∈ X :=
 ⟨by simpa using List.find?_some (show X.find? _ = some x from h), List.mem_of_find?_eq_some (show X.find? _ = some x from h)⟩
def upB (X : List Ob) (ro i : Int) : Bool := (decide (i = ro) && decide ((rabv X i).length = 0)) || (decide (0 < (rabv X i).length) && decide ((rabv X i).getLast?.getD 0 = ro))
end Go.Proofs.YtiiaohejldchdaaGreat
namespace Go.Proofs.YtiiaohejldchdaaGreat
set_option maxRecDepth 100000
set_option maxHeartbeats 8000000

def lnkB (X : List Ob) (d : Ob) : Bool := (d.links.all fun i => (fnd X i).isSome && plcB d.label (fO X i).label) && (!decide (d.kind = 2) || decide (usesN X d ≤ d.quota))
def plaB (X : List Ob) (ro : Int) (o : Ob) : Bool :=
 if o.id = ro then decide ((holL X o.id).length = 0) && (decide (o.kind = 2) && decide (o.quota ≤ 1024))
 else (decide (1 ≤ (holL X o.id).length) && !(decide (1 < (holL X o.id).length) && (!o.fixed || sngO o))) && (!decide (o.kind = 2) || upB X ro o.id)
def rapB (a b c d : Nat) : Bool := decide (a = b) || (decide (c = d) || (decide (b ≤ c) || decide (d ≤ a)))
def rowB (key : Nat) (X : List Ob) (i k : Nat) : Bool := !(SrM.hasK key (oat X i).th.lo.toNat (oat X i).th.hi.toNat (oat X k).id.toNat || (decide ((oat X k).kind = 4) && (decide (k ≠ i) && !rapB (oat X i).th.lo.toNat (oat X i).th.hi.toNat (oat X k).th.lo.toNat (oat X k).th.hi.toNat)))
def spaB (key : Nat) (X : List Ob) : Bool := (List.range X.length).all fun i => !decide ((oat X i).kind = 4) || (List.range X.length).all fun k => rowB key X i k
def fitD (t : Int) (key : Nat) (ro : Int) (X : List Ob) : Bool := (fitW ⟨t, key, ro, X⟩ && (fnd X ro).isSome) && (((List.range X.length).all fun j => lnkB X (oat X j) && plaB X ro (oat X j)) && spaB key X)
theorem all_oat {X : List Ob} {p : Ob → Bool} : ((List.range X.length).all fun j => p (oat X j)) = true ↔ ∀ o ∈ X, p o = true := by
 rw [List.all_eq_true]
 constructor
 ·intro h o ho
  obtain ⟨i, hi, e⟩ := List.getElem_of_mem ho
  have := h i (List.mem_range.2 hi)
  rwa [oat_get hi, e] at this
 ·intro h j hj
  exact h _ (oat_mem (List.mem_range.1 hj))
theorem links_nil {x : Ob} (h : soundB x = true) (hk : x.kind ≠ 2) : x.links = [] := by
 have ha : aloO x = x := (alone_iff x).1 (sound_iff.1 h).2.2
 rw [← ha]
 unfold aloO comO
 rw [if_neg hk]
 split
 ·rfl
 split
 ·rfl
 split
 ·rfl
 split
 ·rfl
 split <;> rfl
theorem id_pos {x : Ob} (h : soundB x = true) : 1 ≤ x.id := by
 have := (com_iff.1 (sound_iff.1 h).1).1
 unfold idB at this
 simp only [Bool.and_eq_true, decide_eq_true_eq] at this
 omega
theorem fit_mem {t ke ro : Int} {X : List Ob} (h : fitW ⟨t, ke, ro, X⟩ = true) : Srt X ∧ (∀ x ∈ X, soundB x = true) ∧ X.length ≤ 1024 := by
 unfold fitW at h
 simp only [Bool.and_eq_true, decide_eq_true_eq, List.all_eq_true] at h
 exact ⟨idsB_iff.1 h.2.2.2.1, h.2.2.2.2, h.2.2.1⟩
end Go.Proofs.YtiiaohejldchdaaGreat
