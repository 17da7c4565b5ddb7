/-
 PROVED HERE: plain facts on quotas: what is charged is no more than the root has (no Go text). What is asked stands at each.
-/
import Derived.Test.YtnhjfjhbmekamaaGreatZ24
namespace Go.Proofs.YtnhjfjhbmekamaaGreat
set_option maxRecDepth 100000
set_option maxHeartbeats 8000000

def sumO (X : List Ob) (f : Ob → Int) : Int := (X.map f).sum
theorem sumO_cons (x : Ob) (X : List Ob) (f : Ob → Int) : sumO (x :: X) f = f x + sumO X f := by unfold sumO; rw [List.map_cons, List.sum_cons]
theorem sumO_le {X : List Ob} {f g : Ob → Int} (h : ∀ x ∈ X, f x ≤ g x) : sumO X f ≤ sumO X g := by
 induction X with
 | nil => exact Int.le_refl _
 | cons x r ih =>
  rw [sumO_cons, sumO_cons]
  have := h x (List.mem_cons_self ..)
  have := ih fun y hy => h y (List.mem_cons_of_mem _ hy)
  omega
theorem sumO_add (X : List Ob) (f g : Ob → Int) : sumO X (fun x => f x + g x) = sumO X f + sumO X g := by
 induction X with
 | nil => rfl
 | cons x r ih => rw [sumO_cons, sumO_cons, sumO_cons, ih]; omega
theorem sumO_zero (X : List Ob) : sumO X (fun _ => 0) = 0 := by
 induction X with
 | nil => rfl
 | cons x r ih => rw [sumO_cons, ih]; rfl
theorem sumO_swap (X Y : List Ob) (f : Ob → Ob → Int) : sumO X (fun x => sumO Y (f x)) = sumO Y (fun y => sumO X fun x => f x y) := by
 induction X with
 | nil =>
  show (0 : Int) = sumO Y fun y => sumO [] fun x => f x y
  rw [show (fun y => sumO [] fun x => f x y) = fun _ => (0 : Int) from rfl, sumO_zero]
 | cons x r ih =>
  rw [sumO_cons, ih, ← sumO_add]
  rfl
theorem sumO_one {X : List Ob} {f : Ob → Int} (h : ∀ x ∈ X, 0 ≤ f x) {y : Ob} (hy : y ∈ X) : f y ≤ sumO X f := by
 induction X with
 | nil => cases hy
 | cons x r ih =>
  rw [sumO_cons]
  have h0 := h x (List.mem_cons_self ..)
  have hr : 0 ≤ sumO r f := by
   have := sumO_le (X := r) (f := fun _ => 0) (g := f) fun z hz => h z (List.mem_cons_of_mem _ hz)
   rwa [sumO_zero] at this
  rcases List.mem_cons.1 hy with q | q
  ·rw [q]; omega
  ·have := ih (fun z hz => h z (List.mem_cons_of_mem _ hz)) q
   omega
theorem sumO_pick {X : List Ob} (hs : Srt X) (a : Int) : sumO X (fun o => if o.id = a then o.quota else 0) = qOf X a := by
 induction X with
 | nil => rfl
 | cons x r ih =>
  obtain ⟨h1, h2⟩ := List.pairwise_cons.1 hs
  rw [sumO_cons, ih h2]
  by_cases e : x.id = a
  ·rw [if_pos e]
   have hr : fnd r a = none := fnd_none.2 fun y hy q => by have := h1 y hy; omega
   have hx : fnd (x :: r) a = some x := by unfold fnd; rw [List.find?_cons_of_pos (by simpa using e)]
   unfold qOf
   rw [hr, hx]
   simp
  ·rw [if_neg e]
   have hx : fnd (x :: r) a = fnd r a := by unfold fnd; rw [List.find?_cons_of_neg (by simpa using e)]
   unfold qOf
   rw [hx]
   simp
theorem sum_links {X : List Ob} (hs : Srt X) (hq : ∀ x ∈ X, 0 ≤ x.quota) (l : List Int) : sumO X (fun o => if o.id ∈ l then o.quota else 0) ≤ (l.map (qOf X)).sum := by
 induction l with
 | nil =>
  have : sumO X (fun o => if o.id ∈ ([] : List Int) then o.quota else 0) = 0 := by
   rw [show (fun o : Ob => if o.id ∈ ([] : List Int) then o.quota else 0) = fun _ => (0 : Int) from by funext o; simp, sumO_zero]
  rw [this]; exact Int.le_refl _
 | cons a r ih =>
  rw [List.map_cons, List.sum_cons, ← sumO_pick hs a]
  have h1 : sumO X (fun o => if o.id ∈ a :: r then o.quota else 0) ≤ sumO X (fun o => (if o.id = a then o.quota else 0) + (if o.id ∈ r then o.quota else 0)) := by
   refine sumO_le fun o ho => ?_
   have := hq o ho
   by_cases e : o.id = a
   ·rw [if_pos (by rw [e]; exact List.mem_cons_self ..), if_pos e]
    split <;> omega
   ·by_cases e2 : o.id ∈ r
    ·rw [if_pos (List.mem_cons_of_mem _ e2), if_neg e, if_pos e2]; omega
    ·rw [if_neg (by rw [List.mem_cons]; exact fun q => q.elim e e2), if_neg e, if_neg e2]; omega
  rw [sumO_add] at h1
  omega
def gO (o : Ob) : Int := if o.kind = 2 then 1 else o.quota
theorem all_within {X : List Ob} {r : Int} (hs : Srt X) (hso : ∀ x ∈ X, soundB x = true) (hpl : ∀ x ∈ X, x.id ≠ r → ∃ d ∈ X, x.id ∈ d.links) (hus : ∀ d ∈ X, d.kind = 2 → usesN X d ≤ d.quota) (hne : ∀ d ∈ X, d.kind ≠ 2 → d.links = []) (hda : ∀ d ∈ X, d.kind = 2 → pagN d = 1) : sumO X gO ≤ qOf X r := by
 have hq : ∀ x ∈ X, 0 ≤ x.quota := fun x hx => by have := (com_iff.1 (sound_iff.1 (hso x hx)).1).2.1; omega
 have h1 : sumO X Ob.quota ≤ sumO X (fun o => (if o.id = r then o.quota else 0) + sumO X fun d => if o.id ∈ d.links then o.quota else 0) := by
  refine sumO_le fun o ho => ?_
  have hq0 := hq o ho
  have hn : ∀ d ∈ X, (0 : Int) ≤ if o.id ∈ d.links then o.quota else 0 := fun d _ => by split <;> omega
  by_cases e : o.id = r
  ·rw [if_pos e]
   have := sumO_le (X := X) (f := fun _ => 0) (g := fun d => if o.id ∈ d.links then o.quota else 0) hn
   rw [sumO_zero] at this
   omega
  ·rw [if_neg e]
   obtain ⟨d, hd, hl⟩ := hpl o ho e
   have := sumO_one hn hd
   rw [if_pos hl] at this
   omega
 rw [sumO_add, sumO_pick hs r, sumO_swap] at h1
 have h2 : sumO X (fun d => sumO X fun o => if o.id ∈ d.links then o.quota else 0) ≤ sumO X (fun d => Ob.quota d + -(gO d)) := by
  refine sumO_le fun d hd => ?_
  have := sum_links hs hq d.links
  unfold gO
  by_cases k2 : d.kind = 2
  ·rw [if_pos k2]
   have u := hus d hd k2
   unfold usesN at u
   rw [hda d hd k2] at u
   omega
  ·rw [if_neg k2, hne d hd k2] at *
   simp only [List.map_nil, List.sum_nil] at this
   omega
 rw [sumO_add] at h2
 have h3 : sumO X (fun d => -(gO d)) + sumO X gO = 0 := by
  rw [← sumO_add, show (fun x => -(gO x) + gO x) = fun _ => (0 : Int) from by funext x; omega, sumO_zero]
 omega
end Go.Proofs.YtnhjfjhbmekamaaGreat
