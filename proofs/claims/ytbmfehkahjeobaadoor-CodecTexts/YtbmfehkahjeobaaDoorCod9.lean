/-
  PROVED HERE: codec's iterator over the parts of a text, whatever its rounds do (a contract over this translation).
-/
import Derived.Test.YtbmfehkahjeobaaDoorCod6
import Derived.Test.YtbmfehkahjeobaaDoorCod8
import Derived.RangeFuncNested
import Derived.RangeFuncBound
import Derived.RangeFuncCalls
import Derived.RangeFuncLeaves
import Derived.Shelf.Abstract
import Derived.Shelf.RegionOpen
import Derived.WalkKit
import Derived.OwnWalkIn
import Derived.TacticsInMore
import Derived.LoopNIn
import Derived.LoopIn
import Derived.RegionIn
import Derived.WalkSmall
import Derived.Lib.CutLaws
namespace Go.Proofs.YtbmfehkahjeobaaDoor
open Go.RowKit Go.Shelf
set_option linter.unusedVariables false
attribute [local go_sem] Oper.semAt_some

def commaB : ByteArray := ⟨#[44]⟩
theorem cut2_less {s sep : ByteArray} (h : cutF s sep = true) (hs : 0 < sep.size) : (cut2 s sep).size < s.size := by
  unfold cutF Lib.cut at h
  rw [cut2, size_mk, ← size_list s]
  unfold Lib.cut
  split at h
  · rename_i hi
    rw [if_pos hi]
    simp only [List.length_drop]
    have h1 : (Lib.index s.data.toList sep.data.toList).toNat + sep.data.toList.length ≤ s.data.toList.length := by
      have h1 := Lib.index_room s.data.toList sep.data.toList hi
      omega
    have h2 := size_list sep
    omega
  · cases h
def splitN : Nat → ByteArray → List ByteArray
  | 0, _ => []
  | k + 1, s => cut1 s commaB :: (if cutF s commaB = true then splitN k (cut2 s commaB) else [])
theorem splitN_fuel : ∀ (k m : Nat) (s : ByteArray), s.size < k → s.size < m → splitN k s = splitN m s := by
  intro k
  induction k with
  | zero => intro m s h; omega
  | succ k ih =>
    intro m s h1 h2
    cases m with
    | zero => omega
    | succ m =>
      simp only [splitN]
      by_cases hc : cutF s commaB = true
      · have hl := cut2_less hc (by decide)
        rw [if_pos hc, if_pos hc, ih m (cut2 s commaB) (by omega) (by omega)]
      · rw [if_neg hc, if_neg hc]
def split (s : ByteArray) : List ByteArray := splitN (s.size + 1) s
def tailOf (more : Bool) (s : ByteArray) : List ByteArray := if more = true then split s else []
theorem split_eq (s : ByteArray) : split s = cut1 s commaB :: tailOf (cutF s commaB) (cut2 s commaB) := by
  unfold split tailOf
  simp only [splitN]
  by_cases hc : cutF s commaB = true
  · have hl := cut2_less hc (by decide)
    rw [if_pos hc, if_pos hc]
    unfold split
    rw [splitN_fuel s.size ((cut2 s commaB).size + 1) _ hl (by omega)]
  · rw [if_neg hc, if_neg hc]
def partsOf (s : ByteArray) : List ByteArray := tailOf (!(s.toList == [45])) s
theorem tail_true (s : ByteArray) : tailOf true s = cut1 s commaB :: tailOf (cutF s commaB) (cut2 s commaB) := by rw [← split_eq]; rfl
theorem tail_false (s : ByteArray) : tailOf false s = [] := rfl
def msr : Value → Value → Nat
  | .string r, .bool true => r.size + 1
  | _, _ => 0
def encS (x : ByteArray) : Array Value := #[.string x]

set_option maxRecDepth 100000 in
set_option maxHeartbeats 1000000 in
theorem parts1_in (n : Nat) (s : ByteArray) (hs : s.size ≤ 65536) (Ba l : Nat) (J : List ByteArray → World → Prop) (Jp : List PanicEntry → List ByteArray → World → Prop) (W : World)
    (hd : ∀ pre X k, J pre X → J pre (X.drewN k)) (hV : ∀ pre X, J pre X → Vars X)
    (hY : ∀ pre x X, J pre X → pre ++ [x] <+: partsOf s → YieldAt Fence.wide n Tryd.prog l (encS x) X fun e X' => (e = .returned (.bool true) ∧ J (pre ++ [x]) X') ∨ ∃ ch, e = .panicked ch ∧ Jp ch (pre ++ [x]) X')
    (hBa : W.cell? ⟨Ba, 0, none⟩ = some (.string s)) (h0 : J [] W) :
    CallsIn Fence.wide (n + 1) Tryd.prog 35 #[.func (.yield l) #[] #[], .pointer (some ⟨Ba, 0, none⟩)] W fun e X' => ((∃ v, e = .returned v) ∧ J (partsOf s) X') ∨ ∃ ch pre, e = .panicked ch ∧ pre <+: partsOf s ∧ Jp ch pre X' := by
  refine callsIn_of_wp Tryd.func35 rfl trivial ?_ rfl
  simp only [Tryd.ntmps35, List.size_toArray, List.length_cons, List.length_nil, Nat.reduceAdd, Nat.reduceSub, Array.replicate_succ, Array.replicate_zero, List.push_toArray, List.append_toArray, List.nil_append, List.cons_append]
  gi_wp2
  gi_region
  gi_wp2
  gi_loopw [3, 4] (fun vr vm wr => ∃ (pre : List ByteArray) (rest : ByteArray) (more : Bool), vr = .string rest ∧ vm = .bool more ∧ Hid (partsOf s = pre ++ tailOf more rest) ∧ rest.size ≤ s.size ∧ J pre wr) (fun vr vm _ => msr vr vm)
  case atStart => exact ⟨[], s, _, rfl, rfl, rfl, Nat.le_refl _, hd _ _ 1 h0⟩
  case round =>
    obtain ⟨pre, rest, more, rfl, rfl, hx, hrs, hJs⟩ := hrel
    cases more with
    | false =>
      have hx' : Hid (partsOf s = pre) := by rw [tail_false, List.append_nil] at hx; exact hx
      gi_wp2
      go_end0
      exact .inl ⟨⟨_, rfl⟩, by rw [hx'.out]; exact hJs⟩
    | true =>
      have hc2 := cut2_size rest commaB
      have hx2 : Hid (partsOf s = (pre ++ [cut1 rest commaB]) ++ tailOf (cutF rest commaB) (cut2 rest commaB)) := by rw [tail_true] at hx; exact hx.out.trans (by simp)
      have hml : Hid (cutF rest commaB = true → (cut2 rest commaB).size < rest.size) := fun h => cut2_less h (by decide)
      have hC := cut_any rest commaB
      gi_wp2_with (refine ⟨trivial, ?_⟩; gi_at_call 36; refine (callsIn_wide.2 (hC _ (by omega) (hV _ _ hJs))).mono ?_; rintro e w' ⟨rfl, m1, rfl⟩)
      obtain ⟨fn, tmps, assign, body, hy, hR⟩ := hY pre (cut1 rest commaB) (wr.drewN m1) (hd _ _ _ hJs) ⟨_, hx2.out.symm⟩
      dsimp only [encS] at hy
      rw [hy]
      gi_wp2
      refine hR.mono ?_
      rintro e W3 (⟨rfl, hJ3⟩ | ⟨ch, rfl, hJp⟩)
      · gi_wp2
        go_roundw
        case rel => exact ⟨_, cut2 rest commaB, cutF rest commaB, rfl, rfl, hx2, by omega, hJ3⟩
        case measure =>
          have h3 := hml.out
          cases hcf : cutF rest commaB with
          | true => have := h3 hcf; simp [msr]; omega
          | false => simp [msr]
      · gi_wp2
        exact ⟨rfl, .inr ⟨ch, _, rfl, ⟨_, hx2.out.symm⟩, hJp⟩⟩

theorem parts1_seq (n : Nat) (s : ByteArray) (hs : s.size ≤ 65536) (Ba : Nat) (w : World) (hba : Ba < w.heap.size) (hBa : w.cell? ⟨Ba, 0, none⟩ = some (.string s)) (I : List ByteArray → World → Prop) (hV : ∀ pre X, I pre X → Vars X) :
    SeqThrows n Tryd.prog 35 #[.pointer (some ⟨Ba, 0, none⟩)] encS (partsOf s) w I := fun l J Jp W hW hd hJI hY h0 =>
  parts1_in n s hs Ba l J Jp W hd (fun pre X h => hV pre X (hJI pre X h)) hY ((hW.cell (p := ⟨Ba, 0, none⟩) hba).trans hBa) h0
theorem parts1_enters : ∀ args w, (callFunc 35 args).run Tryd.prog w = .ok (.enter 35 args) w := enters_of Tryd.func35 (by kernel_rfl) rfl
theorem parts_any (s : ByteArray) (w : World) :
    Calls Tryd.prog 22 #[.string s] w fun e w' => e = .returned (.func (.func 35) #[] #[.pointer (some ⟨w.heap.size, 0, none⟩)]) ∧ w' = w.alloc (.cells #[.string s] 9) := by
  have hmf : ∀ (fn : Fn) (first cap : Array Value) (w : World), (Instr.makeFunc fn first cap).run Tryd.prog w = .ok (.func fn first cap) w := fun _ _ _ _ => rfl
  go_enter Tryd.func22, Tryd.ntmps22
  go_wp2
  go_ret
  exact ⟨rfl, rfl⟩
end Go.Proofs.YtbmfehkahjeobaaDoor
