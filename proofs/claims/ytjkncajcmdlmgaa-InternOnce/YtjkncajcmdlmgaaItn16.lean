/-
  PROVED HERE: plain facts on tables as lists (no Go text): a label that is asked for once more is at its place, and dropped again the table is as it was. No condition.
-/
import Derived.Test.YtjkncajcmdlmgaaItn15
namespace Go.Proofs.Ytjkncajcmdlmgaa
set_option linter.unusedVariables false

theorem zip_maps {LL : List (List (Int × Int))} {CC : List Int} (h : LL.length = CC.length) : (LL.zip CC).map (·.1) = LL ∧ (LL.zip CC).map (·.2) = CC := by
  constructor
  · exact List.map_fst_zip (by omega)
  · exact List.map_snd_zip (by omega)
theorem usd_set {Z : Zt} {i : Nat} {x : List (Int × Int) × Int} (hi : i < Z.length) (h : (zat Z i).2 ≠ 0) (hx : x.2 ≠ 0) : usd (Z.set i x) = usd Z := by
  have e' : Z[i] = zat Z i := by have := zat_lt hi; rw [List.getElem?_eq_getElem hi] at this; exact Option.some.inj this
  have hp : 0 < usd Z := by unfold usd; rw [List.countP_pos_iff]; exact ⟨zat Z i, List.mem_of_getElem? (zat_lt hi), by simp [h]⟩
  unfold usd at hp ⊢
  rw [List.countP_set hi, e']
  simp [h, hx]
  omega
theorem usd_fill {Z : Zt} {i : Nat} {x : List (Int × Int) × Int} (hi : i < Z.length) (h : (zat Z i).2 = 0) (hx : x.2 ≠ 0) : usd (Z.set i x) = usd Z + 1 := by
  have e' : Z[i] = zat Z i := by have := zat_lt hi; rw [List.getElem?_eq_getElem hi] at this; exact Option.some.inj this
  unfold usd
  rw [List.countP_set hi, e']
  simp [h, hx]
theorem usd_app {Z : Zt} {x : List (Int × Int) × Int} (hx : x.2 ≠ 0) : usd (Z ++ [x]) = usd Z + 1 := by
  unfold usd; rw [List.countP_append]; simp [hx]
theorem usd_all {Z : Zt} (h : free Z = Z.length) : usd Z = Z.length := by
  unfold usd
  rw [List.countP_eq_length]
  intro x hx
  obtain ⟨j, hj, e⟩ := List.getElem_of_mem hx
  have e' : Z[j] = zat Z j := by have := zat_lt hj; rw [List.getElem?_eq_getElem hj] at this; exact Option.some.inj this
  have := free_lt (Z := Z) (j := j) (by omega)
  rw [← e, e']; simp [this]
theorem usd_less {Z : Zt} (h : free Z < Z.length) : usd Z < Z.length := by
  have hz := free_at h
  have h1 : usd (Z.set (free Z) ([], 1)) = usd Z + 1 := usd_fill h hz (by simp)
  have h2 := usd_le (Z.set (free Z) ([], 1))
  rw [List.length_set] at h2
  omega
theorem usd_full {Z : Zt} (hF : FitP Z) (h : free Z = 64) : usd Z = 64 := by
  have h1 := free_le Z
  have h2 := hF.len
  rw [usd_all (by omega)]; omega
theorem usd_room {Z : Zt} (hF : FitP Z) (h : free Z ≠ 64) : usd Z < 64 := by
  have h1 := free_le Z
  have h2 := hF.len
  by_cases hf : free Z < Z.length
  · have := usd_less hf; omega
  · rw [usd_all (by omega)]; omega
/-- Asked for once more. -/
theorem more_find {Z : Zt} {L : List (Int × Int)} {i : Nat} {x : Int} (hf : fnd Z L = some i) (hx : x ≠ 0) : fnd (Z.set i ((zat Z i).1, x)) L = some i := by
  obtain ⟨hi, ⟨h0, hl⟩, hb⟩ := fnd_some.1 hf
  refine fnd_some.2 ⟨by simpa using hi, by rw [zat_set, if_pos ⟨rfl, hi⟩]; exact ⟨hx, hl⟩, fun j hj => ?_⟩
  rw [zat_set, if_neg (by omega)]; exact hb j hj
theorem more_back {Z : Zt} {i : Nat} (hF : FitP Z) (hi : i < Z.length) (h0 : (zat Z i).2 ≠ 0) : dropR (Z.set i ((zat Z i).1, (zat Z i).2 + 1)) (i : Int) = (Z, 0) := by
  obtain ⟨s0, s1, s2, s3⟩ := hF.stand i hi
  have hz : zat (Z.set i ((zat Z i).1, (zat Z i).2 + 1)) i = ((zat Z i).1, (zat Z i).2 + 1) := by rw [zat_set, if_pos ⟨rfl, hi⟩]
  have ha : asksB (Z.set i ((zat Z i).1, (zat Z i).2 + 1)) (i : Int) = true := asks_iff.2 ⟨by omega, by rw [List.length_set]; omega, by rw [show ((i : Int)).toNat = i from rfl, hz]; show _ + 1 ≠ (0 : Int); omega⟩
  unfold dropR
  rw [ha, if_pos rfl, show ((i : Int)).toNat = i from rfl]
  have hd : dropI (Z.set i ((zat Z i).1, (zat Z i).2 + 1)) i = Z := by
    unfold dropI less
    rw [hz]
    show (Z.set i _).set i (if (zat Z i).2 + 1 - 1 = 0 then [] else (zat Z i).1, (zat Z i).2 + 1 - 1) = Z
    rw [if_neg (by omega), List.set_set, show (zat Z i).2 + 1 - 1 = (zat Z i).2 by omega]
    apply List.ext_getElem?
    intro j
    rw [List.getElem?_set]
    by_cases hj : i = j
    · subst hj; rw [if_pos rfl, if_pos hi, zat_lt hi]
    · rw [if_neg hj]
  rw [hd, trim_id hF.last]
theorem new_find {Z : Zt} {L : List (Int × Int)} (hf : fnd Z L = none) : fnd (putAt Z (free Z) (L, 1)) L = some (free Z) := by
  have hfl := free_le Z
  refine fnd_some.2 ⟨by rw [len_putAt]; split <;> omega, by rw [zat_putAt hfl, if_pos rfl]; simp, fun j hj => ?_⟩
  rw [zat_putAt hfl, if_neg (by omega)]
  exact fnd_none.1 hf j (by omega)
theorem new_used {Z : Zt} {L : List (Int × Int)} : usd (putAt Z (free Z) (L, 1)) = usd Z + 1 := by
  have hfl := free_le Z
  unfold putAt
  by_cases h : free Z = Z.length
  · rw [if_pos h]; exact usd_app (by simp)
  · rw [if_neg h]; exact usd_fill (by omega) (free_at (by omega)) (by simp)
theorem new_back {Z : Zt} {L : List (Int × Int)} (hF : FitP Z) : dropR (putAt Z (free Z) (L, 1)) ((free Z : Nat) : Int) = (Z, 0) := by
  have hfl := free_le Z
  have hz : zat (putAt Z (free Z) (L, 1)) (free Z) = (L, 1) := by rw [zat_putAt hfl, if_pos rfl]
  have hlp : free Z < (putAt Z (free Z) (L, 1)).length := by rw [len_putAt]; split <;> omega
  have ha : asksB (putAt Z (free Z) (L, 1)) ((free Z : Nat) : Int) = true := asks_iff.2 ⟨by omega, by omega, by rw [show ((free Z : Nat) : Int).toNat = free Z from rfl, hz]; simp⟩
  have hd : dropI (putAt Z (free Z) (L, 1)) (free Z) = putAt Z (free Z) ([], 0) := by
    unfold dropI less
    rw [hz]
    unfold putAt
    by_cases h : free Z = Z.length
    · rw [if_pos h, if_pos h, h, List.set_append_right _ _ (Nat.le_refl _)]; simp
    · rw [if_neg h, if_neg h, List.set_set]; simp
  unfold dropR
  rw [ha, if_pos rfl, show ((free Z : Nat) : Int).toNat = free Z from rfl, hd]
  unfold putAt
  by_cases h : free Z = Z.length
  · rw [if_pos h]
    have he : endOf (Z ++ [([], 0)]) = Z.length := endOf_of (fun j h1 h2 => by
        simp at h2
        obtain rfl : j = Z.length := by omega
        rw [zat_app, if_pos rfl]) (fun hp => by rw [zat_app, if_neg (by omega)]; exact hF.last hp)
    unfold trim
    rw [he, List.take_left' rfl]
  · rw [if_neg h]
    have hs : Z.set (free Z) ([], 0) = Z := by
      have hlt : free Z < Z.length := by omega
      have h0 := free_at hlt
      obtain ⟨_, _, _, s3⟩ := hF.stand _ hlt
      have hl : (zat Z (free Z)).1 = [] := by rcases s3 with s | s; omega; exact s
      apply List.ext_getElem?
      intro j
      rw [List.getElem?_set]
      by_cases hj : free Z = j
      · rw [if_pos hj, if_pos hlt, ← hj, zat_lt hlt]
        rw [← hl, ← h0]
      · rw [if_neg hj]
    rw [hs, trim_id hF.last]
end Go.Proofs.Ytjkncajcmdlmgaa
