/-
  PLAIN: heaps in a list whose elements have keys; one that stands wrong.
-/
import Derived.Test.YtcjoemejoeekiaaHa
namespace Go.Proofs.Ytcjoemejoeekiaa.Hp
section
variable {E : Type} {key : E → Int}
def sx (G : List E) (i j : Nat) : List E :=
  match G[i]?, G[j]? with
  | some a, some b => (G.set i b).set j a
  | _, _ => G
theorem sx_eq {G : List E} {i j : Nat} {a b : E} (hi : G[i]? = some a) (hj : G[j]? = some b) : sx G i j = (G.set i b).set j a := by unfold sx; rw [hi, hj]
theorem sx_len (G : List E) (i j : Nat) : (sx G i j).length = G.length := by unfold sx; split <;> simp
theorem sx_perm (G : List E) (i j : Nat) : (sx G i j).Perm G := by
  unfold sx
  split
  · rename_i a b hi hj
    obtain ⟨h1, e1⟩ := List.getElem?_eq_some_iff.1 hi
    obtain ⟨h2, e2⟩ := List.getElem?_eq_some_iff.1 hj
    have := (Array.swap_perm (xs := G.toArray) (i := i) (j := j) (by simpa using h1) (by simpa using h2)).toList
    simpa [Array.swap, e1, e2] using this
  · exact List.Perm.refl _
theorem sx_map {G : List E} {i j : Nat} (hi : i < G.length) (hj : j < G.length) : (sx G i j).map key = sw (G.map key) i j := by
  rw [sx_eq (List.getElem?_eq_getElem hi) (List.getElem?_eq_getElem hj)]
  unfold sw at'
  simp [List.map_set, List.getD_eq_getElem?_getD, hi, hj]
theorem sx_far (G : List E) {i j k : Nat} (h1 : k ≠ i) (h2 : k ≠ j) : (sx G i j)[k]? = G[k]? := by
  unfold sx
  split
  · rw [List.getElem?_set_ne (fun e => h2 e.symm), List.getElem?_set_ne (fun e => h1 e.symm)]
  · rfl
end
/-- All is in order but the number at j. -/
structure Fx (H : List Int) (n j : Nat) : Prop where
  o : ∀ i, 0 < i → i < n → i ≠ j → (i - 1) / 2 ≠ j → at' H ((i - 1) / 2) ≤ at' H i
  c : ∀ i, 0 < i → i < n → (i - 1) / 2 = j → 0 < j → at' H ((j - 1) / 2) ≤ at' H i
theorem Dn.fx {H : List Int} {n j : Nat} (h : Dn H n j) : Fx H n j := ⟨fun i h0 hi _ hp => h.o i h0 hi hp, h.c⟩
theorem Fx.up {H : List Int} {n j : Nat} (h : Fx H n j) (hj : j < n) (hk : ∀ i, 0 < i → i < n → (i - 1) / 2 = j → at' H j ≤ at' H i) : Up H n j := by
  refine ⟨hj, fun i h0 hi hne => ?_, h.c⟩
  by_cases e : (i - 1) / 2 = j
  · rw [e]; exact hk i h0 hi e
  · exact h.o i h0 hi hne e
theorem Fx.leaf {H : List Int} {n j : Nat} (h : Fx H n j) (hj : j < n) (hl : n ≤ 2 * j + 1) : Up H n j := h.up hj (fun i h0 hi hp => by omega)
theorem Fx.kids {H : List Int} {n j : Nat} (h : Fx H n j) (hj : j < n) (hle : at' H j ≤ at' H (kid H n j)) : Up H n j :=
  h.up hj (fun i h0 hi hp => by have := kid_min (H := H) i h0 hi hp; omega)
theorem Fx.next {H : List Int} {n j : Nat} (h : Fx H n j) (hl : n ≤ H.length) (hj : 2 * j + 1 < n) (hlt : at' H (kid H n j) < at' H j) : Dn (sw H j (kid H n j)) n (kid H n j) := by
  have hk := kid_lt (H := H) hj
  have hp := kid_par H n j
  have hg := kid_gt H n j
  have hm := kid_min (H := H) (n := n) (j := j)
  generalize kid H n j = k at *
  have S := sw_at (H := H) (i := j) (j := k) (by omega) (by omega)
  refine ⟨fun i hi0 hin hne => ?_, fun i hi0 hin hpi hpp => ?_⟩
  · rw [S, S, if_neg hne]
    by_cases e1 : i = k
    · subst e1
      rw [if_pos hp, if_pos rfl]; omega
    · rw [if_neg e1]
      by_cases e2 : (i - 1) / 2 = j
      · rw [if_pos e2, if_neg (by omega)]; exact hm i hi0 hin e2
      · rw [if_neg e2]
        by_cases e3 : i = j
        · subst e3
          rw [if_pos rfl]
          exact h.c k (by omega) hk hp hi0
        · rw [if_neg e3]; exact h.o i hi0 hin e3 e2
  · rw [S, S, hp, if_neg (by omega), if_pos rfl, if_neg (by omega), if_neg (by omega)]
    have := h.o i hi0 hin (by omega) (by omega)
    rw [hpi] at this
    exact this
theorem fx_of {H H' : List Int} {m n j : Nat} (h : HeapP H m) (hn : n ≤ m) (hs : ∀ i, i < n → i ≠ j → at' H' i = at' H i) : Fx H' n j := by
  refine ⟨fun i h0 hi hne hp => ?_, fun i h0 hi hp hj => ?_⟩
  · rw [hs i hi hne, hs _ (by omega) hp]; exact h i h0 (by omega)
  · rw [hs i hi (by omega), hs _ (by omega) (by omega)]
    have h1 := h i h0 (by omega)
    have h2 := h j hj (by omega)
    rw [hp] at h1
    omega
theorem at_left {A C : List Int} {i : Nat} (h : i < A.length) : at' (A ++ C) i = at' A i := by unfold at'; simp [List.getD_eq_getElem?_getD, List.getElem?_append_left h]
theorem at_take {G : List Int} {n i : Nat} (h : i < n) : at' (G.take n) i = at' G i := by unfold at'; simp [List.getD_eq_getElem?_getD, List.getElem?_take, h]
theorem up_snoc {H : List Int} (h : HeapP H H.length) (x : Int) : Up (H ++ [x]) (H ++ [x]).length H.length := by
  have e : (H ++ [x]).length = H.length + 1 := by simp
  refine ⟨by omega, fun i h0 hi hne => ?_, fun i h0 hi hp hj => by omega⟩
  rw [at_left (by omega), at_left (by omega)]
  exact h i h0 (by omega)
theorem kid_right {G : List Int} {n i : Nat} (h : 2 * i + 2 < n) (hl : at' G (2 * i + 2) < at' G (2 * i + 1)) : kid G n i = 2 * i + 2 := if_pos ⟨h, hl⟩
theorem kid_left {G : List Int} {n i : Nat} (h : ¬ (2 * i + 2 < n ∧ at' G (2 * i + 2) < at' G (2 * i + 1))) : kid G n i = 2 * i + 1 := if_neg h
end Go.Proofs.Ytcjoemejoeekiaa.Hp
